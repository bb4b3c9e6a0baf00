/- The law ShaTurns, walked: it answers true whatever the two texts and the state. -/
import Derived.Test.YtojeoiiobpdccaaDoorEq
namespace Go.Proofs.YtojeoiiobpdccaaDoor
open Go.RowKit
theorem hex_any (s x : ByteArray) (hs : s.size ≤ 2147483648) (hx : Hid (x = ⟨(Sh.hexOf s.data.toList).toArray⟩)) (w : World) :
    Calls Tryd.prog 11 #[.string s] w fun e w' => e = .returned (.string x) ∧ Below w.heap.size w w' := by
  rw [hx.out]; exact hex11 s hs w
theorem rest_short (l : List UInt8) (h : l.length < 64) : Sh.restOf l = l := by
  unfold Sh.restOf
  rw [Nat.mod_eq_of_lt h, Nat.sub_self, List.drop_zero]
theorem chg_short (s : Sh.S8) (l : List UInt8) (h : l.length < 64) : Sh.chgAll s l = s := by
  unfold Sh.chgAll
  rw [Nat.div_eq_of_lt h]
  rfl
set_option maxHeartbeats 2000000 in
theorem turns6_yes (a b : ByteArray) (s : Sh.S8) (hs : s.ok) (c : Nat) (r : ByteArray) (ha : a.size ≤ 1048576) (hb : b.size ≤ 1048576) (hc : c < 1152921504606846976) (hr : r.size < 64) (hyes : Sh.rightB c r.size = true) (w : World) (hK : HasK w) :
    Calls Tryd.prog 6 #[.string a, .string b, .agg #[.int .u32 s.a, .int .u32 s.b, .int .u32 s.c, .int .u32 s.d, .int .u32 s.e, .int .u32 s.f, .int .u32 s.g, .int .u32 s.h, .int .u64 c, .string r]] w fun e w' => e = .returned (.bool true) ∧ Below w.heap.size w w' := by
  obtain ⟨ab, hab⟩ : ∃ x, x = a ++ b := ⟨_, rfl⟩
  have habl : ab.data.toList = a.data.toList ++ b.data.toList := by rw [hab]; simp
  have habs : ab.size ≤ 2147483648 := by rw [Lib.size_eq, habl, List.length_append, ← Lib.size_eq, ← Lib.size_eq]; omega
  have hadd1 : ∀ W, (Op.stringOp .add a b).run Tryd.prog W = .ok (.string ab) W := fun W => by rw [hab]; exact run_string_add_sum W a b (by omega)
  obtain ⟨xa, hxa⟩ : ∃ x : ByteArray, x = ⟨(Sh.hexOf a.data.toList).toArray⟩ := ⟨_, rfl⟩
  obtain ⟨xb, hxb⟩ : ∃ x : ByteArray, x = ⟨(Sh.hexOf b.data.toList).toArray⟩ := ⟨_, rfl⟩
  obtain ⟨xab, hxab⟩ : ∃ x : ByteArray, x = ⟨(Sh.hexOf ab.data.toList).toArray⟩ := ⟨_, rfl⟩
  have hxas : xa.size = 2 * a.size := by rw [Lib.size_eq, hxa, Lib.size_eq]; exact Sh.hexOf_length _
  have hxbs : xb.size = 2 * b.size := by rw [Lib.size_eq, hxb, Lib.size_eq]; exact Sh.hexOf_length _
  have hsum : xa ++ xb = xab := by
    rw [hxab, habl, Sh.hexOf_append, hxa, hxb]
    apply ByteArray.ext
    simp
  have hadd2 : ∀ W, (Op.stringOp .add xa xb).run Tryd.prog W = .ok (.string xab) W := fun W => by rw [← hsum]; exact run_string_add_sum W xa xb (by omega)
  have hlen : (xa.size : Int) = 2 * (a.size : Int) := by omega
  obtain ⟨d, hd⟩ : ∃ d : ByteArray, d = ⟨(Sh.fin s r.data.toList c).toArray⟩ := ⟨_, rfl⟩
  have hds : (d.size : Int) = 32 := by
    have : d.size = 32 := by rw [Lib.size_eq, hd]; exact Sh.fin_length _ _ _
    omega
  have hrl : r.data.toList.length < 64 := by rw [← Lib.size_eq]; exact hr
  have c15 : ∀ W, HasK W → Calls Tryd.prog 15 #[.agg #[.int .u32 s.a, .int .u32 s.b, .int .u32 s.c, .int .u32 s.d, .int .u32 s.e, .int .u32 s.f, .int .u32 s.g, .int .u32 s.h, .int .u64 c, .string r]] W fun e w' => e = .returned (.tuple #[.string d, .int .i64 0]) ∧ Below W.heap.size W w' := fun W hW => by
    rw [hd]; exact end15_yes s hs c r hc (by omega) hyes W hW
  have c13 : ∀ W, HasK W → Calls Tryd.prog 13 #[.agg #[.int .u32 s.a, .int .u32 s.b, .int .u32 s.c, .int .u32 s.d, .int .u32 s.e, .int .u32 s.f, .int .u32 s.g, .int .u32 s.h, .int .u64 c, .string r], .string ⟨#[]⟩] W fun e w' => e = .returned (.tuple #[.agg #[.int .u32 s.a, .int .u32 s.b, .int .u32 s.c, .int .u32 s.d, .int .u32 s.e, .int .u32 s.f, .int .u32 s.g, .int .u32 s.h, .int .u64 c, .string r], .int .i64 0]) ∧ Below W.heap.size W w' := fun W hW =>
    add13_yes s s hs c c r ⟨#[]⟩ r hc (by omega) (by decide) hyes rfl hc
      (by show s = _; rw [show r.data.toList ++ (⟨#[]⟩ : ByteArray).data.toList = r.data.toList by simp, chg_short s _ hrl])
      (by show r = _; rw [show r.data.toList ++ (⟨#[]⟩ : ByteArray).data.toList = r.data.toList by simp, rest_short _ hrl, Lib.mk_data]) W hW
  have HXA : Hid (xa = _) := hxa
  have HXB : Hid (xb = _) := hxb
  have HXAB : Hid (xab = _) := hxab
  have C15 : Hid (∀ W, _ → _) := c15
  have C13 : Hid (∀ W, _ → _) := c13
  have HK : Hid (HasK w) := hK
  have hB : 0 < w.heap.size := hK.1
  clear c15 c13 hd hrl hsum hxa hxb hxab hxas hxbs hab habl hyes hK hs
  go_enter Tryd.func6, Tryd.ntmps6
  go_wp2_with fail
  have X0 : Hid (XI w (w.alloc (.cells #[.int .u32 s.a, .int .u32 s.b, .int .u32 s.c, .int .u32 s.d, .int .u32 s.e, .int .u32 s.f, .int .u32 s.g, .int .u32 s.h, .int .u64 c, .string r] 29)) s c r) := XI.start w s c r
  refine (lives8 _ (HK.out.below hB X0.out.2.2)).mono ?_
  rintro e w1 ⟨rfl, hb1⟩
  have X1 : Hid (XI w w1 s c r) := X0.out.call hb1
  clear hb1 X0
  go_wp2_with fail
  refine (hex_any ab xab habs HXAB _).mono ?_
  rintro e w2 ⟨rfl, hb2⟩
  have X2 : Hid (XI w w2 s c r) := X1.out.call hb2
  clear hb2 X1
  go_wp2_with fail
  refine (hex_any a xa (by omega) HXA _).mono ?_
  rintro e w3 ⟨rfl, hb3⟩
  have X3 : Hid (XI w w3 s c r) := X2.out.call hb3
  clear hb3 X2
  go_wp2_with fail
  refine (hex_any b xb (by omega) HXB _).mono ?_
  rintro e w4 ⟨rfl, hb4⟩
  have X4 : Hid (XI w w4 s c r) := X3.out.call hb4
  clear hb4 X3
  go_wp2_with fail
  refine (hex_any a xa (by omega) HXA _).mono ?_
  rintro e w5 ⟨rfl, hb5⟩
  have X5 : Hid (XI w w5 s c r) := X4.out.call hb5
  clear hb5 X4
  obtain ⟨d0, d1, d2, d3, d4, d5, d6, d7, d8, d9⟩ := X5.out.cells
  go_wp2_with fail
  refine (C15.out _ (HK.out.below hB X5.out.2.2)).mono ?_
  rintro e w6 ⟨rfl, hb6⟩
  have X6 : Hid (XI w w6 s c r) := X5.out.call hb6
  clear hb6 X5 d0 d1 d2 d3 d4 d5 d6 d7 d8 d9
  obtain ⟨d0, d1, d2, d3, d4, d5, d6, d7, d8, d9⟩ := X6.out.cells
  go_wp2_with fail
  refine (C13.out _ (HK.out.below hB X6.out.2.2)).mono ?_
  rintro e w7 ⟨rfl, hb7⟩
  have X7 : Hid (XI w w7 s c r) := X6.out.call hb7
  clear hb7 X6 d0 d1 d2 d3 d4 d5 d6 d7 d8 d9
  obtain ⟨d0, d1, d2, d3, d4, d5, d6, d7, d8, d9⟩ := X7.out.cells
  have hlt7 : w.heap.size < w7.heap.size := by have := X7.out.2.1; omega
  have heq := eq26 s.a s.b s.c s.d s.e s.f s.g s.h
  go_wp2
  go_ret
  exact ⟨rfl, X7.out.2.2.alloc (by omega) _⟩
set_option maxHeartbeats 2000000 in
theorem turns6_no (a b : ByteArray) (s : Sh.S8) (c : Nat) (r : ByteArray) (ha : a.size ≤ 1048576) (hb : b.size ≤ 1048576) (hc : c < 18446744073709551616) (hr : r.size ≤ 1048576) (hno : Sh.rightB c r.size = false) (w : World) (hK : HasK w) :
    Calls Tryd.prog 6 #[.string a, .string b, .agg #[.int .u32 s.a, .int .u32 s.b, .int .u32 s.c, .int .u32 s.d, .int .u32 s.e, .int .u32 s.f, .int .u32 s.g, .int .u32 s.h, .int .u64 c, .string r]] w fun e w' => e = .returned (.bool true) ∧ Below w.heap.size w w' := by
  obtain ⟨ab, hab⟩ : ∃ x, x = a ++ b := ⟨_, rfl⟩
  have habl : ab.data.toList = a.data.toList ++ b.data.toList := by rw [hab]; simp
  have habs : ab.size ≤ 2147483648 := by rw [Lib.size_eq, habl, List.length_append, ← Lib.size_eq, ← Lib.size_eq]; omega
  have hadd1 : ∀ W, (Op.stringOp .add a b).run Tryd.prog W = .ok (.string ab) W := fun W => by rw [hab]; exact run_string_add_sum W a b (by omega)
  obtain ⟨xa, hxa⟩ : ∃ x : ByteArray, x = ⟨(Sh.hexOf a.data.toList).toArray⟩ := ⟨_, rfl⟩
  obtain ⟨xb, hxb⟩ : ∃ x : ByteArray, x = ⟨(Sh.hexOf b.data.toList).toArray⟩ := ⟨_, rfl⟩
  obtain ⟨xab, hxab⟩ : ∃ x : ByteArray, x = ⟨(Sh.hexOf ab.data.toList).toArray⟩ := ⟨_, rfl⟩
  have hxas : xa.size = 2 * a.size := by rw [Lib.size_eq, hxa, Lib.size_eq]; exact Sh.hexOf_length _
  have hxbs : xb.size = 2 * b.size := by rw [Lib.size_eq, hxb, Lib.size_eq]; exact Sh.hexOf_length _
  have hsum : xa ++ xb = xab := by
    rw [hxab, habl, Sh.hexOf_append, hxa, hxb]
    apply ByteArray.ext
    simp
  have hadd2 : ∀ W, (Op.stringOp .add xa xb).run Tryd.prog W = .ok (.string xab) W := fun W => by rw [← hsum]; exact run_string_add_sum W xa xb (by omega)
  have hlen : (xa.size : Int) = 2 * (a.size : Int) := by omega
  have c15 : ∀ W, Calls Tryd.prog 15 #[.agg #[.int .u32 s.a, .int .u32 s.b, .int .u32 s.c, .int .u32 s.d, .int .u32 s.e, .int .u32 s.f, .int .u32 s.g, .int .u32 s.h, .int .u64 c, .string r]] W fun e w' => e = .returned (.tuple #[.string ⟨#[]⟩, .int .i64 6]) ∧ Below W.heap.size W w' := fun W => end15_no s c r hc (by omega) hno W
  have c13 : ∀ W, Calls Tryd.prog 13 #[.agg #[.int .u32 s.a, .int .u32 s.b, .int .u32 s.c, .int .u32 s.d, .int .u32 s.e, .int .u32 s.f, .int .u32 s.g, .int .u32 s.h, .int .u64 c, .string r], .string ⟨#[]⟩] W fun e w' => e = .returned (.tuple #[.agg #[.int .u32 0, .int .u32 0, .int .u32 0, .int .u32 0, .int .u32 0, .int .u32 0, .int .u32 0, .int .u32 0, .int .u64 0, .string ⟨#[]⟩], .int .i64 6]) ∧ Below W.heap.size W w' := fun W => add13_no s c r ⟨#[]⟩ hc (by omega) hno W
  have HXA : Hid (xa = _) := hxa
  have HXB : Hid (xb = _) := hxb
  have HXAB : Hid (xab = _) := hxab
  have C15 : Hid (∀ W, _) := c15
  have C13 : Hid (∀ W, _) := c13
  have HK : Hid (HasK w) := hK
  have hB : 0 < w.heap.size := hK.1
  clear c15 c13 hsum hxa hxb hxab hxas hxbs hab habl hno hK
  go_enter Tryd.func6, Tryd.ntmps6
  go_wp2_with fail
  have X0 : Hid (XI w (w.alloc (.cells #[.int .u32 s.a, .int .u32 s.b, .int .u32 s.c, .int .u32 s.d, .int .u32 s.e, .int .u32 s.f, .int .u32 s.g, .int .u32 s.h, .int .u64 c, .string r] 29)) s c r) := XI.start w s c r
  refine (lives8 _ (HK.out.below hB X0.out.2.2)).mono ?_
  rintro e w1 ⟨rfl, hb1⟩
  have X1 : Hid (XI w w1 s c r) := X0.out.call hb1
  clear hb1 X0
  go_wp2_with fail
  refine (hex_any ab xab habs HXAB _).mono ?_
  rintro e w2 ⟨rfl, hb2⟩
  have X2 : Hid (XI w w2 s c r) := X1.out.call hb2
  clear hb2 X1
  go_wp2_with fail
  refine (hex_any a xa (by omega) HXA _).mono ?_
  rintro e w3 ⟨rfl, hb3⟩
  have X3 : Hid (XI w w3 s c r) := X2.out.call hb3
  clear hb3 X2
  go_wp2_with fail
  refine (hex_any b xb (by omega) HXB _).mono ?_
  rintro e w4 ⟨rfl, hb4⟩
  have X4 : Hid (XI w w4 s c r) := X3.out.call hb4
  clear hb4 X3
  go_wp2_with fail
  refine (hex_any a xa (by omega) HXA _).mono ?_
  rintro e w5 ⟨rfl, hb5⟩
  have X5 : Hid (XI w w5 s c r) := X4.out.call hb5
  clear hb5 X4
  obtain ⟨d0, d1, d2, d3, d4, d5, d6, d7, d8, d9⟩ := X5.out.cells
  go_wp2_with fail
  refine (C15.out _).mono ?_
  rintro e w6 ⟨rfl, hb6⟩
  have X6 : Hid (XI w w6 s c r) := X5.out.call hb6
  clear hb6 X5 d0 d1 d2 d3 d4 d5 d6 d7 d8 d9
  obtain ⟨d0, d1, d2, d3, d4, d5, d6, d7, d8, d9⟩ := X6.out.cells
  go_wp2_with fail
  refine (C13.out _).mono ?_
  rintro e w7 ⟨rfl, hb7⟩
  have X7 : Hid (XI w w7 s c r) := X6.out.call hb7
  clear hb7 X6 d0 d1 d2 d3 d4 d5 d6 d7 d8 d9
  obtain ⟨d0, d1, d2, d3, d4, d5, d6, d7, d8, d9⟩ := X7.out.cells
  have hlt7 : w.heap.size < w7.heap.size := by have := X7.out.2.1; omega
  have heq := eq26 0 0 0 0 0 0 0 0
  go_wp2
  go_ret
  exact ⟨rfl, X7.out.2.2.alloc (by omega) _⟩
end Go.Proofs.YtojeoiiobpdccaaDoor
