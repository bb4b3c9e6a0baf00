/- lives, walked: the answers that the document gives are given. -/
import Derived.Test.YtbogggnnmbjlfaaDoorBinRd
import Derived.Test.YtbogggnnmbjlfaaDoorBinWrite
import Derived.Test.YtbogggnnmbjlfaaDoorRSameA
namespace Go.Proofs.YtbogggnnmbjlfaaDoor
open Go.RowKit
open Vl (V)
namespace Bn
/-- the value of lives -/
def tv : V := ⟨6, false, 0, ⟨#[]⟩, [], [(⟨#[97]⟩, ⟨2, false, -1, ⟨#[]⟩, [], []⟩)]⟩
theorem tv_bytes : bytes tv = [7, 1, 1, 97, 3, 1] := by
  have e1 : num 1 = [1] := by rw [num_low (by omega)]; rfl
  have e2 : fold (-1) = 1 := by decide
  rw [tv, bytes]
  simp only [show ¬ (6 : Nat) = 0 by omega, show ¬ (6 : Nat) = 1 by omega, show ¬ (6 : Nat) = 2 by omega, show ¬ (6 : Nat) = 3 by omega, show ¬ (6 : Nat) = 4 by omega, show ¬ (6 : Nat) = 5 by omega, if_false, if_true]
  rw [bytesF, bytesF, bytes, text]
  simp only [show ¬ (2 : Nat) = 0 by omega, show ¬ (2 : Nat) = 1 by omega, if_false, if_true, List.length_cons, List.length_nil, e2]
  rw [show (⟨#[97]⟩ : ByteArray).size = 1 from rfl, show 0 + 1 = 1 from rfl, e1]
  rfl
theorem tv_fit : fit tv := by
  rw [tv, fit, fitL, fitF, fitF, fit, fitL, fitF]
  exact ⟨by omega, fun _ => rfl, fun _ => rfl, fun _ _ => rfl, fun _ => rfl, fun h => absurd rfl h, by omega, by decide, by simp, by simp, trivial, ⟨by decide, by omega, fun _ => rfl, fun h => absurd rfl h, fun _ _ => rfl, fun _ => rfl, fun _ => rfl, by omega, by decide, by simp, by simp, trivial, trivial⟩, trivial⟩
theorem u8_a : u8 ⟨#[97]⟩ = true := by decide
theorem tv_check : Vl.check u8 0 tv = 0 := by
  have s1 : (⟨#[97]⟩ : ByteArray).size = 1 := rfl
  have s0 : (⟨#[]⟩ : ByteArray).size = 0 := rfl
  rw [tv, Vl.check, Vl.checkL, Vl.checkF, Vl.check, Vl.checkL, Vl.checkF, Vl.checkF]
  simp [Vl.alone, Vl.strange, Vl.nameErr, Vl.notUp, s1, s0, u8_a]
theorem tv_is : Is ⟨#[7, 1, 1, 97, 3, 1]⟩ tv := ⟨by decide, tv_fit, by rw [tv_bytes], tv_check⟩
theorem no8 (t : V) : ¬ Is ⟨#[8]⟩ t := fun h => by
  have e := h.2.2.1
  rw [bytes_hd t h.2.1] at e
  have h1 := hd_lt t h.2.1
  have h2 : (8 : UInt8) = hd t := by injection e
  rw [← h2] at h1
  exact absurd h1 (by decide)
theorem tv_werr : werr tv = 0 ∧ wtext tv = ⟨#[7, 1, 1, 97, 3, 1]⟩ := by
  have h := werr_ok tv_check (by rw [tv_bytes]; decide)
  rw [tv_bytes] at h
  exact h
theorem num300 : num 300 = [172, 2] := by
  rw [num_high (by omega), show 300 / 128 = 2 from rfl, num_low (by omega)]; rfl
end Bn
theorem tv_rep {W : World} {F H : Nat} (hF : F < H) (hr : W.heap[F]? = some (.cells #[.string ⟨#[97]⟩, .int .u8 2, .bool false, .int .i64 (-1), .string ⟨#[]⟩, .slice none 0 0, .slice none 0 0] 39 (0, 0))) : Rep W H Bn.tv (.agg #[.int .u8 6, .bool false, .int .i64 0, .string ⟨#[]⟩, .slice none 0 0, .slice (some ⟨F, 0, none⟩) 1 1]) := by
  rw [Bn.tv, Rep]
  refine ⟨none, 0, some ⟨F, 0, none⟩, 1, rfl, by omega, by omega, by decide, by simp, by simp [maxLen], fun h => by simp at h, fun _ => ⟨F, 0, rfl, hF, ?_⟩⟩
  rw [RepF, RepF]
  refine ⟨⟨block_cells hr 0 _ rfl, by decide, _, _, _, _, _, _, ⟨block_cells hr 1 _ rfl, block_cells hr 2 _ rfl, block_cells hr 3 _ rfl, block_cells hr 4 _ rfl, block_cells hr 5 _ rfl, block_cells hr 6 _ rfl⟩, ?_⟩, trivial⟩
  rw [Rep]
  exact ⟨none, 0, none, 0, rfl, by omega, by omega, by decide, by simp, by simp, fun h => by simp at h, fun h => by simp at h⟩
/-- lives' own variables -/
structure LV (w0 W : World) (F A : Nat) : Prop where
  below : Below w0.heap.size w0 W
  hF : F = w0.heap.size
  hA : A = F + 1
  row : Row6 W A (.int .u8 6) (.bool false) (.int .i64 0) (.string ⟨#[]⟩) (.slice none 0 0) (.slice (some ⟨F, 0, none⟩) 1 1)
  fld : W.heap[F]? = some (.cells #[.string ⟨#[97]⟩, .int .u8 2, .bool false, .int .i64 (-1), .string ⟨#[]⟩, .slice none 0 0, .slice none 0 0] 39 (0, 0))
theorem LV.call {w0 W W' : World} {F A : Nat} (h : LV w0 W F A) (b : Below W.heap.size W W') : LV w0 W' F A := by
  have := h.row.1
  have := h.hA
  exact ⟨h.below.trans (b.mono h.below.size), h.hF, h.hA, h.row.call b, (b.block F (by omega)).trans h.fld⟩
theorem LV.rep {w0 W : World} {F A : Nat} (h : LV w0 W F A) : Rep W W.heap.size Bn.tv (.agg #[.int .u8 6, .bool false, .int .i64 0, .string ⟨#[]⟩, .slice none 0 0, .slice (some ⟨F, 0, none⟩) 1 1]) := tv_rep (by have := h.row.1; have := h.hA; omega) h.fld
set_option maxHeartbeats 8000000 in
set_option maxRecDepth 10000 in
theorem lives22 (w : World) (hT : Bn.HasU w) : Calls Tryd.prog 22 #[] w fun e w' => e = .returned (.bool true) ∧ Below w.heap.size w w' := by
  obtain ⟨F, hF⟩ : ∃ F, F = w.heap.size := ⟨_, rfl⟩
  obtain ⟨A, hA⟩ : ∃ A, A = F + 1 := ⟨_, rfl⟩
  obtain ⟨w1, hw1⟩ : ∃ w1, w1 = (w.alloc (.cells #[.string ⟨#[97]⟩, .int .u8 2, .bool false, .int .i64 (-1), .string ⟨#[]⟩, .slice none 0 0, .slice none 0 0] 39)).alloc (.cells #[.int .u8 6, .bool false, .int .i64 0, .string ⟨#[]⟩, .slice none 0 0, .slice (some ⟨F, 0, none⟩) 1 1] 26) := ⟨_, rfl⟩
  have V1 : Hid (LV w w1 F A) := by
    refine ⟨?_, hF, hA, ?_, ?_⟩
    · rw [hw1]; exact (below_new _ _).trans ((below_new _ _).mono (by simp))
    · rw [hw1, hA, hF]
      refine ⟨by simp, ?_⟩
      have := heap_alloc_new (w.alloc (.cells #[.string ⟨#[97]⟩, .int .u8 2, .bool false, .int .i64 (-1), .string ⟨#[]⟩, .slice none 0 0, .slice none 0 0] 39)) (.cells #[.int .u8 6, .bool false, .int .i64 0, .string ⟨#[]⟩, .slice none 0 0, .slice (some ⟨w.heap.size, 0, none⟩) 1 1] 26)
      simpa using this
    · rw [hw1, hF, Below.heap_alloc _ _ _ (by simp)]; exact heap_alloc_new w _
  have C18 : Hid (∀ W, LV w W F A → Calls Tryd.prog 18 #[.agg #[.int .u8 6, .bool false, .int .i64 0, .string ⟨#[]⟩, .slice none 0 0, .slice (some ⟨F, 0, none⟩) 1 1]] W fun e w' => e = .returned (.tuple #[.string ⟨#[7, 1, 1, 97, 3, 1]⟩, .int .i64 0]) ∧ Below W.heap.size W w') := fun W hW => by
    have h := write18 Bn.tv W (hT.stays hW.below) W.heap.size _ (Nat.le_refl _) hW.rep
    rw [Bn.tv_werr.1, Bn.tv_werr.2] at h
    exact h
  have CR1 : Hid (∀ W, LV w W F A → Calls Tryd.prog 20 #[.string ⟨#[7, 1, 1, 97, 3, 1]⟩] W fun e w' => ∃ (zk : Nat) (zb : Bool) (zn : Int) (zs : ByteArray) (za : Option Addr) (zl zc : Nat) (ta : Option Addr) (tl tc : Nat), e = .returned (.tuple #[.agg #[.int .u8 (zk : Int), .bool zb, .int .i64 zn, .string zs, .slice za zl zc, .slice ta tl tc], .int .i64 0]) ∧ Below W.heap.size W w' ∧ Rep w' w'.heap.size Bn.tv (.agg #[.int .u8 (zk : Int), .bool zb, .int .i64 zn, .string zs, .slice za zl zc, .slice ta tl tc])) := fun W hW => (read20 ⟨#[7, 1, 1, 97, 3, 1]⟩ W (hT.stays hW.below)).mono (fun e w' ⟨h1, h2⟩ => by
    rcases h2 with ⟨t, zk, zb, zn, zs, za, zl, zc, ta, tl, tc, k1, k2, k3⟩ | ⟨k1, _⟩
    · obtain rfl := k1.one Bn.tv_is
      exact ⟨zk, zb, zn, zs, za, zl, zc, ta, tl, tc, k2, h1, repA_rep (fun g hg => hg.2) _ _ k3⟩
    · exact absurd Bn.tv_is (k1 _))
  have CR2 : Hid (∀ W, LV w W F A → Calls Tryd.prog 20 #[.string ⟨#[8]⟩] W fun e w' => e = .returned (.tuple #[.agg #[.int .u8 0, .bool false, .int .i64 0, .string ⟨#[]⟩, .slice none 0 0, .slice none 0 0], .int .i64 11]) ∧ Below W.heap.size W w') := fun W hW => (read20 ⟨#[8]⟩ W (hT.stays hW.below)).mono (fun e w' ⟨h1, h2⟩ => by
    rcases h2 with ⟨t, zk, zb, zn, zs, za, zl, zc, ta, tl, tc, k1, _⟩ | ⟨_, k2⟩
    · exact absurd k1 (Bn.no8 t)
    · rw [if_neg (by decide)] at k2
      exact ⟨k2, h1⟩)
  have C25 : Hid (∀ W, Calls Tryd.prog 25 #[.int .u64 300] W fun e w' => e = .returned (.string ⟨#[172, 2]⟩) ∧ Below W.heap.size W w') := fun W => by
    have h := number25 300 (by omega) W
    rw [Bn.num300] at h
    exact h
  have C17 : Hid (∀ W va vb, Rep W W.heap.size Bn.tv va → Rep W W.heap.size Bn.tv vb → Calls Tryd.prog 17 #[va, vb] W fun e w' => e = .returned (.bool true) ∧ Below W.heap.size W w') := fun W va vb h1 h2 => by
    have h := rsame17 _ Bn.tv (Nat.le_refl _) Bn.tv W W.heap.size va vb (Nat.le_refl _) h1 h2
    rw [Vl.same_refl] at h
    exact h
  go_enter Tryd.func22, Tryd.ntmps22
  go_upto_region 2 with fail
  rw [← hF, ← hA, ← hw1]
  clear hw1 hA hF
  obtain ⟨p0, p1, p2, p3, p4, p5⟩ := V1.out.row.cells
  go_upto_region 3 with (first
    | (go_at_call 18; refine (C18.out _ V1.out).mono ?_; rintro e w2 ⟨rfl, hb2⟩
       have V2 : Hid (LV w w2 F A) := V1.out.call hb2
       clear hb2))
  clear p0 p1 p2 p3 p4 p5
  go_upto_region 4 with (first
    | (go_at_call 20; refine (CR1.out _ V2.out).mono ?_; rintro e w3 ⟨zk, zb, zn, zs, za, zl, zc, ta, tl, tc, rfl, hb3, hr3⟩
       have V3 : Hid (LV w w3 F A) := V2.out.call hb3
       have H3 : Hid (Rep w3 w3.heap.size Bn.tv (.agg #[.int .u8 (zk : Int), .bool zb, .int .i64 zn, .string zs, .slice za zl zc, .slice ta tl tc])) := hr3
       clear hb3 hr3))
  obtain ⟨E, hE⟩ : ∃ E, E = w3.heap.size := ⟨_, rfl⟩
  obtain ⟨w4, hw4⟩ : ∃ w4, w4 = w3.alloc (.cells #[.int .u8 (zk : Int), .bool zb, .int .i64 zn, .string zs, .slice za zl zc, .slice ta tl tc] 26) := ⟨_, rfl⟩
  have hb4 : Below w3.heap.size w3 w4 := by rw [hw4]; exact below_new _ _
  have V4 : Hid (LV w w4 F A) := V3.out.call hb4
  have R4 : Hid (Row6 w4 E (.int .u8 (zk : Int)) (.bool zb) (.int .i64 zn) (.string zs) (.slice za zl zc) (.slice ta tl tc)) := by
    show Row6 _ _ _ _ _ _ _ _
    rw [hw4, hE]; exact ⟨by simp, heap_alloc_new w3 _⟩
  have H4 : Hid (Rep w4 w4.heap.size Bn.tv (.agg #[.int .u8 (zk : Int), .bool zb, .int .i64 zn, .string zs, .slice za zl zc, .slice ta tl tc])) := rep_stays hb4 hb4.size _ _ H3.out
  rw [← hE, ← hw4]
  clear hE hw4 hb4 V3 H3
  go_upto_region 5 with (first
    | (go_at_call 20; refine (CR2.out _ V4.out).mono ?_; rintro e w5 ⟨rfl, hb5⟩
       have V5 : Hid (LV w w5 F A) := V4.out.call hb5
       have R5 : Hid (Row6 w5 E (.int .u8 (zk : Int)) (.bool zb) (.int .i64 zn) (.string zs) (.slice za zl zc) (.slice ta tl tc)) := R4.out.call hb5
       have H5 : Hid (Rep w5 w5.heap.size Bn.tv (.agg #[.int .u8 (zk : Int), .bool zb, .int .i64 zn, .string zs, .slice za zl zc, .slice ta tl tc])) := rep_stays hb5 hb5.size _ _ H4.out
       clear hb5))
  obtain ⟨w6, hw6⟩ : ∃ w6, w6 = w5.alloc (.cells #[.int .u8 0, .bool false, .int .i64 0, .string ⟨#[]⟩, .slice none 0 0, .slice none 0 0] 26) := ⟨_, rfl⟩
  have hb6 : Below w5.heap.size w5 w6 := by rw [hw6]; exact below_new _ _
  have V6 : Hid (LV w w6 F A) := V5.out.call hb6
  have R6 : Hid (Row6 w6 E (.int .u8 (zk : Int)) (.bool zb) (.int .i64 zn) (.string zs) (.slice za zl zc) (.slice ta tl tc)) := R5.out.call hb6
  have H6 : Hid (Rep w6 w6.heap.size Bn.tv (.agg #[.int .u8 (zk : Int), .bool zb, .int .i64 zn, .string zs, .slice za zl zc, .slice ta tl tc])) := rep_stays hb6 hb6.size _ _ H5.out
  rw [← hw6]
  clear hw6 hb6 V5 R5 H5 V4 R4 H4 V2 V1
  obtain ⟨p0, p1, p2, p3, p4, p5⟩ := V6.out.row.cells
  obtain ⟨q0, q1, q2, q3, q4, q5⟩ := R6.out.cells
  go_wp2_with (first
    | (go_at_call 17; refine (C17.out _ _ _ V6.out.rep H6.out).mono ?_; rintro e w7 ⟨rfl, hb7⟩
       have B7 : Hid (Below w.heap.size w w7) := V6.out.below.trans (hb7.mono V6.out.below.size)
       clear hb7)
    | (go_at_call 25; refine (C25.out _).mono ?_; rintro e w8 ⟨rfl, hb8⟩
       have B8 : Hid (Below w.heap.size w w8) := B7.out.trans (hb8.mono B7.out.size)
       clear hb8))
  go_ret
  exact ⟨rfl, B8.out⟩
end Go.Proofs.YtbogggnnmbjlfaaDoor
