/- DiskGrows, walked. -/
import Derived.Test.YtbdjmedhoaillaaFuseW
import Derived.Test.YtbdjmedhoaillaaDoesW
namespace Go.Proofs.Ytbdjmedhoaillaa
open Go.RowKit
theorem do9_any' (s t : ByteArray) (y c f z k : Int) (dn : Bool) (w : World) (hf1 : -9223372036854775808 ≤ f) (hf2 : f ≤ 9223372036854775807) (h0 : 0 ≤ k) (h1 : k < 256) (s' : ByteArray) (y' c' : Int) (dn' : Bool) (f' n : Int) (hr : doM ⟨s, y, c, dn, f⟩ k t z = (⟨s', y', c', dn', f'⟩, n)) :
    Calls Try.prog 9 #[.agg #[.string s, .int .i64 y, .int .i64 c, .bool dn, .int .i64 f], .agg #[.int .u8 k, .string t, .int .i64 z]] w fun e w' => e = .returned (.tuple #[.agg #[.string s', .int .i64 y', .int .i64 c', .bool dn', .int .i64 f'], .int .i64 n]) ∧ Below w.heap.size w w' := by
  have := do9_any s t y c f z k dn w hf1 hf2 h0 h1
  rw [hr] at this
  exact this
set_option maxHeartbeats 8000000 in
set_option maxRecDepth 100000 in
theorem grows5_no (s data : ByteArray) (y c f size keep : Int) (dn : Bool) (w : World) (hno : (rdM ⟨s, y, c, dn, -1⟩).2 ≠ 0) :
    Calls Try.prog 5 #[.agg #[.string s, .int .i64 y, .int .i64 c, .bool dn, .int .i64 f], .string data, .int .i64 size, .int .i64 keep] w fun e w' => e = .returned (.bool true) ∧ Below w.heap.size w w' := by
  obtain ⟨rr, hrr⟩ : ∃ r, r = rdM ⟨s, y, c, dn, -1⟩ := ⟨_, rfl⟩
  obtain ⟨ar, har⟩ : ∃ r, r = doM ⟨s, y, c, dn, -1⟩ 1 data 0 := ⟨_, rfl⟩
  have hne : ar.2 ≠ 0 := by
    rw [har]
    unfold rdM at hno
    unfold doM
    split
    · rename_i h
      rw [if_pos h] at hno
      cases dn
      · simp at hno
      · simp [runM]
    · decide
  have D14 := fun W => read14_any s y c (-1) dn W
  rw [← hrr] at D14 hno
  obtain ⟨rs, re⟩ := rr
  obtain ⟨⟨s', y', c', dn', f'⟩, ae⟩ := ar
  dsimp only at D14 hno hne
  have H14 : Hid _ := D14
  have HAR : Hid _ := har.symm
  have e1 : (re == 0) = false := by simp [hno]
  have e2 : (ae == 0) = false := by simp [hne]
  have e3 : (re != 0) = true := by simp [hno]
  have e4 : (ae != 0) = true := by simp [hne]
  clear D14 har hrr hno hne
  go_enter Try.func5, Try.ntmps5
  go_wp2_with fail
  refine (lives8 _).mono ?_
  rintro e w1 ⟨rfl, hb1⟩
  have U1 : Hid (FU w w1 w.heap.size s y c dn f) := ⟨(below_new w _).trans (hb1.mono (by simp)), (Box.new w _ _).call hb1, Nat.le_refl _⟩
  clear hb1
  obtain ⟨p0, p1, p2, p3, p4⟩ := U1.out.box.five
  have fp := U1.out.box.free
  have lt1 := U1.out.box.1
  obtain ⟨w2, hw2⟩ : ∃ W, W = w1.setCell ⟨w.heap.size, 4, none⟩ (.int .i64 (-1)) := ⟨_, rfl⟩
  have U2 : Hid (FU w w2 w.heap.size s y c dn (-1)) := by
    show FU _ _ _ _ _ _ _ _
    rw [hw2]
    exact ⟨U1.out.below.setCell (Nat.le_refl _) _, U1.out.box.set 4 _, Nat.le_refl _⟩
  have HW2 : Hid _ := hw2
  clear hw2
  go_wp2_with fail
  rw [← HW2.out]
  refine (H14.out _).mono ?_
  rintro e w3 ⟨rfl, hb3⟩
  have U3 : Hid (FU w w3 w.heap.size s y c dn (-1)) := U2.out.call hb3
  clear hb3 p0 p1 p2 p3 p4 fp lt1 U1 U2 HW2
  obtain ⟨p0, p1, p2, p3, p4⟩ := U3.out.box.five
  have lt1 := U3.out.box.1
  go_wp2_with fail
  go_cut [11, 12] from 29 to 35 (fun s7 s8 wx => ∃ X, s7 = .pointer (some ⟨X, 0, none⟩) ∧ s8 = .int .i64 ae ∧ Box wx X #[.string s', .int .i64 y', .int .i64 c', .bool dn', .int .i64 f'] 24 ∧ FU w wx w.heap.size s y c dn (-1) ∧ w.heap.size ≠ X)
  case first =>
    go_region_with (first
      | (go_at_call 12; refine (write12 data _).mono ?_; rintro e wa ⟨rfl, hba⟩
         have LA : Hid (FU w wa w.heap.size s y c dn (-1)) := U3.out.call (by first | exact (Below.refl _ w3).drew.trans hba | exact ((Below.refl _ w3).drew.alloc (by simp) _).trans (hba.mono (by simp)))
         obtain ⟨t0, t1, t2, t3, t4⟩ := LA.out.box.five
         have lta := LA.out.box.1
         first
           | (have hbx : Box wa w3.heap.size #[.string ⟨#[]⟩, .int .i64 0, .int .i64 0, .bool false, .int .i64 0] 24 := Box.call (w := (w3.alloc (.cells #[.string ⟨#[]⟩, .int .i64 0, .int .i64 0, .bool false, .int .i64 0] 24)).drew) (Box.new w3 _ _) hba
              obtain ⟨x0, x1, x2, x3, x4⟩ := hbx.five
              have fx := hbx.free
              have lx := hbx.1
              have HBX : Hid (Box wa w3.heap.size #[.string ⟨#[]⟩, .int .i64 0, .int .i64 0, .bool false, .int .i64 0] 24) := hbx
              clear hbx)
           | skip
         clear hba)
      | (go_at_call 9; refine (do9_any' s data y c (-1) 0 1 dn _ (by omega) (by omega) (by omega) (by omega) s' y' c' dn' f' ae HAR.out).mono ?_; rintro e wb ⟨rfl, hbb⟩
         have LB : Hid (FU w wb w.heap.size s y c dn (-1)) := LA.out.call (by first | exact hbb | exact ((Below.refl _ wa).alloc (Nat.le_refl _) _).trans (hbb.mono (by simp)))
         first
           | (have hby : Box wb w3.heap.size #[.string ⟨#[]⟩, .int .i64 0, .int .i64 0, .bool false, .int .i64 0] 24 := Box.call HBX.out hbb
              have HNE : Hid (w.heap.size ≠ w3.heap.size ∧ w.heap.size ≤ w3.heap.size) := ⟨Nat.ne_of_lt U3.out.box.1, U3.out.below.size⟩
              clear x0 x1 x2 x3 x4 fx lx HBX
              obtain ⟨x0, x1, x2, x3, x4⟩ := hby.five
              have fx := hby.free
              have lx := hby.1
              have HBY : Hid (Box wb w3.heap.size #[.string ⟨#[]⟩, .int .i64 0, .int .i64 0, .bool false, .int .i64 0] 24) := hby
              clear hby)
           | (have hby : Box wb wa.heap.size #[.string ⟨#[]⟩, .int .i64 0, .int .i64 0, .bool false, .int .i64 0] 24 := Box.call (Box.new wa _ _) hbb
              have HNE : Hid (w.heap.size ≠ wa.heap.size ∧ w.heap.size ≤ wa.heap.size) := ⟨Nat.ne_of_lt LA.out.box.1, LA.out.below.size⟩
              obtain ⟨x0, x1, x2, x3, x4⟩ := hby.five
              have fx := hby.free
              have lx := hby.1
              have HBY : Hid (Box wb wa.heap.size #[.string ⟨#[]⟩, .int .i64 0, .int .i64 0, .bool false, .int .i64 0] 24) := hby
              clear hby)
           | skip
         clear hbb))
    all_goals
      go_wp2_with fail
      go_meet
      first
        | exact ⟨_, rfl, rfl, (fin5 HBY.out LB.out.below HNE.out.2 _ _ _ _ _).1, LB.out.other HNE.out.1 HNE.out.2 _ _ _ _ _, HNE.out.1⟩
        | exact ⟨_, rfl, rfl, Box.new wb _ _, LB.out.call (below_new _ _), Nat.ne_of_lt LB.out.box.1⟩
  case rest =>
    obtain ⟨X, rfl, rfl, hX, hU, hne⟩ := hcut
    have UX : Hid (FU w wc w.heap.size s y c dn (-1)) := hU
    clear hX hU p0 p1 p2 p3 p4 lt1
    go_wp2
    go_ret
    exact ⟨rfl, UX.out.below⟩
end Go.Proofs.Ytbdjmedhoaillaa
