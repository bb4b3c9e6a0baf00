/- DiskGrows, walked, of a disk that can be read. -/
import Derived.Test.YtbdjmedhoaillaaGrowsN
namespace Go.Proofs.Ytbdjmedhoaillaa
open Go.RowKit
theorem chain {w W W' : World} (h : Below w.heap.size w W) (hb : Below W.heap.size W W') : Below w.heap.size w W' := h.trans (hb.mono h.size)
theorem drawn_below (w : World) (n : Nat) : Below w.heap.size w (w.drewN n) := by
  induction n with
  | zero => exact Below.refl _ _
  | succ n ih => exact ih.drew
theorem crash_twice (s : ByteArray) (y c keep : Int) (h : okB s y c = true) (s1 : ByteArray) (n1 : Int) (hs : s1 = s.extract 0 (keptM s y keep).toNat) (hn : n1 = keptM s y keep) :
    okB s1 n1 c = true ∧ s1.extract 0 (keptM s1 n1 0).toNat = s1 ∧ keptM s1 n1 0 = n1 := by
  obtain ⟨h1, h2, h3, h4, h5⟩ := ok_mk h
  have hk := kept_at s y keep h5
  have hz : (s1.size : Int) = n1 := by rw [hs, hn]; exact size_cut s _ (by omega) (by omega)
  have hk1 : keptM s1 n1 0 = n1 := by unfold keptM; omega
  refine ⟨ok_of ⟨h1, h2, by omega, by omega, by omega⟩, ?_, hk1⟩
  rw [hk1]
  have : n1.toNat = s1.size := by omega
  rw [this]
  exact ByteArray.extract_zero_size
set_option maxHeartbeats 8000000 in
set_option maxRecDepth 100000 in
theorem grows5_yes (s data : ByteArray) (y c f size keep : Int) (w : World) (h : okB s y c = true) :
    Calls Try.prog 5 #[.agg #[.string s, .int .i64 y, .int .i64 c, .bool false, .int .i64 f], .string data, .int .i64 size, .int .i64 keep] w fun e w' => e = .returned (.bool true) ∧ Below w.heap.size w w' := by
  have HO : Hid (okB s y c = true) := h
  obtain ⟨g1, g2, g3, g4, g5⟩ := ok_mk h
  obtain ⟨s', ae, har⟩ : ∃ s' ae, runM ⟨s, y, c, false, -1⟩ 1 data 0 = (⟨s', y, c, false, -1⟩, ae) := by
    by_cases hr : c - s.size < data.size
    · exact ⟨s, 8, by simp [runM, hr]⟩
    · exact ⟨s ++ data, 0, by simp [runM, hr, fuse]⟩
  have HAR : Hid _ := har
  have HWR : Hid ((c - s.size < data.size ∧ ae = 8) ∨ (data.size ≤ c - s.size ∧ ae = 0 ∧ s' = s ++ data)) := by
    by_cases hr : c - s.size < data.size
    · rw [show runM ⟨s, y, c, false, -1⟩ 1 data 0 = (⟨s, y, c, false, -1⟩, 8) by simp [runM, hr]] at har
      cases har
      exact Or.inl ⟨hr, rfl⟩
    · rw [show runM ⟨s, y, c, false, -1⟩ 1 data 0 = (⟨s ++ data, y, c, false, -1⟩, 0) by simp [runM, hr, fuse]] at har
      cases har
      exact Or.inr ⟨by omega, rfl, rfl⟩
  have HO' : Hid (okB s' y c = true) := by have := runM_ok ⟨s, y, c, false, -1⟩ 1 data 0 h; rw [har] at this; exact this
  clear h har
  go_enter Try.func5, Try.ntmps5
  go_wp2_with fail
  refine (lives8 _).mono ?_
  rintro e w1 ⟨rfl, hb1⟩
  have U1 : Hid (FU w w1 w.heap.size s y c false f) := ⟨(below_new w _).trans (hb1.mono (by simp)), (Box.new w _ _).call hb1, Nat.le_refl _⟩
  clear hb1
  obtain ⟨p0, p1, p2, p3, p4⟩ := U1.out.box.five
  have fp := U1.out.box.free
  have lt1 := U1.out.box.1
  obtain ⟨w2, hw2⟩ : ∃ W, W = w1.setCell ⟨w.heap.size, 4, none⟩ (.int .i64 (-1)) := ⟨_, rfl⟩
  have U2 : Hid (FU w w2 w.heap.size s y c false (-1)) := by
    show FU _ _ _ _ _ _ _ _
    rw [hw2]
    exact ⟨U1.out.below.setCell (Nat.le_refl _) _, U1.out.box.set 4 _, Nat.le_refl _⟩
  have HW2 : Hid _ := hw2
  clear hw2
  go_wp2_with fail
  rw [← HW2.out]
  refine (read14_yes s y c (-1) _ HO.out).mono ?_
  rintro e w3 ⟨rfl, hb3⟩
  have U3 : Hid (FU w w3 w.heap.size s y c false (-1)) := U2.out.call hb3
  clear hb3 p0 p1 p2 p3 p4 fp lt1 U1 U2 HW2
  obtain ⟨p0, p1, p2, p3, p4⟩ := U3.out.box.five
  have lt1 := U3.out.box.1
  go_wp2_with fail
  go_cut [11, 12] from 29 to 35 (fun s7 s8 wx => ∃ X, s7 = .pointer (some ⟨X, 0, none⟩) ∧ s8 = .int .i64 ae ∧ Box wx X #[.string s', .int .i64 y, .int .i64 c, .bool false, .int .i64 (-1)] 24 ∧ FU w wx w.heap.size s y c false (-1) ∧ w.heap.size ≠ X)
  case first =>
    go_region_with (first
      | (go_at_call 12; refine (write12 data _).mono ?_; rintro e wa ⟨rfl, hba⟩
         have LA : Hid (FU w wa w.heap.size s y c false (-1)) := U3.out.call (by first | exact (Below.refl _ w3).drew.trans hba | exact ((Below.refl _ w3).drew.alloc (by simp) _).trans (hba.mono (by simp)))
         obtain ⟨t0, t1, t2, t3, t4⟩ := LA.out.box.five
         have lta := LA.out.box.1
         first
           | (have hbx : Box wa w3.heap.size #[.string ⟨#[]⟩, .int .i64 0, .int .i64 0, .bool false, .int .i64 0] 24 := Box.call (w := (w3.alloc (.cells #[.string ⟨#[]⟩, .int .i64 0, .int .i64 0, .bool false, .int .i64 0] 24)).drew) (Box.new w3 _ _) hba
              obtain ⟨x0, x1, x2, x3, x4⟩ := hbx.five
              have fx := hbx.free
              have lx := hbx.1
              have HBX : Hid (Box wa w3.heap.size #[.string ⟨#[]⟩, .int .i64 0, .int .i64 0, .bool false, .int .i64 0] 24) := hbx
              clear hbx)
           | skip
         clear hba)
      | (go_at_call 9; refine (do9_to s data y c (-1) 0 1 false _ HO.out (by omega) (by omega) (by omega) (by omega) s' y c false (-1) ae HAR.out).mono ?_; rintro e wb ⟨rfl, hbb⟩
         have LB : Hid (FU w wb w.heap.size s y c false (-1)) := LA.out.call (by first | exact hbb | exact ((Below.refl _ wa).alloc (Nat.le_refl _) _).trans (hbb.mono (by simp)))
         first
           | (have hby : Box wb w3.heap.size #[.string ⟨#[]⟩, .int .i64 0, .int .i64 0, .bool false, .int .i64 0] 24 := Box.call HBX.out hbb
              have HNE : Hid (w.heap.size ≠ w3.heap.size ∧ w.heap.size ≤ w3.heap.size) := ⟨Nat.ne_of_lt U3.out.box.1, U3.out.below.size⟩
              clear x0 x1 x2 x3 x4 fx lx HBX
              obtain ⟨x0, x1, x2, x3, x4⟩ := hby.five
              have fx := hby.free
              have lx := hby.1
              have HBY : Hid (Box wb w3.heap.size #[.string ⟨#[]⟩, .int .i64 0, .int .i64 0, .bool false, .int .i64 0] 24) := hby
              clear hby)
           | (have hby : Box wb wa.heap.size #[.string ⟨#[]⟩, .int .i64 0, .int .i64 0, .bool false, .int .i64 0] 24 := Box.call (Box.new wa _ _) hbb
              have HNE : Hid (w.heap.size ≠ wa.heap.size ∧ w.heap.size ≤ wa.heap.size) := ⟨Nat.ne_of_lt LA.out.box.1, LA.out.below.size⟩
              obtain ⟨x0, x1, x2, x3, x4⟩ := hby.five
              have fx := hby.free
              have lx := hby.1
              have HBY : Hid (Box wb wa.heap.size #[.string ⟨#[]⟩, .int .i64 0, .int .i64 0, .bool false, .int .i64 0] 24) := hby
              clear hby)
           | skip
         clear hbb))
    all_goals
      go_wp2_with fail
      go_meet
      first
        | exact ⟨_, rfl, rfl, (fin5 HBY.out LB.out.below HNE.out.2 _ _ _ _ _).1, LB.out.other HNE.out.1 HNE.out.2 _ _ _ _ _, HNE.out.1⟩
        | exact ⟨_, rfl, rfl, Box.new wb _ _, LB.out.call (below_new _ _), Nat.ne_of_lt LB.out.box.1⟩
  case rest =>
    obtain ⟨X, rfl, rfl, hX, hU, hne⟩ := hcut
    have UX : Hid (FU w wc w.heap.size s y c false (-1)) := hU
    have EX : Hid (Box wc X #[.string s', .int .i64 y, .int .i64 c, .bool false, .int .i64 (-1)] 24) := hX
    clear hX hU p0 p1 p2 p3 p4 lt1 U3 HAR
    obtain ⟨p0, p1, p2, p3, p4⟩ := UX.out.box.five
    obtain ⟨q0, q1, q2, q3, q4⟩ := Box.five EX.out
    have lt1 := UX.out.box.1
    rcases HWR.out with ⟨hr, rfl⟩ | ⟨hr, rfl, rfl⟩
    · clear HWR
      by_cases hz1 : size < 0
      · have hrun : runM ⟨s, y, c, false, -1⟩ 3 ⟨#[]⟩ size = (⟨s, y, c, false, -1⟩, 2) := by simp [runM, hz1]
        have HR : Hid _ := hrun
        clear hrun
        go_wp2_with fail
        refine (do9_to s ⟨#[]⟩ y c (-1) size 3 false _ HO.out (by omega) (by omega) (by omega) (by omega) s y c false (-1) 2 HR.out).mono ?_
        rintro e w5 ⟨rfl, hb5⟩
        have U5 : Hid (FU w w5 w.heap.size s y c false (-1)) := UX.out.call hb5
        clear hb5 p0 p1 p2 p3 p4 lt1 UX
        obtain ⟨p0, p1, p2, p3, p4⟩ := U5.out.box.five
        have lt1 := U5.out.box.1
        go_wp2_with fail
        have U6 : Hid (FU w (w5.alloc (.cells #[.string s, .int .i64 y, .int .i64 c, .bool false, .int .i64 (-1)] 24)) w.heap.size s y c false (-1)) := U5.out.call (below_new _ _)
        have E6 : Hid (Box (w5.alloc (.cells #[.string s, .int .i64 y, .int .i64 c, .bool false, .int .i64 (-1)] 24)) w5.heap.size #[.string s, .int .i64 y, .int .i64 c, .bool false, .int .i64 (-1)] 24) := Box.new w5 _ _
        obtain ⟨w6, hw6⟩ : ∃ W, W = w5.alloc (.cells #[.string s, .int .i64 y, .int .i64 c, .bool false, .int .i64 (-1)] 24) := ⟨_, rfl⟩
        obtain ⟨X2, hX2⟩ : ∃ X, X = w5.heap.size := ⟨_, rfl⟩
        rw [← hw6] at U6 E6 ⊢
        rw [← hX2] at E6 ⊢
        clear hw6 hX2 p0 p1 p2 p3 p4 lt1 U5
        obtain ⟨q0, q1, q2, q3, q4⟩ := Box.five E6.out
        go_quiet (fail)
        clear q0 q1 q2 q3 q4 E6
        obtain ⟨p0, p1, p2, p3, p4⟩ := U6.out.box.five
        go_wp2_with fail
        refine (crash11_yes s y c (-1) keep false _ HO.out).mono ?_
        rintro e w7 ⟨s1, n1, rfl, hs1, hn1, hb7⟩
        obtain ⟨o1, o2, o3⟩ := crash_twice s y c keep HO.out s1 n1 hs1 hn1
        have HO1 : Hid _ := o1
        have HO2 : Hid _ := o2
        have HO3 : Hid _ := o3
        have B7 : Hid (Below w.heap.size w w7) := chain (chain U6.out.below (drawn_below _ _)) hb7
        clear hb7 hs1 hn1 o1 o2 o3 p0 p1 p2 p3 p4
        go_wp2_with fail
        refine (crash11_yes s1 n1 c (-1) 0 false _ HO1.out).mono ?_
        rintro e w8 ⟨s2, n2, rfl, hs2, hn2, hb8⟩
        rw [HO2.out] at hs2
        rw [HO3.out] at hn2
        subst hs2 hn2
        have B8 : Hid (Below w.heap.size w w8) := chain (chain B7.out (below_new _ _)) hb8
        have E8 : Hid (Box w8 w7.heap.size #[.string s2, .int .i64 n2, .int .i64 c, .bool false, .int .i64 (-1)] 24) := (Box.new w7 _ _).call hb8
        clear hb8
        obtain ⟨q0, q1, q2, q3, q4⟩ := Box.five E8.out
        have lt8 := E8.out.1
        go_wp2
        go_ret
        exact ⟨rfl, B8.out.alloc B8.out.size _⟩
      by_cases hz2 : (s.size : Int) < size
      · have hrun : runM ⟨s, y, c, false, -1⟩ 3 ⟨#[]⟩ size = (⟨s, y, c, false, -1⟩, 2) := by simp [runM, hz2]
        have HR : Hid _ := hrun
        clear hrun
        go_wp2_with fail
        refine (do9_to s ⟨#[]⟩ y c (-1) size 3 false _ HO.out (by omega) (by omega) (by omega) (by omega) s y c false (-1) 2 HR.out).mono ?_
        rintro e w5 ⟨rfl, hb5⟩
        have U5 : Hid (FU w w5 w.heap.size s y c false (-1)) := UX.out.call hb5
        clear hb5 p0 p1 p2 p3 p4 lt1 UX
        obtain ⟨p0, p1, p2, p3, p4⟩ := U5.out.box.five
        have lt1 := U5.out.box.1
        go_wp2_with fail
        have U6 : Hid (FU w (w5.alloc (.cells #[.string s, .int .i64 y, .int .i64 c, .bool false, .int .i64 (-1)] 24)) w.heap.size s y c false (-1)) := U5.out.call (below_new _ _)
        have E6 : Hid (Box (w5.alloc (.cells #[.string s, .int .i64 y, .int .i64 c, .bool false, .int .i64 (-1)] 24)) w5.heap.size #[.string s, .int .i64 y, .int .i64 c, .bool false, .int .i64 (-1)] 24) := Box.new w5 _ _
        obtain ⟨w6, hw6⟩ : ∃ W, W = w5.alloc (.cells #[.string s, .int .i64 y, .int .i64 c, .bool false, .int .i64 (-1)] 24) := ⟨_, rfl⟩
        obtain ⟨X2, hX2⟩ : ∃ X, X = w5.heap.size := ⟨_, rfl⟩
        rw [← hw6] at U6 E6 ⊢
        rw [← hX2] at E6 ⊢
        clear hw6 hX2 p0 p1 p2 p3 p4 lt1 U5
        obtain ⟨q0, q1, q2, q3, q4⟩ := Box.five E6.out
        go_quiet (fail)
        clear q0 q1 q2 q3 q4 E6
        obtain ⟨p0, p1, p2, p3, p4⟩ := U6.out.box.five
        go_wp2_with fail
        refine (crash11_yes s y c (-1) keep false _ HO.out).mono ?_
        rintro e w7 ⟨s1, n1, rfl, hs1, hn1, hb7⟩
        obtain ⟨o1, o2, o3⟩ := crash_twice s y c keep HO.out s1 n1 hs1 hn1
        have HO1 : Hid _ := o1
        have HO2 : Hid _ := o2
        have HO3 : Hid _ := o3
        have B7 : Hid (Below w.heap.size w w7) := chain (chain U6.out.below (drawn_below _ _)) hb7
        clear hb7 hs1 hn1 o1 o2 o3 p0 p1 p2 p3 p4
        go_wp2_with fail
        refine (crash11_yes s1 n1 c (-1) 0 false _ HO1.out).mono ?_
        rintro e w8 ⟨s2, n2, rfl, hs2, hn2, hb8⟩
        rw [HO2.out] at hs2
        rw [HO3.out] at hn2
        subst hs2 hn2
        have B8 : Hid (Below w.heap.size w w8) := chain (chain B7.out (below_new _ _)) hb8
        have E8 : Hid (Box w8 w7.heap.size #[.string s2, .int .i64 n2, .int .i64 c, .bool false, .int .i64 (-1)] 24) := (Box.new w7 _ _).call hb8
        clear hb8
        obtain ⟨q0, q1, q2, q3, q4⟩ := Box.five E8.out
        have lt8 := E8.out.1
        go_wp2
        go_ret
        exact ⟨rfl, B8.out.alloc B8.out.size _⟩
      have hrun : runM ⟨s, y, c, false, -1⟩ 3 ⟨#[]⟩ size = (⟨s.extract 0 size.toNat, size, c, false, -1⟩, 0) := by simp [runM, hz1, hz2, fuse]
      have HR : Hid _ := hrun
      clear hrun
      go_wp2_with fail
      refine (do9_to s ⟨#[]⟩ y c (-1) size 3 false _ HO.out (by omega) (by omega) (by omega) (by omega) (s.extract 0 size.toNat) size c false (-1) 0 HR.out).mono ?_
      rintro e w5 ⟨rfl, hb5⟩
      have U5 : Hid (FU w w5 w.heap.size s y c false (-1)) := UX.out.call hb5
      clear hb5 p0 p1 p2 p3 p4 lt1 UX
      obtain ⟨p0, p1, p2, p3, p4⟩ := U5.out.box.five
      have lt1 := U5.out.box.1
      go_wp2_with fail
      have U6 : Hid (FU w (w5.alloc (.cells #[.string (s.extract 0 size.toNat), .int .i64 size, .int .i64 c, .bool false, .int .i64 (-1)] 24)) w.heap.size s y c false (-1)) := U5.out.call (below_new _ _)
      have E6 : Hid (Box (w5.alloc (.cells #[.string (s.extract 0 size.toNat), .int .i64 size, .int .i64 c, .bool false, .int .i64 (-1)] 24)) w5.heap.size #[.string (s.extract 0 size.toNat), .int .i64 size, .int .i64 c, .bool false, .int .i64 (-1)] 24) := Box.new w5 _ _
      obtain ⟨w6, hw6⟩ : ∃ W, W = w5.alloc (.cells #[.string (s.extract 0 size.toNat), .int .i64 size, .int .i64 c, .bool false, .int .i64 (-1)] 24) := ⟨_, rfl⟩
      obtain ⟨X2, hX2⟩ : ∃ X, X = w5.heap.size := ⟨_, rfl⟩
      rw [← hw6] at U6 E6 ⊢
      rw [← hX2] at E6 ⊢
      clear hw6 hX2 p0 p1 p2 p3 p4 lt1 U5
      obtain ⟨q0, q1, q2, q3, q4⟩ := Box.five E6.out
      go_quiet (fail)
      clear q0 q1 q2 q3 q4 E6
      obtain ⟨p0, p1, p2, p3, p4⟩ := U6.out.box.five
      go_wp2_with fail
      refine (crash11_yes s y c (-1) keep false _ HO.out).mono ?_
      rintro e w7 ⟨s1, n1, rfl, hs1, hn1, hb7⟩
      obtain ⟨o1, o2, o3⟩ := crash_twice s y c keep HO.out s1 n1 hs1 hn1
      have HO1 : Hid _ := o1
      have HO2 : Hid _ := o2
      have HO3 : Hid _ := o3
      have B7 : Hid (Below w.heap.size w w7) := chain (chain U6.out.below (drawn_below _ _)) hb7
      clear hb7 hs1 hn1 o1 o2 o3 p0 p1 p2 p3 p4
      go_wp2_with fail
      refine (crash11_yes s1 n1 c (-1) 0 false _ HO1.out).mono ?_
      rintro e w8 ⟨s2, n2, rfl, hs2, hn2, hb8⟩
      rw [HO2.out] at hs2
      rw [HO3.out] at hn2
      subst hs2 hn2
      have B8 : Hid (Below w.heap.size w w8) := chain (chain B7.out (below_new _ _)) hb8
      have E8 : Hid (Box w8 w7.heap.size #[.string s2, .int .i64 n2, .int .i64 c, .bool false, .int .i64 (-1)] 24) := (Box.new w7 _ _).call hb8
      clear hb8
      obtain ⟨q0, q1, q2, q3, q4⟩ := Box.five E8.out
      have lt8 := E8.out.1
      go_wp2
      go_ret
      exact ⟨rfl, B8.out.alloc B8.out.size _⟩
    · clear HWR
      go_wp2_with fail
      refine (read14_yes (s ++ data) y c (-1) _ HO'.out).mono ?_
      rintro e w4 ⟨rfl, hb4⟩
      have U4 : Hid (FU w w4 w.heap.size s y c false (-1)) := UX.out.call hb4
      have hsz := size_app s data
      clear hb4 p0 p1 p2 p3 p4 q0 q1 q2 q3 q4 lt1 UX EX
      obtain ⟨p0, p1, p2, p3, p4⟩ := U4.out.box.five
      have lt1 := U4.out.box.1
      by_cases hz1 : size < 0
      · have hrun : runM ⟨s, y, c, false, -1⟩ 3 ⟨#[]⟩ size = (⟨s, y, c, false, -1⟩, 2) := by simp [runM, hz1]
        have HR : Hid _ := hrun
        clear hrun
        go_wp2_with fail
        refine (do9_to s ⟨#[]⟩ y c (-1) size 3 false _ HO.out (by omega) (by omega) (by omega) (by omega) s y c false (-1) 2 HR.out).mono ?_
        rintro e w5 ⟨rfl, hb5⟩
        have U5 : Hid (FU w w5 w.heap.size s y c false (-1)) := U4.out.call hb5
        clear hb5 p0 p1 p2 p3 p4 lt1 U4
        obtain ⟨p0, p1, p2, p3, p4⟩ := U5.out.box.five
        have lt1 := U5.out.box.1
        go_wp2_with fail
        have U6 : Hid (FU w (w5.alloc (.cells #[.string s, .int .i64 y, .int .i64 c, .bool false, .int .i64 (-1)] 24)) w.heap.size s y c false (-1)) := U5.out.call (below_new _ _)
        have E6 : Hid (Box (w5.alloc (.cells #[.string s, .int .i64 y, .int .i64 c, .bool false, .int .i64 (-1)] 24)) w5.heap.size #[.string s, .int .i64 y, .int .i64 c, .bool false, .int .i64 (-1)] 24) := Box.new w5 _ _
        obtain ⟨w6, hw6⟩ : ∃ W, W = w5.alloc (.cells #[.string s, .int .i64 y, .int .i64 c, .bool false, .int .i64 (-1)] 24) := ⟨_, rfl⟩
        obtain ⟨X2, hX2⟩ : ∃ X, X = w5.heap.size := ⟨_, rfl⟩
        rw [← hw6] at U6 E6 ⊢
        rw [← hX2] at E6 ⊢
        clear hw6 hX2 p0 p1 p2 p3 p4 lt1 U5
        obtain ⟨q0, q1, q2, q3, q4⟩ := Box.five E6.out
        go_quiet (fail)
        clear q0 q1 q2 q3 q4 E6
        obtain ⟨p0, p1, p2, p3, p4⟩ := U6.out.box.five
        go_wp2_with fail
        refine (crash11_yes s y c (-1) keep false _ HO.out).mono ?_
        rintro e w7 ⟨s1, n1, rfl, hs1, hn1, hb7⟩
        obtain ⟨o1, o2, o3⟩ := crash_twice s y c keep HO.out s1 n1 hs1 hn1
        have HO1 : Hid _ := o1
        have HO2 : Hid _ := o2
        have HO3 : Hid _ := o3
        have B7 : Hid (Below w.heap.size w w7) := chain (chain U6.out.below (drawn_below _ _)) hb7
        clear hb7 hs1 hn1 o1 o2 o3 p0 p1 p2 p3 p4
        go_wp2_with fail
        refine (crash11_yes s1 n1 c (-1) 0 false _ HO1.out).mono ?_
        rintro e w8 ⟨s2, n2, rfl, hs2, hn2, hb8⟩
        rw [HO2.out] at hs2
        rw [HO3.out] at hn2
        subst hs2 hn2
        have B8 : Hid (Below w.heap.size w w8) := chain (chain B7.out (below_new _ _)) hb8
        have E8 : Hid (Box w8 w7.heap.size #[.string s2, .int .i64 n2, .int .i64 c, .bool false, .int .i64 (-1)] 24) := (Box.new w7 _ _).call hb8
        clear hb8
        obtain ⟨q0, q1, q2, q3, q4⟩ := Box.five E8.out
        have lt8 := E8.out.1
        go_wp2
        go_ret
        exact ⟨rfl, B8.out.alloc B8.out.size _⟩
      by_cases hz2 : (s.size : Int) < size
      · have hrun : runM ⟨s, y, c, false, -1⟩ 3 ⟨#[]⟩ size = (⟨s, y, c, false, -1⟩, 2) := by simp [runM, hz2]
        have HR : Hid _ := hrun
        clear hrun
        go_wp2_with fail
        refine (do9_to s ⟨#[]⟩ y c (-1) size 3 false _ HO.out (by omega) (by omega) (by omega) (by omega) s y c false (-1) 2 HR.out).mono ?_
        rintro e w5 ⟨rfl, hb5⟩
        have U5 : Hid (FU w w5 w.heap.size s y c false (-1)) := U4.out.call hb5
        clear hb5 p0 p1 p2 p3 p4 lt1 U4
        obtain ⟨p0, p1, p2, p3, p4⟩ := U5.out.box.five
        have lt1 := U5.out.box.1
        go_wp2_with fail
        have U6 : Hid (FU w (w5.alloc (.cells #[.string s, .int .i64 y, .int .i64 c, .bool false, .int .i64 (-1)] 24)) w.heap.size s y c false (-1)) := U5.out.call (below_new _ _)
        have E6 : Hid (Box (w5.alloc (.cells #[.string s, .int .i64 y, .int .i64 c, .bool false, .int .i64 (-1)] 24)) w5.heap.size #[.string s, .int .i64 y, .int .i64 c, .bool false, .int .i64 (-1)] 24) := Box.new w5 _ _
        obtain ⟨w6, hw6⟩ : ∃ W, W = w5.alloc (.cells #[.string s, .int .i64 y, .int .i64 c, .bool false, .int .i64 (-1)] 24) := ⟨_, rfl⟩
        obtain ⟨X2, hX2⟩ : ∃ X, X = w5.heap.size := ⟨_, rfl⟩
        rw [← hw6] at U6 E6 ⊢
        rw [← hX2] at E6 ⊢
        clear hw6 hX2 p0 p1 p2 p3 p4 lt1 U5
        obtain ⟨q0, q1, q2, q3, q4⟩ := Box.five E6.out
        go_quiet (fail)
        clear q0 q1 q2 q3 q4 E6
        obtain ⟨p0, p1, p2, p3, p4⟩ := U6.out.box.five
        go_wp2_with fail
        refine (crash11_yes s y c (-1) keep false _ HO.out).mono ?_
        rintro e w7 ⟨s1, n1, rfl, hs1, hn1, hb7⟩
        obtain ⟨o1, o2, o3⟩ := crash_twice s y c keep HO.out s1 n1 hs1 hn1
        have HO1 : Hid _ := o1
        have HO2 : Hid _ := o2
        have HO3 : Hid _ := o3
        have B7 : Hid (Below w.heap.size w w7) := chain (chain U6.out.below (drawn_below _ _)) hb7
        clear hb7 hs1 hn1 o1 o2 o3 p0 p1 p2 p3 p4
        go_wp2_with fail
        refine (crash11_yes s1 n1 c (-1) 0 false _ HO1.out).mono ?_
        rintro e w8 ⟨s2, n2, rfl, hs2, hn2, hb8⟩
        rw [HO2.out] at hs2
        rw [HO3.out] at hn2
        subst hs2 hn2
        have B8 : Hid (Below w.heap.size w w8) := chain (chain B7.out (below_new _ _)) hb8
        have E8 : Hid (Box w8 w7.heap.size #[.string s2, .int .i64 n2, .int .i64 c, .bool false, .int .i64 (-1)] 24) := (Box.new w7 _ _).call hb8
        clear hb8
        obtain ⟨q0, q1, q2, q3, q4⟩ := Box.five E8.out
        have lt8 := E8.out.1
        go_wp2
        go_ret
        exact ⟨rfl, B8.out.alloc B8.out.size _⟩
      have hrun : runM ⟨s, y, c, false, -1⟩ 3 ⟨#[]⟩ size = (⟨s.extract 0 size.toNat, size, c, false, -1⟩, 0) := by simp [runM, hz1, hz2, fuse]
      have HR : Hid _ := hrun
      clear hrun
      go_wp2_with fail
      refine (do9_to s ⟨#[]⟩ y c (-1) size 3 false _ HO.out (by omega) (by omega) (by omega) (by omega) (s.extract 0 size.toNat) size c false (-1) 0 HR.out).mono ?_
      rintro e w5 ⟨rfl, hb5⟩
      have U5 : Hid (FU w w5 w.heap.size s y c false (-1)) := U4.out.call hb5
      clear hb5 p0 p1 p2 p3 p4 lt1 U4
      obtain ⟨p0, p1, p2, p3, p4⟩ := U5.out.box.five
      have lt1 := U5.out.box.1
      go_wp2_with fail
      have U6 : Hid (FU w (w5.alloc (.cells #[.string (s.extract 0 size.toNat), .int .i64 size, .int .i64 c, .bool false, .int .i64 (-1)] 24)) w.heap.size s y c false (-1)) := U5.out.call (below_new _ _)
      have E6 : Hid (Box (w5.alloc (.cells #[.string (s.extract 0 size.toNat), .int .i64 size, .int .i64 c, .bool false, .int .i64 (-1)] 24)) w5.heap.size #[.string (s.extract 0 size.toNat), .int .i64 size, .int .i64 c, .bool false, .int .i64 (-1)] 24) := Box.new w5 _ _
      obtain ⟨w6, hw6⟩ : ∃ W, W = w5.alloc (.cells #[.string (s.extract 0 size.toNat), .int .i64 size, .int .i64 c, .bool false, .int .i64 (-1)] 24) := ⟨_, rfl⟩
      obtain ⟨X2, hX2⟩ : ∃ X, X = w5.heap.size := ⟨_, rfl⟩
      rw [← hw6] at U6 E6 ⊢
      rw [← hX2] at E6 ⊢
      clear hw6 hX2 p0 p1 p2 p3 p4 lt1 U5
      obtain ⟨q0, q1, q2, q3, q4⟩ := Box.five E6.out
      go_quiet (fail)
      clear q0 q1 q2 q3 q4 E6
      obtain ⟨p0, p1, p2, p3, p4⟩ := U6.out.box.five
      go_wp2_with fail
      refine (crash11_yes s y c (-1) keep false _ HO.out).mono ?_
      rintro e w7 ⟨s1, n1, rfl, hs1, hn1, hb7⟩
      obtain ⟨o1, o2, o3⟩ := crash_twice s y c keep HO.out s1 n1 hs1 hn1
      have HO1 : Hid _ := o1
      have HO2 : Hid _ := o2
      have HO3 : Hid _ := o3
      have B7 : Hid (Below w.heap.size w w7) := chain (chain U6.out.below (drawn_below _ _)) hb7
      clear hb7 hs1 hn1 o1 o2 o3 p0 p1 p2 p3 p4
      go_wp2_with fail
      refine (crash11_yes s1 n1 c (-1) 0 false _ HO1.out).mono ?_
      rintro e w8 ⟨s2, n2, rfl, hs2, hn2, hb8⟩
      rw [HO2.out] at hs2
      rw [HO3.out] at hn2
      subst hs2 hn2
      have B8 : Hid (Below w.heap.size w w8) := chain (chain B7.out (below_new _ _)) hb8
      have E8 : Hid (Box w8 w7.heap.size #[.string s2, .int .i64 n2, .int .i64 c, .bool false, .int .i64 (-1)] 24) := (Box.new w7 _ _).call hb8
      clear hb8
      obtain ⟨q0, q1, q2, q3, q4⟩ := Box.five E8.out
      have lt8 := E8.out.1
      go_wp2
      go_ret
      exact ⟨rfl, B8.out.alloc B8.out.size _⟩
end Go.Proofs.Ytbdjmedhoaillaa
