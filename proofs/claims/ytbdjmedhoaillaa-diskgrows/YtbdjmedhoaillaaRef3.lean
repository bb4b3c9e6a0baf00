/- The document's Do, at a change that is one, walked. -/
import Derived.Test.YtbdjmedhoaillaaRef
namespace Go.Proofs.Ytbdjmedhoaillaa
open Go.RowKit
set_option maxHeartbeats 4000000 in
theorem rdo15_3 (s t : ByteArray) (y c f z : Int) (dn : Bool) (w : World) (h : okB s y c = true) (hf1 : -9223372036854775808 ≤ f) (hf2 : f ≤ 9223372036854775807) :
    Calls Try.prog 15 #[.agg #[.string s, .int .i64 y, .int .i64 c, .bool dn, .int .i64 f], .agg #[.int .u8 3, .string t, .int .i64 z]] w fun e w' => ∃ d' n, e = .returned (.tuple #[.agg #[.string d'.s, .int .i64 d'.y, .int .i64 d'.c, .bool d'.dn, .int .i64 d'.f], .int .i64 n]) ∧ runM ⟨s, y, c, dn, f⟩ 3 t z = (d', n) ∧ Below w.heap.size w w' := by
  have HO : Hid (okB s y c = true) := h
  obtain ⟨g1, g2, g3, g4, g5⟩ := ok_mk h
  clear h
  go_enter Try.func15, Try.ntmps15
  go_wp2_with fail
  refine (rcheck18_yes s y c f dn HO.out _).mono ?_
  rintro e w3 ⟨rfl, hb3⟩
  have S3 : Hid (DS w w3 s t y c f z 3 dn) := (DS.new w s t y c f z 3 dn).call hb3
  clear hb3
  obtain ⟨p0, p1, p2, p3, p4⟩ := S3.out.box.five
  obtain ⟨r0, r1, r2⟩ := S3.out.step.three
  obtain ⟨q0, q1, q2, q3, q4⟩ := S3.out.res.five
  have fp := S3.out.box.free
  have fz := S3.out.res.free
  have lt1 := S3.out.box.1
  have lt2 := S3.out.res.1
  cases dn
  case true =>
    have HM : Hid (runM ⟨s, y, c, true, f⟩ 3 t z = (⟨s, y, c, true, f⟩, 12)) := by show _ = _; simp [runM]
    go_wp2
    exact bodyPost_ret (v := .tuple #[.agg #[.string s, .int .i64 y, .int .i64 c, .bool true, .int .i64 f], .int .i64 12]) (results_box2 (fn := Try.f15) (p := 4) (u := 5) rfl _ _ (w.heap.size + 2) _ _ _ _ _ _ rfl rfl (fin5 S3.out.res S3.out.below (by omega) _ _ _ _ _).1) rfl ⟨⟨s, y, c, true, f⟩, 12, rfl, HM.out, (fin5 S3.out.res S3.out.below (by omega) _ _ _ _ _).2⟩
  case false =>
    by_cases hr : z < 0
    · have HM : Hid (runM ⟨s, y, c, false, f⟩ 3 t z = (⟨s, y, c, false, f⟩, 2)) := by show _ = _; simp [runM, hr]
      go_wp2_with fail
      refine (ref22_3_low s t y c f z false _ hr).mono ?_
      rintro e w4 ⟨rfl, hb4⟩
      clear p0 p1 p2 p3 p4 r0 r1 r2 q0 q1 q2 q3 q4 fp fz lt1 lt2
      have S4 : Hid (DS w w4 s t y c f z 3 false) := S3.out.call hb4
      clear hb4
      obtain ⟨p0, p1, p2, p3, p4⟩ := S4.out.box.five
      obtain ⟨r0, r1, r2⟩ := S4.out.step.three
      obtain ⟨q0, q1, q2, q3, q4⟩ := S4.out.res.five
      have fp := S4.out.box.free
      have fz := S4.out.res.free
      have lt1 := S4.out.box.1
      have lt2 := S4.out.res.1
      go_wp2
      exact bodyPost_ret (v := .tuple #[.agg #[.string s, .int .i64 y, .int .i64 c, .bool false, .int .i64 f], .int .i64 2]) (results_box2 (fn := Try.f15) (p := 4) (u := 5) rfl _ _ (w.heap.size + 2) _ _ _ _ _ _ rfl rfl (fin5 S4.out.res S4.out.below (by omega) _ _ _ _ _).1) rfl ⟨⟨s, y, c, false, f⟩, 2, rfl, HM.out, (fin5 S4.out.res S4.out.below (by omega) _ _ _ _ _).2⟩
    by_cases hr2 : (s.size : Int) < z
    · have HM : Hid (runM ⟨s, y, c, false, f⟩ 3 t z = (⟨s, y, c, false, f⟩, 2)) := by show _ = _; simp [runM, hr2]
      go_wp2_with fail
      refine (ref22_3_high s t y c f z false _ (by omega) hr2).mono ?_
      rintro e w4 ⟨rfl, hb4⟩
      clear p0 p1 p2 p3 p4 r0 r1 r2 q0 q1 q2 q3 q4 fp fz lt1 lt2
      have S4 : Hid (DS w w4 s t y c f z 3 false) := S3.out.call hb4
      clear hb4
      obtain ⟨p0, p1, p2, p3, p4⟩ := S4.out.box.five
      obtain ⟨r0, r1, r2⟩ := S4.out.step.three
      obtain ⟨q0, q1, q2, q3, q4⟩ := S4.out.res.five
      have fp := S4.out.box.free
      have fz := S4.out.res.free
      have lt1 := S4.out.box.1
      have lt2 := S4.out.res.1
      go_wp2
      exact bodyPost_ret (v := .tuple #[.agg #[.string s, .int .i64 y, .int .i64 c, .bool false, .int .i64 f], .int .i64 2]) (results_box2 (fn := Try.f15) (p := 4) (u := 5) rfl _ _ (w.heap.size + 2) _ _ _ _ _ _ rfl rfl (fin5 S4.out.res S4.out.below (by omega) _ _ _ _ _).1) rfl ⟨⟨s, y, c, false, f⟩, 2, rfl, HM.out, (fin5 S4.out.res S4.out.below (by omega) _ _ _ _ _).2⟩
    have HM0 : Hid (f = 0 → runM ⟨s, y, c, false, f⟩ 3 t z = (⟨s, y, c, true, f⟩, 12)) := fun e => by simp [runM, hr, hr2, e]
    have HM1 : Hid (f ≠ 0 → runM ⟨s, y, c, false, f⟩ 3 t z = (⟨(s.extract 0 z.toNat), z, c, false, fuse f⟩, 0)) := fun e => by simp [runM, hr, hr2, e]
    go_wp2_with fail
    refine (ref22_3_yes s t y c f z false _ (by omega) (by omega)).mono ?_
    rintro e w4 ⟨rfl, hb4⟩
    clear p0 p1 p2 p3 p4 r0 r1 r2 q0 q1 q2 q3 q4 fp fz lt1 lt2
    have S4 : Hid (DS w w4 s t y c f z 3 false) := S3.out.call hb4
    clear hb4
    obtain ⟨p0, p1, p2, p3, p4⟩ := S4.out.box.five
    obtain ⟨r0, r1, r2⟩ := S4.out.step.three
    obtain ⟨q0, q1, q2, q3, q4⟩ := S4.out.res.five
    have fp := S4.out.box.free
    have fz := S4.out.res.free
    have lt1 := S4.out.box.1
    have lt2 := S4.out.res.1
    by_cases hf0 : f = 0
    · subst hf0
      have HM : Hid _ := HM0.out rfl
      clear HM0 HM1
      go_wp2
      exact bodyPost_ret (v := .tuple #[.agg #[.string s, .int .i64 y, .int .i64 c, .bool true, .int .i64 0], .int .i64 12]) (results_box2 (fn := Try.f15) (p := 4) (u := 5) rfl _ _ (w.heap.size + 2) _ _ _ _ _ _ rfl rfl (fin5 (S4.out.rb.set _ _).res (S4.out.rb.set _ _).below (by omega) _ _ _ _ _).1) rfl ⟨⟨s, y, c, true, 0⟩, 12, rfl, HM.out, (fin5 (S4.out.rb.set _ _).res (S4.out.rb.set _ _).below (by omega) _ _ _ _ _).2⟩
    have HM2 : Hid _ := HM1.out hf0
    have hf' : (f == 0) = false := by simp [hf0]
    clear HM0 HM1
    by_cases hp : 0 < f
    · have HM : Hid (runM ⟨s, y, c, false, f⟩ 3 t z = (⟨(s.extract 0 z.toNat), z, c, false, f - 1⟩, 0)) := by show _ = _; rw [HM2.out]; simp [fuse, hp]
      clear hf0 HM2
      go_wp2
      exact bodyPost_ret (v := .tuple #[.agg #[.string (s.extract 0 z.toNat), .int .i64 z, .int .i64 c, .bool false, .int .i64 (f - 1)], .int .i64 0]) (results_box2 (fn := Try.f15) (p := 4) (u := 5) rfl _ _ (w.heap.size + 2) _ _ _ _ _ _ rfl rfl (fin5 (((S4.out.rb.set _ _).set _ _).set _ _).res (((S4.out.rb.set _ _).set _ _).set _ _).below (by omega) _ _ _ _ _).1) rfl ⟨⟨(s.extract 0 z.toNat), z, c, false, (f - 1)⟩, 0, rfl, HM.out, (fin5 (((S4.out.rb.set _ _).set _ _).set _ _).res (((S4.out.rb.set _ _).set _ _).set _ _).below (by omega) _ _ _ _ _).2⟩
    · have HM : Hid (runM ⟨s, y, c, false, f⟩ 3 t z = (⟨(s.extract 0 z.toNat), z, c, false, f⟩, 0)) := by show _ = _; rw [HM2.out]; simp [fuse, hp]
      clear hf0 HM2
      go_wp2
      exact bodyPost_ret (v := .tuple #[.agg #[.string (s.extract 0 z.toNat), .int .i64 z, .int .i64 c, .bool false, .int .i64 f], .int .i64 0]) (results_box2 (fn := Try.f15) (p := 4) (u := 5) rfl _ _ (w.heap.size + 2) _ _ _ _ _ _ rfl rfl (fin5 ((S4.out.rb.set _ _).set _ _).res ((S4.out.rb.set _ _).set _ _).below (by omega) _ _ _ _ _).1) rfl ⟨⟨(s.extract 0 z.toNat), z, c, false, f⟩, 0, rfl, HM.out, (fin5 ((S4.out.rb.set _ _).set _ _).res ((S4.out.rb.set _ _).set _ _).below (by omega) _ _ _ _ _).2⟩
end Go.Proofs.Ytbdjmedhoaillaa
