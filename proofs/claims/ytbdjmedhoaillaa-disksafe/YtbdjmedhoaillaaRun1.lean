/- run, at a change that is one, walked. -/
import Derived.Test.YtbdjmedhoaillaaRun
namespace Go.Proofs.Ytbdjmedhoaillaa
open Go.RowKit
set_option maxHeartbeats 4000000 in
theorem run19_1 (s t : ByteArray) (y c f z : Int) (dn : Bool) (w : World) (hs : (s.size : Int) ≤ c) (hc : c ≤ 262144) (hf1 : -9223372036854775808 ≤ f) (hf2 : f ≤ 9223372036854775807) :
    Calls Try.prog 19 #[.agg #[.string s, .int .i64 y, .int .i64 c, .bool dn, .int .i64 f, .int .u8 1, .string t, .int .i64 z]] w fun e w' => ∃ d' n, e = .returned (.tuple #[.agg #[.string d'.s, .int .i64 d'.y, .int .i64 d'.c, .bool d'.dn, .int .i64 d'.f], .int .i64 n]) ∧ runM ⟨s, y, c, dn, f⟩ 1 t z = (d', n) ∧ Below w.heap.size w w' := by
  have S1 : Hid _ := RS.new w s t y c f z 1 dn
  obtain ⟨w1, hw1⟩ : ∃ w1, w1 = (w.alloc (.cells #[.string s, .int .i64 y, .int .i64 c, .bool dn, .int .i64 f, .int .u8 1, .string t, .int .i64 z] 44)).alloc (.cells #[.string ⟨#[]⟩, .int .i64 0, .int .i64 0, .bool false, .int .i64 0] 24) := ⟨_, rfl⟩
  rw [← hw1] at S1
  have HW1 : Hid (w1 = _) := hw1
  obtain ⟨a0, a1, a2, a3, a4, a5, a6, a7⟩ := S1.out.box.eight
  clear hw1
  go_enter Try.func19, Try.ntmps19
  go_wp2
  rw [← HW1.out]
  go_cut [4, 5] from 8 to 17 (fun s4 s5 wx => s4 = .func (.func 26) #[.agg #[.string s, .int .i64 y, .int .i64 c, .bool dn, .int .i64 f, .int .u8 1, .string t, .int .i64 z]] #[] ∧ s5 = .bool true ∧ RS w wx s t y c f z 1 dn)
  case first =>
    go_region_with (
      (go_at_call 23; refine (kinds23 s t y c f z 1 dn _).mono ?_; rintro e w3 ⟨B, rfl, hb3, hk3⟩
       have S3 : Hid (RS w w3 s t y c f z 1 dn) := S1.out.call ((Below.refl _ w1).drew.trans hb3)
       have L3 := look_1 hk3
       have c53 := S3.out.box.eight.2.2.2.2.2.1
       clear hb3 hk3))
    all_goals
      go_wp2_with fail
      go_meet
      exact ⟨rfl, rfl, S3.out⟩
  case rest =>
    obtain ⟨rfl, rfl, hS⟩ := hcut
    clear S1 HW1 a0 a1 a2 a3 a4 a5 a6 a7
    obtain ⟨p0, p1, p2, p3, p4, p5, p6, p7⟩ := hS.box.eight
    obtain ⟨q0, q1, q2, q3, q4⟩ := hS.res.five
    have fz := hS.res.free
    have lt2 := hS.res.1
    have lt1 := hS.box.1
    have HS : Hid _ := hS
    clear hS
    cases dn
    case true =>
      have HM : Hid (runM ⟨s, y, c, true, f⟩ 1 t z = (⟨s, y, c, true, f⟩, 12)) := by show _ = _; simp [runM]
      go_wp2
      exact bodyPost_ret (v := .tuple #[.agg #[.string s, .int .i64 y, .int .i64 c, .bool true, .int .i64 f], .int .i64 12]) (results_box2 (fn := Try.f19) (p := 2) (u := 3) rfl _ _ (w.heap.size + 1) _ _ _ _ _ _ rfl rfl (fin5 HS.out.res HS.out.below (by omega) _ _ _ _ _).1) rfl ⟨⟨s, y, c, true, f⟩, 12, rfl, HM.out, (fin5 HS.out.res HS.out.below (by omega) _ _ _ _ _).2⟩
    case false =>
      by_cases hr : c - s.size < t.size
      · have HM : Hid (runM ⟨s, y, c, false, f⟩ 1 t z = (⟨s, y, c, false, f⟩, 8)) := by show _ = _; simp [runM, hr]
        go_wp2_with fail
        refine (write26_no s t y c f z 1 false _ hs hc hr).mono ?_
        rintro e w3 ⟨rfl, hb3⟩
        have S3 : Hid (RS w w3 s t y c f z 1 false) := HS.out.call hb3
        clear hb3 p0 p1 p2 p3 p4 p5 p6 p7 q0 q1 q2 q3 q4 fz lt2 lt1 HS
        obtain ⟨p0, p1, p2, p3, p4, p5, p6, p7⟩ := S3.out.box.eight
        obtain ⟨q0, q1, q2, q3, q4⟩ := S3.out.res.five
        have fz := S3.out.res.free
        have lt2 := S3.out.res.1
        have lt1 := S3.out.box.1
        go_wp2
        exact bodyPost_ret (v := .tuple #[.agg #[.string s, .int .i64 y, .int .i64 c, .bool false, .int .i64 f], .int .i64 8]) (results_box2 (fn := Try.f19) (p := 2) (u := 3) rfl _ _ (w.heap.size + 1) _ _ _ _ _ _ rfl rfl (fin5a S3.out.res S3.out.below (by omega) _ _ _ _ _ _).1) rfl ⟨⟨s, y, c, false, f⟩, 8, rfl, HM.out, (fin5a S3.out.res S3.out.below (by omega) _ _ _ _ _ _).2⟩
      go_wp2_with fail
      refine (write26_yes s t y c f z 1 false _ hs hc (by omega)).mono ?_
      rintro e w3 ⟨rfl, hb3⟩
      have S3 : Hid (RS w w3 s t y c f z 1 false) := HS.out.call hb3
      clear hb3 p0 p1 p2 p3 p4 p5 p6 p7 q0 q1 q2 q3 q4 fz lt2 lt1 HS
      obtain ⟨p0, p1, p2, p3, p4, p5, p6, p7⟩ := S3.out.box.eight
      obtain ⟨q0, q1, q2, q3, q4⟩ := S3.out.res.five
      have fz := S3.out.res.free
      have lt2 := S3.out.res.1
      have lt1 := S3.out.box.1
      by_cases hf0 : f = 0
      · subst hf0
        have HM : Hid (runM ⟨s, y, c, false, 0⟩ 1 t z = (⟨(s ++ t), y, c, true, 0⟩, 12)) := by show _ = _; simp [runM, hr]
        go_wp2_with fail
        refine (broken24_yes s t (s ++ t) y c 0 z y c 0 false false _).mono ?_
        rintro e w4 ⟨rfl, hb4⟩
        have S4 : Hid (RS w w4 s t y c 0 z 1 false) := (S3.out.call (below_new _ _)).call hb4
        clear hb4 p0 p1 p2 p3 p4 p5 p6 p7 q0 q1 q2 q3 q4 fz lt2 lt1 S3
        obtain ⟨p0, p1, p2, p3, p4, p5, p6, p7⟩ := S4.out.box.eight
        obtain ⟨q0, q1, q2, q3, q4⟩ := S4.out.res.five
        have fz := S4.out.res.free
        have lt2 := S4.out.res.1
        have lt1 := S4.out.box.1
        go_wp2
        exact bodyPost_ret (v := .tuple #[.agg #[.string (s ++ t), .int .i64 y, .int .i64 c, .bool true, .int .i64 0], .int .i64 12]) (results_box2 (fn := Try.f19) (p := 2) (u := 3) rfl _ _ (w.heap.size + 1) _ _ _ _ _ _ rfl rfl (fin5 S4.out.res S4.out.below (by omega) _ _ _ _ _).1) rfl ⟨⟨(s ++ t), y, c, true, 0⟩, 12, rfl, HM.out, (fin5 S4.out.res S4.out.below (by omega) _ _ _ _ _).2⟩
      have hf' : (f == 0) = false := by simp [hf0]
      by_cases hp : 0 < f
      · have HM : Hid (runM ⟨s, y, c, false, f⟩ 1 t z = (⟨(s ++ t), y, c, false, f - 1⟩, 0)) := by show _ = _; simp [runM, hr, hf0, fuse, hp]
        clear hf0
        go_wp2
        exact bodyPost_ret (v := .tuple #[.agg #[.string (s ++ t), .int .i64 y, .int .i64 c, .bool false, .int .i64 (f - 1)], .int .i64 0]) (results_box2 (fn := Try.f19) (p := 2) (u := 3) rfl _ _ (w.heap.size + 1) _ _ _ _ _ _ rfl rfl (fin5a S3.out.res S3.out.below (by omega) _ _ _ _ _ _).1) rfl ⟨⟨(s ++ t), y, c, false, (f - 1)⟩, 0, rfl, HM.out, (fin5a S3.out.res S3.out.below (by omega) _ _ _ _ _ _).2⟩
      · have HM : Hid (runM ⟨s, y, c, false, f⟩ 1 t z = (⟨(s ++ t), y, c, false, f⟩, 0)) := by show _ = _; simp [runM, hr, hf0, fuse, hp]
        clear hf0
        go_wp2
        exact bodyPost_ret (v := .tuple #[.agg #[.string (s ++ t), .int .i64 y, .int .i64 c, .bool false, .int .i64 f], .int .i64 0]) (results_box2 (fn := Try.f19) (p := 2) (u := 3) rfl _ _ (w.heap.size + 1) _ _ _ _ _ _ rfl rfl (fin5a S3.out.res S3.out.below (by omega) _ _ _ _ _ _).1) rfl ⟨⟨(s ++ t), y, c, false, f⟩, 0, rfl, HM.out, (fin5a S3.out.res S3.out.below (by omega) _ _ _ _ _ _).2⟩
end Go.Proofs.Ytbdjmedhoaillaa
