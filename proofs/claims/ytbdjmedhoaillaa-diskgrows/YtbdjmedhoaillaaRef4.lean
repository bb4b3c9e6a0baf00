/- The document's Do, Read and Crash, walked to their ends. -/
import Derived.Test.YtbdjmedhoaillaaRef1
import Derived.Test.YtbdjmedhoaillaaRef2
import Derived.Test.YtbdjmedhoaillaaRef3
import Derived.Test.YtbdjmedhoaillaaCrash
namespace Go.Proofs.Ytbdjmedhoaillaa
open Go.RowKit
set_option maxHeartbeats 4000000 in
theorem rdo15_no (s t : ByteArray) (y c f z k : Int) (dn : Bool) (w : World) (h : okB s y c = false) :
    Calls Try.prog 15 #[.agg #[.string s, .int .i64 y, .int .i64 c, .bool dn, .int .i64 f], .agg #[.int .u8 k, .string t, .int .i64 z]] w fun e w' => e = .returned (.tuple #[.agg #[.string ⟨#[]⟩, .int .i64 0, .int .i64 0, .bool false, .int .i64 0], .int .i64 6]) ∧ Below w.heap.size w w' := by
  have HO : Hid (okB s y c = false) := h
  clear h
  go_enter Try.func15, Try.ntmps15
  go_wp2_with fail
  refine (rcheck18_no s y c f dn HO.out _).mono ?_
  rintro e w3 ⟨rfl, hb3⟩
  have S3 : Hid (DS w w3 s t y c f z k dn) := (DS.new w s t y c f z k dn).call hb3
  clear hb3
  obtain ⟨q0, q1, q2, q3, q4⟩ := S3.out.res.five
  have fz := S3.out.res.free
  have lt2 := S3.out.res.1
  go_wp2
  exact bodyPost_ret (v := .tuple #[.agg #[.string ⟨#[]⟩, .int .i64 0, .int .i64 0, .bool false, .int .i64 0], .int .i64 6]) (results_box2 (fn := Try.f15) (p := 4) (u := 5) rfl _ _ (w.heap.size + 2) _ _ _ _ _ _ rfl rfl (fin5 S3.out.res S3.out.below (by omega) _ _ _ _ _).1) rfl ⟨rfl, (fin5 S3.out.res S3.out.below (by omega) _ _ _ _ _).2⟩
set_option maxHeartbeats 4000000 in
theorem rdo15_else (s t : ByteArray) (y c f z k : Int) (dn : Bool) (w : World) (h : okB s y c = true) (h0 : 0 ≤ k) (h1 : k < 256) (h2 : k ≠ 1) (h3 : k ≠ 2) (h4 : k ≠ 3) :
    Calls Try.prog 15 #[.agg #[.string s, .int .i64 y, .int .i64 c, .bool dn, .int .i64 f], .agg #[.int .u8 k, .string t, .int .i64 z]] w fun e w' => e = .returned (.tuple #[.agg #[.string s, .int .i64 y, .int .i64 c, .bool dn, .int .i64 f], .int .i64 5]) ∧ Below w.heap.size w w' := by
  have HO : Hid (okB s y c = true) := h
  clear h
  have hk : k < 1 ∨ 4 ≤ k := by omega
  clear h2 h3 h4
  go_enter Try.func15, Try.ntmps15
  go_wp2_with fail
  refine (rcheck18_yes s y c f dn HO.out _).mono ?_
  rintro e w3 ⟨rfl, hb3⟩
  have S3 : Hid (DS w w3 s t y c f z k dn) := (DS.new w s t y c f z k dn).call hb3
  clear hb3
  obtain ⟨p0, p1, p2, p3, p4⟩ := S3.out.box.five
  obtain ⟨r0, r1, r2⟩ := S3.out.step.three
  obtain ⟨q0, q1, q2, q3, q4⟩ := S3.out.res.five
  have fz := S3.out.res.free
  have lt2 := S3.out.res.1
  rcases hk with hk | hk
  all_goals
    go_wp2
    exact bodyPost_ret (v := .tuple #[.agg #[.string s, .int .i64 y, .int .i64 c, .bool dn, .int .i64 f], .int .i64 5]) (results_box2 (fn := Try.f15) (p := 4) (u := 5) rfl _ _ (w.heap.size + 2) _ _ _ _ _ _ rfl rfl (fin5 S3.out.res S3.out.below (by omega) _ _ _ _ _).1) rfl ⟨rfl, (fin5 S3.out.res S3.out.below (by omega) _ _ _ _ _).2⟩
theorem rdo15 (s t : ByteArray) (y c f z k : Int) (dn : Bool) (w : World) (h : okB s y c = true) (hf1 : -9223372036854775808 ≤ f) (hf2 : f ≤ 9223372036854775807) (h0 : 0 ≤ k) (h1 : k < 256) :
    Calls Try.prog 15 #[.agg #[.string s, .int .i64 y, .int .i64 c, .bool dn, .int .i64 f], .agg #[.int .u8 k, .string t, .int .i64 z]] w fun e w' => ∃ d' n, e = .returned (.tuple #[.agg #[.string d'.s, .int .i64 d'.y, .int .i64 d'.c, .bool d'.dn, .int .i64 d'.f], .int .i64 n]) ∧ runM ⟨s, y, c, dn, f⟩ k t z = (d', n) ∧ Below w.heap.size w w' := by
  by_cases e1 : k = 1
  · subst e1; exact rdo15_1 s t y c f z dn w h hf1 hf2
  by_cases e2 : k = 2
  · subst e2; exact rdo15_2 s t y c f z dn w h hf1 hf2
  by_cases e3 : k = 3
  · subst e3; exact rdo15_3 s t y c f z dn w h hf1 hf2
  refine (rdo15_else s t y c f z k dn w h h0 h1 e1 e2 e3).mono ?_
  rintro e w' ⟨rfl, hb⟩
  exact ⟨⟨s, y, c, dn, f⟩, 5, rfl, by simp [runM, e1, e2, e3], hb⟩
set_option maxHeartbeats 1000000 in
theorem rread16_no (s : ByteArray) (y c f : Int) (dn : Bool) (w : World) (h : okB s y c = false) :
    Calls Try.prog 16 #[.agg #[.string s, .int .i64 y, .int .i64 c, .bool dn, .int .i64 f]] w fun e w' => e = .returned (.tuple #[.string ⟨#[]⟩, .int .i64 6]) ∧ Below w.heap.size w w' := by
  have HO : Hid (okB s y c = false) := h
  clear h
  go_enter Try.func16, Try.ntmps16
  go_wp2_with fail
  refine (rcheck18_no s y c f dn HO.out _).mono ?_
  rintro e w3 ⟨rfl, hb3⟩
  have HB : Hid (Below w.heap.size w w3) := (below_new w _).trans (hb3.mono (by simp))
  clear hb3
  go_wp2
  go_ret2
  exact ⟨rfl, HB.out⟩
set_option maxHeartbeats 1000000 in
theorem rread16_down (s : ByteArray) (y c f : Int) (w : World) (h : okB s y c = true) :
    Calls Try.prog 16 #[.agg #[.string s, .int .i64 y, .int .i64 c, .bool true, .int .i64 f]] w fun e w' => e = .returned (.tuple #[.string ⟨#[]⟩, .int .i64 12]) ∧ Below w.heap.size w w' := by
  have HO : Hid (okB s y c = true) := h
  clear h
  go_enter Try.func16, Try.ntmps16
  go_wp2_with fail
  refine (rcheck18_yes s y c f true HO.out _).mono ?_
  rintro e w3 ⟨rfl, hb3⟩
  obtain ⟨p0, p1, p2, p3, p4⟩ := ((Box.new w _ _).call hb3).five
  have HB : Hid (Below w.heap.size w w3) := (below_new w _).trans (hb3.mono (by simp))
  clear hb3
  go_wp2
  go_ret2
  exact ⟨rfl, HB.out⟩
set_option maxHeartbeats 1000000 in
theorem rread16_yes (s : ByteArray) (y c f : Int) (w : World) (h : okB s y c = true) :
    Calls Try.prog 16 #[.agg #[.string s, .int .i64 y, .int .i64 c, .bool false, .int .i64 f]] w fun e w' => e = .returned (.tuple #[.string s, .int .i64 0]) ∧ Below w.heap.size w w' := by
  have HO : Hid (okB s y c = true) := h
  clear h
  go_enter Try.func16, Try.ntmps16
  go_wp2_with fail
  refine (rcheck18_yes s y c f false HO.out _).mono ?_
  rintro e w3 ⟨rfl, hb3⟩
  obtain ⟨p0, p1, p2, p3, p4⟩ := ((Box.new w _ _).call hb3).five
  have HB : Hid (Below w.heap.size w w3) := (below_new w _).trans (hb3.mono (by simp))
  clear hb3
  go_wp2
  go_ret2
  exact ⟨rfl, HB.out⟩
set_option maxHeartbeats 1000000 in
theorem rcrash17_no (s : ByteArray) (y c f keep : Int) (dn : Bool) (w : World) (h : okB s y c = false) :
    Calls Try.prog 17 #[.agg #[.string s, .int .i64 y, .int .i64 c, .bool dn, .int .i64 f], .int .i64 keep] w fun e w' => e = .returned (.tuple #[.agg #[.string ⟨#[]⟩, .int .i64 0, .int .i64 0, .bool false, .int .i64 0], .int .i64 6]) ∧ Below w.heap.size w w' := by
  have HO : Hid (okB s y c = false) := h
  clear h
  go_enter Try.func17, Try.ntmps17
  go_wp2_with fail
  refine (rcheck18_no s y c f dn HO.out _).mono ?_
  rintro e w3 ⟨rfl, hb3⟩
  have S3 : Hid (CS w w3 s y c f dn) := (CS.new w s y c f dn).call hb3
  clear hb3
  obtain ⟨q0, q1, q2, q3, q4⟩ := S3.out.res.five
  have fz := S3.out.res.free
  have lt2 := S3.out.res.1
  go_wp2
  exact bodyPost_ret (v := .tuple #[.agg #[.string ⟨#[]⟩, .int .i64 0, .int .i64 0, .bool false, .int .i64 0], .int .i64 6]) (results_box2 (fn := Try.f17) (p := 4) (u := 5) rfl _ _ (w.heap.size + 1) _ _ _ _ _ _ rfl rfl (fin5 S3.out.res S3.out.below (by omega) _ _ _ _ _).1) rfl ⟨rfl, (fin5 S3.out.res S3.out.below (by omega) _ _ _ _ _).2⟩
set_option maxHeartbeats 4000000 in
theorem rcrash17_yes (s : ByteArray) (y c f keep : Int) (dn : Bool) (w : World) (h : okB s y c = true) :
    Calls Try.prog 17 #[.agg #[.string s, .int .i64 y, .int .i64 c, .bool dn, .int .i64 f], .int .i64 keep] w fun e w' => ∃ s' : ByteArray, ∃ n : Int, e = .returned (.tuple #[.agg #[.string s', .int .i64 n, .int .i64 c, .bool false, .int .i64 (-1)], .int .i64 0]) ∧ s' = s.extract 0 (keptM s y keep).toNat ∧ n = keptM s y keep ∧ Below w.heap.size w w' := by
  have HO : Hid (okB s y c = true) := h
  obtain ⟨g1, g2, g3, g4, g5⟩ := ok_mk h
  clear h
  go_enter Try.func17, Try.ntmps17
  go_wp2_with fail
  refine (rcheck18_yes s y c f dn HO.out _).mono ?_
  rintro e w3 ⟨rfl, hb3⟩
  have S3 : Hid (CS w w3 s y c f dn) := (CS.new w s y c f dn).call hb3
  clear hb3
  obtain ⟨p0, p1, p2, p3, p4⟩ := S3.out.box.five
  obtain ⟨q0, q1, q2, q3, q4⟩ := S3.out.res.five
  have fz := S3.out.res.free
  have lt2 := S3.out.res.1
  go_wp2
  all_goals
    refine bodyPost_ret (results_box2 (fn := Try.f17) (p := 4) (u := 5) rfl _ _ (w.heap.size + 1) _ _ _ _ _ _ rfl rfl (fin5 S3.out.res S3.out.below (by omega) _ _ _ _ _).1) rfl ⟨_, _, rfl, ?_, ?_, (fin5 S3.out.res S3.out.below (by omega) _ _ _ _ _).2⟩
    · refine congrArg (fun n => s.extract 0 n) ?_
      unfold keptM; omega
    · unfold keptM; omega
end Go.Proofs.Ytbdjmedhoaillaa
