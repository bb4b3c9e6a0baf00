/- Do, whatever the disk and the change, walked. -/
import Derived.Test.YtbdjmedhoaillaaRun1
import Derived.Test.YtbdjmedhoaillaaRun2
import Derived.Test.YtbdjmedhoaillaaRun3
namespace Go.Proofs.Ytbdjmedhoaillaa
open Go.RowKit
theorem ok_of {s : ByteArray} {y c : Int} (h : 0 ≤ c ∧ c ≤ 262144 ∧ (s.size : Int) ≤ c ∧ 0 ≤ y ∧ y ≤ (s.size : Int)) : okB s y c = true := by
  simpa [okB, and_assoc] using h
theorem size_app (s t : ByteArray) : (s ++ t).size = s.size + t.size := ByteArray.size_append
theorem size_cut (s : ByteArray) (z : Int) (h0 : 0 ≤ z) (h1 : z ≤ s.size) : ((s.extract 0 z.toNat).size : Int) = z := by
  rw [ByteArray.size_extract]; omega
/-- what a change leaves is right -/
theorem runM_ok (d : Dk) (k : Int) (t : ByteArray) (z : Int) (h : okB d.s d.y d.c = true) : okB (runM d k t z).1.s (runM d k t z).1.y (runM d k t z).1.c = true := by
  obtain ⟨h1, h2, h3, h4, h5⟩ := ok_mk h
  unfold runM
  have a := size_app d.s t
  have b := size_cut d.s z
  repeat' split
  all_goals first
    | exact h
    | (refine ok_of ?_; dsimp only; omega)
    | (refine ok_of ?_; dsimp only; rename_i q _; rw [b (by omega) (by omega)]; omega)
theorem runM_cap (d : Dk) (k : Int) (t : ByteArray) (z : Int) : (runM d k t z).1.c = d.c := by
  unfold runM; repeat' split
  all_goals rfl
theorem run19 (s t : ByteArray) (y c f z k : Int) (dn : Bool) (w : World) (hs : (s.size : Int) ≤ c) (hc : c ≤ 262144) (hf1 : -9223372036854775808 ≤ f) (hf2 : f ≤ 9223372036854775807) (h0 : 0 ≤ k) (h1 : k < 256) :
    Calls Try.prog 19 #[.agg #[.string s, .int .i64 y, .int .i64 c, .bool dn, .int .i64 f, .int .u8 k, .string t, .int .i64 z]] w fun e w' => ∃ d' n, e = .returned (.tuple #[.agg #[.string d'.s, .int .i64 d'.y, .int .i64 d'.c, .bool d'.dn, .int .i64 d'.f], .int .i64 n]) ∧ runM ⟨s, y, c, dn, f⟩ k t z = (d', n) ∧ Below w.heap.size w w' := by
  by_cases e1 : k = 1
  · subst e1; exact run19_1 s t y c f z dn w hs hc hf1 hf2
  by_cases e2 : k = 2
  · subst e2; exact run19_2 s t y c f z dn w hf1 hf2
  by_cases e3 : k = 3
  · subst e3; exact run19_3 s t y c f z dn w hf1 hf2
  refine (run19_else s t y c f z k dn w h0 h1 e1 e2 e3).mono ?_
  rintro e w' ⟨rfl, hb⟩
  exact ⟨⟨s, y, c, dn, f⟩, 5, rfl, by simp [runM, e1, e2, e3], hb⟩
/-- Do's own variables: the disk, the step, the answer -/
structure DS (w W : World) (s t : ByteArray) (y c f z k : Int) (dn : Bool) : Prop where
  below : Below w.heap.size w W
  box : Box W w.heap.size #[.string s, .int .i64 y, .int .i64 c, .bool dn, .int .i64 f] 24
  step : Box W (w.heap.size + 1) #[.int .u8 k, .string t, .int .i64 z] 30
  res : Box W (w.heap.size + 2) #[.string ⟨#[]⟩, .int .i64 0, .int .i64 0, .bool false, .int .i64 0] 24
theorem DS.call {w W W' : World} {s t : ByteArray} {y c f z k : Int} {dn : Bool} (h : DS w W s t y c f z k dn) (hb : Below W.heap.size W W') : DS w W' s t y c f z k dn :=
  ⟨h.below.trans (hb.mono h.below.size), h.box.call hb, h.step.call hb, h.res.call hb⟩
theorem DS.new (w : World) (s t : ByteArray) (y c f z k : Int) (dn : Bool) : DS w (((w.alloc (.cells #[.string s, .int .i64 y, .int .i64 c, .bool dn, .int .i64 f] 24)).alloc (.cells #[.int .u8 k, .string t, .int .i64 z] 30)).alloc (.cells #[.string ⟨#[]⟩, .int .i64 0, .int .i64 0, .bool false, .int .i64 0] 24)) s t y c f z k dn := by
  refine ⟨below3 w _ _ _, (box2 w _ _ _ _).1.past _, (box2 w _ _ _ _).2.past _, ?_⟩
  have := (box2 (w.alloc (.cells #[.string s, .int .i64 y, .int .i64 c, .bool dn, .int .i64 f] 24)) #[.int .u8 k, .string t, .int .i64 z] #[.string ⟨#[]⟩, .int .i64 0, .int .i64 0, .bool false, .int .i64 0] 30 24).2
  simpa using this
set_option maxHeartbeats 4000000 in
theorem do9_no (s t : ByteArray) (y c f z k : Int) (dn : Bool) (w : World) (h : okB s y c = false) :
    Calls Try.prog 9 #[.agg #[.string s, .int .i64 y, .int .i64 c, .bool dn, .int .i64 f], .agg #[.int .u8 k, .string t, .int .i64 z]] w fun e w' => e = .returned (.tuple #[.agg #[.string ⟨#[]⟩, .int .i64 0, .int .i64 0, .bool false, .int .i64 0], .int .i64 6]) ∧ Below w.heap.size w w' := by
  have HO : Hid (okB s y c = false) := h
  clear h
  go_enter Try.func9, Try.ntmps9
  go_wp2_with fail
  refine (check13_no s y c f dn HO.out _).mono ?_
  rintro e w3 ⟨rfl, hb3⟩
  have S3 : Hid (DS w w3 s t y c f z k dn) := (DS.new w s t y c f z k dn).call hb3
  clear hb3
  obtain ⟨q0, q1, q2, q3, q4⟩ := S3.out.res.five
  have fz := S3.out.res.free
  have lt2 := S3.out.res.1
  go_wp2
  exact bodyPost_ret (v := .tuple #[.agg #[.string ⟨#[]⟩, .int .i64 0, .int .i64 0, .bool false, .int .i64 0], .int .i64 6]) (results_box2 (fn := Try.f9) (p := 4) (u := 5) rfl _ _ (w.heap.size + 2) _ _ _ _ _ _ rfl rfl (fin5 S3.out.res S3.out.below (by omega) _ _ _ _ _).1) rfl ⟨rfl, (fin5 S3.out.res S3.out.below (by omega) _ _ _ _ _).2⟩
set_option maxHeartbeats 4000000 in
theorem do9_yes (s t : ByteArray) (y c f z k : Int) (dn : Bool) (w : World) (h : okB s y c = true) (hf1 : -9223372036854775808 ≤ f) (hf2 : f ≤ 9223372036854775807) (h0 : 0 ≤ k) (h1 : k < 256) :
    Calls Try.prog 9 #[.agg #[.string s, .int .i64 y, .int .i64 c, .bool dn, .int .i64 f], .agg #[.int .u8 k, .string t, .int .i64 z]] w fun e w' => ∃ d' n, e = .returned (.tuple #[.agg #[.string d'.s, .int .i64 d'.y, .int .i64 d'.c, .bool d'.dn, .int .i64 d'.f], .int .i64 n]) ∧ runM ⟨s, y, c, dn, f⟩ k t z = (d', n) ∧ Below w.heap.size w w' := by
  have HO : Hid (okB s y c = true) := h
  obtain ⟨g1, g2, g3, g4, g5⟩ := ok_mk h
  clear h
  go_enter Try.func9, Try.ntmps9
  go_wp2_with fail
  refine (check13_yes s y c f dn HO.out _).mono ?_
  rintro e w3 ⟨rfl, hb3⟩
  have S3 : Hid (DS w w3 s t y c f z k dn) := (DS.new w s t y c f z k dn).call hb3
  clear hb3
  obtain ⟨p0, p1, p2, p3, p4⟩ := S3.out.box.five
  obtain ⟨r0, r1, r2⟩ := S3.out.step.three
  go_wp2_with fail
  refine (run19 s t y c f z k dn _ g3 g2 hf1 hf2 h0 h1).mono ?_
  rintro e w4 ⟨⟨s', y', c', dn', f'⟩, n, rfl, hM, hb4⟩
  have HO' : Hid (okB s' y' c' = true) := by have := runM_ok ⟨s, y, c, dn, f⟩ k t z HO.out; rw [hM] at this; exact this
  have HM : Hid _ := hM
  have S4 : Hid (DS w w4 s t y c f z k dn) := S3.out.call hb4
  clear hb4 hM S3 p0 p1 p2 p3 p4 r0 r1 r2
  go_wp2_with fail
  refine (own20 s' (by have := ok_mk HO'.out; omega) y' c' f' dn' _).mono ?_
  rintro e w5 ⟨rfl, hb5⟩
  have S5 : Hid (DS w w5 s t y c f z k dn) := (S4.out.call (below_new _ _)).call hb5
  clear hb5 S4
  obtain ⟨q0, q1, q2, q3, q4⟩ := S5.out.res.five
  have fz := S5.out.res.free
  have lt2 := S5.out.res.1
  go_wp2
  exact bodyPost_ret (v := .tuple #[.agg #[.string s', .int .i64 y', .int .i64 c', .bool dn', .int .i64 f'], .int .i64 n]) (results_box2 (fn := Try.f9) (p := 4) (u := 5) rfl _ _ (w.heap.size + 2) _ _ _ _ _ _ rfl rfl (fin5 S5.out.res S5.out.below (by omega) _ _ _ _ _).1) rfl ⟨⟨s', y', c', dn', f'⟩, n, rfl, HM.out, (fin5 S5.out.res S5.out.below (by omega) _ _ _ _ _).2⟩
end Go.Proofs.Ytbdjmedhoaillaa
