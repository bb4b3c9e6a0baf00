/- DiskRefused, walked. -/
import Derived.Test.YtbdjmedhoaillaaLives
namespace Go.Proofs.Ytbdjmedhoaillaa
open Go.RowKit
/-- what comes of a change: nothing, or it is done, or the power goes -/
theorem runM_ways (d : Dk) (k : Int) (t : ByteArray) (z : Int) (d' : Dk) (n : Int) (h : runM d k t z = (d', n)) :
    (d' = d ∧ n ≠ 0 ∧ (n ≠ 12 ∨ d.dn = true)) ∨ (n = 0 ∧ d'.c = d.c ∧ d.dn = false ∧ d.f ≠ 0) ∨ (n = 12 ∧ d.dn = false ∧ d.f = 0 ∧ ∃ s', d' = ⟨s', d.y, d.c, true, 0⟩ ∧ (s' = d.s ∨ k = 1 ∧ s' = d.s ++ t)) := by
  obtain ⟨s, y, c, dn, f⟩ := d
  unfold runM at h
  cases dn <;> simp only [Bool.false_eq_true, if_true, if_false] at h <;> (repeat' split at h) <;> cases h
  all_goals first
    | exact Or.inl ⟨rfl, by decide, by simp⟩
    | exact Or.inr (Or.inl ⟨rfl, rfl, rfl, by assumption⟩)
    | (rename_i hf; subst hf; exact Or.inr (Or.inr ⟨rfl, rfl, rfl, _, rfl, by simp [*]⟩))
/-- the law's own variables: the disk, the step -/
structure FS (w W : World) (s t : ByteArray) (y c f z k : Int) (dn : Bool) : Prop where
  below : Below w.heap.size w W
  box : Box W w.heap.size #[.string s, .int .i64 y, .int .i64 c, .bool dn, .int .i64 f] 24
  step : Box W (w.heap.size + 1) #[.int .u8 k, .string t, .int .i64 z] 30
theorem FS.call {w W W' : World} {s t : ByteArray} {y c f z k : Int} {dn : Bool} (h : FS w W s t y c f z k dn) (hb : Below W.heap.size W W') : FS w W' s t y c f z k dn :=
  ⟨h.below.trans (hb.mono h.below.size), h.box.call hb, h.step.call hb⟩
theorem FS.new (w : World) (s t : ByteArray) (y c f z k : Int) (dn : Bool) : FS w ((w.alloc (.cells #[.string s, .int .i64 y, .int .i64 c, .bool dn, .int .i64 f] 24)).alloc (.cells #[.int .u8 k, .string t, .int .i64 z] 30)) s t y c f z k dn :=
  ⟨below2 w _ _, (box2 w _ _ _ _).1, (box2 w _ _ _ _).2⟩
set_option maxHeartbeats 4000000 in
theorem refused4_no (s t : ByteArray) (y c f z k : Int) (dn : Bool) (w : World) (h : okB s y c = false) :
    Calls Try.prog 4 #[.agg #[.string s, .int .i64 y, .int .i64 c, .bool dn, .int .i64 f], .agg #[.int .u8 k, .string t, .int .i64 z]] w fun e w' => e = .returned (.bool true) ∧ Below w.heap.size w w' := by
  have HO : Hid (okB s y c = false) := h
  clear h
  go_enter Try.func4, Try.ntmps4
  go_wp2_with fail
  refine (lives8 _).mono ?_
  rintro e w1 ⟨rfl, hb1⟩
  have S1 : Hid (FS w w1 s t y c f z k dn) := (FS.new w s t y c f z k dn).call hb1
  clear hb1
  obtain ⟨p0, p1, p2, p3, p4⟩ := S1.out.box.five
  obtain ⟨r0, r1, r2⟩ := S1.out.step.three
  go_wp2_with fail
  refine (do9_no s t y c f z k dn _ HO.out).mono ?_
  rintro e w2 ⟨rfl, hb2⟩
  have S2 : Hid (FS w (w2.alloc (.cells #[.string ⟨#[]⟩, .int .i64 0, .int .i64 0, .bool false, .int .i64 0] 24)) s t y c f z k dn) := (S1.out.call hb2).call (below_new _ _)
  have E2 : Hid (Box (w2.alloc (.cells #[.string ⟨#[]⟩, .int .i64 0, .int .i64 0, .bool false, .int .i64 0] 24)) w2.heap.size #[.string ⟨#[]⟩, .int .i64 0, .int .i64 0, .bool false, .int .i64 0] 24) := Box.new w2 _ _
  have lt1 : w.heap.size < w2.heap.size := Nat.lt_of_lt_of_le S1.out.box.1 hb2.size
  have P2 : w2.cell? ⟨w.heap.size, 0, none⟩ = _ ∧ _ := (S1.out.call hb2).box.five
  clear p0 p1 p2 p3 p4 r0 r1 r2 S1 hb2
  obtain ⟨p0, p1, p2, p3, p4⟩ := P2
  go_wp2_with fail
  refine (check13_no s y c f dn HO.out _).mono ?_
  rintro e w3 ⟨rfl, hb3⟩
  have S3 : Hid (FS w w3 s t y c f z k dn) := S2.out.call hb3
  obtain ⟨q0, q1, q2, q3, q4⟩ := (E2.out.call hb3).five
  clear hb3 p0 p1 p2 p3 p4 S2 E2 lt1
  go_wp2
  go_ret
  exact ⟨rfl, S3.out.below⟩
set_option maxHeartbeats 4000000 in
theorem refused4_yes (s t : ByteArray) (y c f z k : Int) (dn : Bool) (w : World) (h : okB s y c = true) (hf1 : -9223372036854775808 ≤ f) (hf2 : f ≤ 9223372036854775807) (h0 : 0 ≤ k) (h1 : k < 256) :
    Calls Try.prog 4 #[.agg #[.string s, .int .i64 y, .int .i64 c, .bool dn, .int .i64 f], .agg #[.int .u8 k, .string t, .int .i64 z]] w fun e w' => e = .returned (.bool true) ∧ Below w.heap.size w w' := by
  have HO : Hid (okB s y c = true) := h
  clear h
  go_enter Try.func4, Try.ntmps4
  go_wp2_with fail
  refine (lives8 _).mono ?_
  rintro e w1 ⟨rfl, hb1⟩
  have S1 : Hid (FS w w1 s t y c f z k dn) := (FS.new w s t y c f z k dn).call hb1
  clear hb1
  obtain ⟨p0, p1, p2, p3, p4⟩ := S1.out.box.five
  obtain ⟨r0, r1, r2⟩ := S1.out.step.three
  go_wp2_with fail
  refine (do9_yes s t y c f z k dn _ HO.out hf1 hf2 h0 h1).mono ?_
  rintro e w2 ⟨⟨s', y', c', dn', f'⟩, n, rfl, hM, hb2⟩
  have HO' : Hid (okB s' y' c' = true) := by have := runM_ok ⟨s, y, c, dn, f⟩ k t z HO.out; rw [hM] at this; exact this
  have S2 : Hid (FS w (w2.alloc (.cells #[.string s', .int .i64 y', .int .i64 c', .bool dn', .int .i64 f'] 24)) s t y c f z k dn) := (S1.out.call hb2).call (below_new _ _)
  have E2 : Hid (Box (w2.alloc (.cells #[.string s', .int .i64 y', .int .i64 c', .bool dn', .int .i64 f'] 24)) w2.heap.size #[.string s', .int .i64 y', .int .i64 c', .bool dn', .int .i64 f'] 24) := Box.new w2 _ _
  have lt1 : w.heap.size < w2.heap.size := Nat.lt_of_lt_of_le S1.out.box.1 hb2.size
  have P2 : w2.cell? ⟨w.heap.size, 0, none⟩ = _ ∧ _ := (S1.out.call hb2).box.five
  clear p0 p1 p2 p3 p4 r0 r1 r2 S1 hb2
  obtain ⟨p0, p1, p2, p3, p4⟩ := P2
  rcases runM_ways _ _ _ _ _ _ hM with ⟨hd, hn0, hn12⟩ | ⟨hn0, hc, hdn, hf0⟩ | ⟨hn, hdn, hf0, s'', hd, hs⟩
  · -- nothing
    cases hd
    have e0 : (n == 0) = false := by simp [hn0]
    have HX : Hid (n ≠ 12 ∨ dn = true) := hn12
    clear hM hn0 hn12
    go_wp2_with fail
    refine (check13_yes s y c f dn HO.out _).mono ?_
    rintro e w3 ⟨rfl, hb3⟩
    have S3 : Hid (FS w w3 s t y c f z k dn) := S2.out.call hb3
    obtain ⟨q0, q1, q2, q3, q4⟩ := (E2.out.call hb3).five
    clear p0 p1 p2 p3 p4 S2 E2 lt1 hb3
    obtain ⟨p0, p1, p2, p3, p4⟩ := S3.out.box.five
    by_cases hn : n = 12
    · have hdn : dn = true := by rcases HX.out with h | h; exact absurd hn h; exact h
      subst hn hdn
      go_wp2
      go_ret
      exact ⟨rfl, S3.out.below⟩
    · have e12 : (n == 12) = false := by simp [hn]
      go_wp2
      go_ret
      exact ⟨rfl, S3.out.below⟩
  · -- done
    subst hn0
    have hc' : c' = c := hc
    subst hc'
    clear hM hdn hf0 hc
    go_wp2_with fail
    refine (check13_yes s' y' c' f' dn' HO'.out _).mono ?_
    rintro e w3 ⟨rfl, hb3⟩
    have S3 : Hid (FS w w3 s t y c' f z k dn) := S2.out.call hb3
    obtain ⟨q0, q1, q2, q3, q4⟩ := (E2.out.call hb3).five
    clear p0 p1 p2 p3 p4 S2 E2 lt1 hb3
    obtain ⟨p0, p1, p2, p3, p4⟩ := S3.out.box.five
    go_wp2
    go_ret
    exact ⟨rfl, S3.out.below⟩
  · -- the power goes
    subst hn
    have hdn' : dn = false := hdn
    have hf' : f = 0 := hf0
    subst hdn' hf'
    have hd' : (⟨s', y', c', dn', f'⟩ : Dk) = ⟨s'', y, c, true, 0⟩ := hd
    cases hd'
    have HS : Hid (s' = s ∨ k = 1 ∧ s' = s ++ t) := hs
    have hts : k = 1 → s' = s ++ t → s.size + t.size ≤ 262144 := fun _ e => by
      have := ok_mk HO'.out
      rw [e, size_app] at this
      omega
    clear hM hdn hf0 hd hs
    go_wp2_with fail
    refine (check13_yes s y c 0 false HO.out _).mono ?_
    rintro e w3 ⟨rfl, hb3⟩
    have S3 : Hid (FS w w3 s t y c 0 z k false) := S2.out.call hb3
    obtain ⟨q0, q1, q2, q3, q4⟩ := (E2.out.call hb3).five
    clear p0 p1 p2 p3 p4 S2 E2 lt1 hb3
    obtain ⟨p0, p1, p2, p3, p4⟩ := S3.out.box.five
    obtain ⟨r0, r1, r2⟩ := S3.out.step.three
    by_cases hss : s' = s
    · subst hss
      clear hts
      go_wp2
      go_ret
      exact ⟨rfl, S3.out.below⟩
    · obtain ⟨rfl, rfl⟩ : k = 1 ∧ s' = s ++ t := by rcases HS.out with h | h; exact absurd h hss; exact h
      have hts' := hts rfl rfl
      clear hts hss HS
      go_wp2
      all_goals
        go_ret
        exact ⟨rfl, S3.out.below⟩
theorem refused4 (s t : ByteArray) (y c f z k : Int) (dn : Bool) (w : World) (hf1 : -9223372036854775808 ≤ f) (hf2 : f ≤ 9223372036854775807) (h0 : 0 ≤ k) (h1 : k < 256) :
    Calls Try.prog 4 #[.agg #[.string s, .int .i64 y, .int .i64 c, .bool dn, .int .i64 f], .agg #[.int .u8 k, .string t, .int .i64 z]] w fun e w' => e = .returned (.bool true) ∧ Below w.heap.size w w' := by
  cases h : okB s y c
  · exact refused4_no s t y c f z k dn w h
  · exact refused4_yes s t y c f z k dn w h hf1 hf2 h0 h1
end Go.Proofs.Ytbdjmedhoaillaa
