/- Read and Crash, walked. -/
import Derived.Test.YtbdjmedhoaillaaDo
namespace Go.Proofs.Ytbdjmedhoaillaa
open Go.RowKit
/-- how many bytes are there behind a crash -/
def keptM (s : ByteArray) (y keep : Int) : Int := y + min (max keep 0) (s.size - y)
/-- the disk behind a crash -/
def crashM (d : Dk) (keep : Int) : Dk := ⟨d.s.extract 0 (keptM d.s d.y keep).toNat, keptM d.s d.y keep, d.c, false, -1⟩
theorem kept_at (s : ByteArray) (y keep : Int) (h1 : y ≤ s.size) : y ≤ keptM s y keep ∧ keptM s y keep ≤ s.size := by
  unfold keptM; omega
set_option maxHeartbeats 1000000 in
theorem read14_no (s : ByteArray) (y c f : Int) (dn : Bool) (w : World) (h : okB s y c = false) :
    Calls Try.prog 14 #[.agg #[.string s, .int .i64 y, .int .i64 c, .bool dn, .int .i64 f]] w fun e w' => e = .returned (.tuple #[.string ⟨#[]⟩, .int .i64 6]) ∧ Below w.heap.size w w' := by
  have HO : Hid (okB s y c = false) := h
  clear h
  go_enter Try.func14, Try.ntmps14
  go_wp2_with fail
  refine (check13_no s y c f dn HO.out _).mono ?_
  rintro e w3 ⟨rfl, hb3⟩
  have HB : Hid (Below w.heap.size w w3) := (below_new w _).trans (hb3.mono (by simp))
  clear hb3
  go_wp2
  go_ret2
  exact ⟨rfl, HB.out⟩
set_option maxHeartbeats 1000000 in
theorem read14_down (s : ByteArray) (y c f : Int) (w : World) (h : okB s y c = true) :
    Calls Try.prog 14 #[.agg #[.string s, .int .i64 y, .int .i64 c, .bool true, .int .i64 f]] w fun e w' => e = .returned (.tuple #[.string ⟨#[]⟩, .int .i64 12]) ∧ Below w.heap.size w w' := by
  have HO : Hid (okB s y c = true) := h
  clear h
  go_enter Try.func14, Try.ntmps14
  go_wp2_with fail
  refine (check13_yes s y c f true HO.out _).mono ?_
  rintro e w3 ⟨rfl, hb3⟩
  obtain ⟨p0, p1, p2, p3, p4⟩ := ((Box.new w _ _).call hb3).five
  have HB : Hid (Below w.heap.size w w3) := (below_new w _).trans (hb3.mono (by simp))
  clear hb3
  go_wp2
  go_ret2
  exact ⟨rfl, HB.out⟩
set_option maxHeartbeats 1000000 in
theorem read14_yes (s : ByteArray) (y c f : Int) (w : World) (h : okB s y c = true) :
    Calls Try.prog 14 #[.agg #[.string s, .int .i64 y, .int .i64 c, .bool false, .int .i64 f]] w fun e w' => e = .returned (.tuple #[.string s, .int .i64 0]) ∧ Below w.heap.size w w' := by
  have HO : Hid (okB s y c = true) := h
  clear h
  go_enter Try.func14, Try.ntmps14
  go_wp2_with fail
  refine (check13_yes s y c f false HO.out _).mono ?_
  rintro e w3 ⟨rfl, hb3⟩
  obtain ⟨p0, p1, p2, p3, p4⟩ := ((Box.new w _ _).call hb3).five
  have HB : Hid (Below w.heap.size w w3) := (below_new w _).trans (hb3.mono (by simp))
  clear hb3
  go_wp2_with fail
  refine (clone21 s (by have := ok_mk HO.out; omega) _).mono ?_
  rintro e w4 ⟨rfl, hb4⟩
  have HB4 : Hid (Below w.heap.size w w4) := HB.out.trans (hb4.mono HB.out.size)
  clear hb4
  go_wp2
  go_ret2
  exact ⟨rfl, HB4.out⟩
/-- Crash's own variables: the disk, the answer -/
structure CS (w W : World) (s : ByteArray) (y c f : Int) (dn : Bool) : Prop where
  below : Below w.heap.size w W
  box : Box W w.heap.size #[.string s, .int .i64 y, .int .i64 c, .bool dn, .int .i64 f] 24
  res : Box W (w.heap.size + 1) #[.string ⟨#[]⟩, .int .i64 0, .int .i64 0, .bool false, .int .i64 0] 24
theorem CS.call {w W W' : World} {s : ByteArray} {y c f : Int} {dn : Bool} (h : CS w W s y c f dn) (hb : Below W.heap.size W W') : CS w W' s y c f dn :=
  ⟨h.below.trans (hb.mono h.below.size), h.box.call hb, h.res.call hb⟩
theorem CS.new (w : World) (s : ByteArray) (y c f : Int) (dn : Bool) : CS w ((w.alloc (.cells #[.string s, .int .i64 y, .int .i64 c, .bool dn, .int .i64 f] 24)).alloc (.cells #[.string ⟨#[]⟩, .int .i64 0, .int .i64 0, .bool false, .int .i64 0] 24)) s y c f dn :=
  ⟨below2 w _ _, (box2 w _ _ _ _).1, (box2 w _ _ _ _).2⟩
set_option maxHeartbeats 1000000 in
theorem crash11_no (s : ByteArray) (y c f keep : Int) (dn : Bool) (w : World) (h : okB s y c = false) :
    Calls Try.prog 11 #[.agg #[.string s, .int .i64 y, .int .i64 c, .bool dn, .int .i64 f], .int .i64 keep] w fun e w' => e = .returned (.tuple #[.agg #[.string ⟨#[]⟩, .int .i64 0, .int .i64 0, .bool false, .int .i64 0], .int .i64 6]) ∧ Below w.heap.size w w' := by
  have HO : Hid (okB s y c = false) := h
  clear h
  go_enter Try.func11, Try.ntmps11
  go_wp2_with fail
  refine (check13_no s y c f dn HO.out _).mono ?_
  rintro e w3 ⟨rfl, hb3⟩
  have S3 : Hid (CS w w3 s y c f dn) := (CS.new w s y c f dn).call hb3
  clear hb3
  obtain ⟨q0, q1, q2, q3, q4⟩ := S3.out.res.five
  have fz := S3.out.res.free
  have lt2 := S3.out.res.1
  go_wp2
  exact bodyPost_ret (v := .tuple #[.agg #[.string ⟨#[]⟩, .int .i64 0, .int .i64 0, .bool false, .int .i64 0], .int .i64 6]) (results_box2 (fn := Try.f11) (p := 4) (u := 5) rfl _ _ (w.heap.size + 1) _ _ _ _ _ _ rfl rfl (fin5 S3.out.res S3.out.below (by omega) _ _ _ _ _).1) rfl ⟨rfl, (fin5 S3.out.res S3.out.below (by omega) _ _ _ _ _).2⟩
theorem CS.mid {w W : World} {s : ByteArray} {y c f : Int} {dn : Bool} (h : CS w W s y c f dn) (v0 v1 v3 v4 : Value) :
    Below w.heap.size w ((((W.setCell ⟨w.heap.size, 0, none⟩ v0).setCell ⟨w.heap.size, 1, none⟩ v1).setCell ⟨w.heap.size, 3, none⟩ v3).setCell ⟨w.heap.size, 4, none⟩ v4) ∧
    Box ((((W.setCell ⟨w.heap.size, 0, none⟩ v0).setCell ⟨w.heap.size, 1, none⟩ v1).setCell ⟨w.heap.size, 3, none⟩ v3).setCell ⟨w.heap.size, 4, none⟩ v4) (w.heap.size + 1) #[.string ⟨#[]⟩, .int .i64 0, .int .i64 0, .bool false, .int .i64 0] 24 := by
  have hle := Nat.le_refl w.heap.size
  refine ⟨(((h.below.setCell hle _).setCell hle _).setCell hle _).setCell hle _, by simp; exact h.res.1, ?_⟩
  rw [heap_setCell_other _ _ _ _ (by simp), heap_setCell_other _ _ _ _ (by simp), heap_setCell_other _ _ _ _ (by simp), heap_setCell_other _ _ _ _ (by simp)]
  exact h.res.2
set_option maxHeartbeats 4000000 in
theorem crash11_yes (s : ByteArray) (y c f keep : Int) (dn : Bool) (w : World) (h : okB s y c = true) :
    Calls Try.prog 11 #[.agg #[.string s, .int .i64 y, .int .i64 c, .bool dn, .int .i64 f], .int .i64 keep] w fun e w' => ∃ s' : ByteArray, ∃ n : Int, e = .returned (.tuple #[.agg #[.string s', .int .i64 n, .int .i64 c, .bool false, .int .i64 (-1)], .int .i64 0]) ∧ s' = s.extract 0 (keptM s y keep).toNat ∧ n = keptM s y keep ∧ Below w.heap.size w w' := by
  have HO : Hid (okB s y c = true) := h
  obtain ⟨g1, g2, g3, g4, g5⟩ := ok_mk h
  clear h
  go_enter Try.func11, Try.ntmps11
  go_wp2_with fail
  refine (check13_yes s y c f dn HO.out _).mono ?_
  rintro e w3 ⟨rfl, hb3⟩
  have S3 : Hid (CS w w3 s y c f dn) := (CS.new w s y c f dn).call hb3
  clear hb3
  obtain ⟨p0, p1, p2, p3, p4⟩ := S3.out.box.five
  have fp := S3.out.box.free
  have lt1 := S3.out.box.1
  go_wp2_with fail
  all_goals
    have M3 := S3.out.mid
    refine (own20 _ (by rw [ByteArray.size_extract]; omega) _ _ _ _ _).mono ?_
    rintro e w4 ⟨rfl, hb4⟩
    obtain ⟨m1, m2⟩ := M3 _ _ _ _
    have HB4 : Hid (Below w.heap.size w w4) := m1.trans (hb4.mono m1.size)
    have HR4 : Hid (Box w4 (w.heap.size + 1) #[.string ⟨#[]⟩, .int .i64 0, .int .i64 0, .bool false, .int .i64 0] 24) := m2.call hb4
    clear m1 m2 hb4 M3
    obtain ⟨q0, q1, q2, q3, q4⟩ := HR4.out.five
    have fz := HR4.out.free
    have lt2 := HR4.out.1
    go_wp2
    refine bodyPost_ret (results_box2 (fn := Try.f11) (p := 4) (u := 5) rfl _ _ (w.heap.size + 1) _ _ _ _ _ _ rfl rfl (fin5 HR4.out HB4.out (by omega) _ _ _ _ _).1) rfl ⟨_, _, rfl, ?_, ?_, (fin5 HR4.out HB4.out (by omega) _ _ _ _ _).2⟩
    · refine congrArg (fun n => s.extract 0 n) ?_
      unfold keptM; omega
    · unfold keptM; omega
end Go.Proofs.Ytbdjmedhoaillaa
