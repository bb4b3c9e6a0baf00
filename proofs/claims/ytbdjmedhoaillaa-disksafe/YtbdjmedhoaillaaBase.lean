/- The disk's small parts, walked: Check, Clone, own. -/
import Derived.Test.YtbdjmedhoaillaaRows
import Derived.WalkKit
import Derived.WalkLawsBesides
import Derived.Deep.QuietTactic
import Derived.BigQuiet
import Derived.Outline
import Derived.Deep.RegionHeld3
import Derived.Deep.RegionWith
import Derived.Deep.CutRange
import Derived.LoopTactic
import Derived.WalkSpells
import Derived.BigRegion
import Derived.Lib.UnsafeStr
import Derived.Lib.BufferWrite
import Derived.Laws.IdiomStrings
import Derived.Laws.OwnMore
import Derived.Laws.CopyOwn
namespace Go.Proofs.Ytbdjmedhoaillaa
open Go.RowKit
/-- a disk is right -/
def okB (s : ByteArray) (y c : Int) : Bool := decide (0 ≤ c) && decide (c ≤ 262144) && decide ((s.size : Int) ≤ c) && decide (0 ≤ y) && decide (y ≤ (s.size : Int))
theorem ok_mk {s : ByteArray} {y c : Int} (h : okB s y c = true) : 0 ≤ c ∧ c ≤ 262144 ∧ (s.size : Int) ≤ c ∧ 0 ≤ y ∧ y ≤ (s.size : Int) := by
  simpa [okB, and_assoc] using h
theorem ok_not {s : ByteArray} {y c : Int} (h : okB s y c = false) : ¬ (0 ≤ c ∧ c ≤ 262144 ∧ (s.size : Int) ≤ c ∧ 0 ≤ y ∧ y ≤ (s.size : Int)) := by
  intro h'
  have : okB s y c = true := by simpa [okB, and_assoc] using h'
  rw [h] at this
  cases this
set_option maxHeartbeats 1000000 in
theorem check13_yes (s : ByteArray) (y c f : Int) (dn : Bool) (h : okB s y c = true) (w : World) :
    Calls Try.prog 13 #[.agg #[.string s, .int .i64 y, .int .i64 c, .bool dn, .int .i64 f]] w fun e w' => e = .returned (.int .i64 0) ∧ Below w.heap.size w w' := by
  obtain ⟨h1, h2, h3, h4, h5⟩ := ok_mk h
  clear h
  go_enter Try.func13, Try.ntmps13
  go_wp2
  all_goals first
    | (exfalso; omega)
    | (go_ret; exact ⟨rfl, (Below.refl _ _).alloc (Nat.le_refl _) _⟩)
set_option maxHeartbeats 1000000 in
theorem check13_no (s : ByteArray) (y c f : Int) (dn : Bool) (h : okB s y c = false) (w : World) :
    Calls Try.prog 13 #[.agg #[.string s, .int .i64 y, .int .i64 c, .bool dn, .int .i64 f]] w fun e w' => e = .returned (.int .i64 6) ∧ Below w.heap.size w w' := by
  have h' := ok_not h
  clear h
  have H : Hid (¬ (0 ≤ c ∧ c ≤ 262144 ∧ (s.size : Int) ≤ c ∧ 0 ≤ y ∧ y ≤ (s.size : Int))) := h'
  clear h'
  go_enter Try.func13, Try.ntmps13
  go_wp2
  all_goals first
    | (exfalso; have := H.out; omega)
    | (go_ret; exact ⟨rfl, (Below.refl _ _).alloc (Nat.le_refl _) _⟩)
set_option maxHeartbeats 1000000 in
theorem rcheck18_yes (s : ByteArray) (y c f : Int) (dn : Bool) (h : okB s y c = true) (w : World) :
    Calls Try.prog 18 #[.agg #[.string s, .int .i64 y, .int .i64 c, .bool dn, .int .i64 f]] w fun e w' => e = .returned (.int .i64 0) ∧ Below w.heap.size w w' := by
  obtain ⟨h1, h2, h3, h4, h5⟩ := ok_mk h
  clear h
  go_enter Try.func18, Try.ntmps18
  go_wp2
  all_goals first
    | (exfalso; omega)
    | (go_ret; exact ⟨rfl, (Below.refl _ _).alloc (Nat.le_refl _) _⟩)
set_option maxHeartbeats 1000000 in
theorem rcheck18_no (s : ByteArray) (y c f : Int) (dn : Bool) (h : okB s y c = false) (w : World) :
    Calls Try.prog 18 #[.agg #[.string s, .int .i64 y, .int .i64 c, .bool dn, .int .i64 f]] w fun e w' => e = .returned (.int .i64 6) ∧ Below w.heap.size w w' := by
  have h' := ok_not h
  clear h
  have H : Hid (¬ (0 ≤ c ∧ c ≤ 262144 ∧ (s.size : Int) ≤ c ∧ 0 ≤ y ∧ y ≤ (s.size : Int))) := h'
  clear h'
  go_enter Try.func18, Try.ntmps18
  go_wp2
  all_goals first
    | (exfalso; have := H.out; omega)
    | (go_ret; exact ⟨rfl, (Below.refl _ _).alloc (Nat.le_refl _) _⟩)
theorem cellsOf5 : Try.prog.cellsOf 5 = 1 := by kernel_rfl
theorem size5 : (Try.prog.info? 5).map (·.size) = some 1 := by kernel_rfl
theorem info5 : (Try.prog.info? 5).map (fun i => (i.zero, i.size, i.bytes)) = some (some (.int .u8 0), 1, 1) := by kernel_rfl
set_option maxHeartbeats 1000000 in
theorem clone25 (s : ByteArray) (hs : s.size ≤ 4294967296) (w : World) :
    Calls Try.prog 25 #[.string s] w fun e w' => e = .returned (.string s) ∧ Below w.heap.size w w' := by
  by_cases h0 : s.size = 0
  · have e : s = ⟨#[]⟩ := ByteArray.ext (Array.eq_empty_of_size_eq_zero h0)
    subst e
    go_enter Try.func25, Try.ntmps25
    go_wp2
    go_ret
    exact ⟨rfl, Below.refl _ _⟩
  · obtain ⟨i0, hi, hz0, hz1, hz2⟩ := info_parts info5
    obtain ⟨M, hM⟩ : ∃ M, M = madeCells (Value.int .u8 0).cells (s.size * i0.size) := ⟨_, rfl⟩
    have hMs : M.size = s.size := by rw [hM, size_madeCells, hz1]; omega
    have hmk : ∀ u : World, (Instr.makeSlice 52 (.int .i64 (s.size : Int)) (.int .i64 (s.size : Int))).run Try.prog u = .ok (.slice (some ⟨u.heap.size, 0, none⟩) s.size s.size) (u.alloc (.cells M 5)) := fun u => by
      have h := run_make (P := Try.prog) u 52 5 i0 (.int .u8 0) Try.underlying52 hi hz0 .i64 .i64 (s.size : Int) (s.size : Int) (by omega) (by omega) (by rw [hz2]; omega) (by omega)
      rw [show (s.size : Int).toNat = s.size by omega, ← hM] at h
      exact h
    obtain ⟨Y, hY⟩ : ∃ Y : Array Value, Y = (Lib.byteCells s.data.toList).toArray := ⟨_, rfl⟩
    have hYs : Y.size = s.size := by rw [hY, List.size_toArray, Lib.byteCells_length, ← Lib.size_eq]
    have hcp : (Builtin.copy_ #[52, 9] 3 #[.slice (some ⟨w.heap.size, 0, none⟩) s.size s.size, .string s]).run Try.prog (w.alloc (.cells M 5)) = .ok (.int .i64 (s.size : Int)) ((w.alloc (.cells M 5)).setRow w.heap.size Y) := by
      have h := Lib.run_copy_row_string (P := Try.prog) (w.alloc (.cells M 5)) 52 9 3 5 w.heap.size 0 s.size s.size s M 5 Try.underlying52 size5 (heap_alloc_new w _) (Nat.le_refl _) (by omega)
      rw [h, hY, List.take_zero, List.nil_append, List.drop_of_length_le (by rw [Array.length_toList]; omega), List.append_nil]
      rfl
    have hgY : ((w.alloc (.cells M 5)).setRow w.heap.size Y).heap[w.heap.size]? = some (.cells Y 5 (0, 0)) := setRow_heap _ _ M _ 5 (0, 0) (heap_alloc_new w _)
    obtain ⟨W2, hW2⟩ : ∃ W2, W2 = (w.alloc (.cells M 5)).setRow w.heap.size Y := ⟨_, rfl⟩
    rw [← hW2] at hcp hgY
    have hne : s.data.toList ≠ [] := fun e => h0 (by rw [Lib.size_eq, e]; rfl)
    have hUS := Lib.run_unsafeString_row (P := Try.prog) W2 53 3 9 5 Try.underlying53 cellsOf5 w.heap.size Y.size (by unfold World.shape?; rw [hgY]) s.data.toList hne (by rw [← Lib.size_eq]; omega) (by rw [← Lib.size_eq]; omega)
      (fun j x hx => Lib.cells_of_row hgY Y.size j _ (by rw [List.take_of_length_le (by rw [Array.length_toList]; exact Nat.le_refl _), hY]; simp [Lib.byteCells, hx]))
    rw [← Lib.size_eq] at hUS
    have hB2 : Below w.heap.size w W2 := by
      rw [hW2]
      exact below_setRow ((Below.refl _ w).alloc (Nat.le_refl _) _) (Nat.le_refl _) _
    have HB2 : Hid (Below w.heap.size w W2) := hB2
    clear hW2 hgY hY hM hB2
    go_enter Try.func25, Try.ntmps25
    go_wp2
    go_ret
    exact ⟨rfl, Lib.below_freeze HB2.out (p := ⟨w.heap.size, 0, none⟩) (Nat.le_refl _) _⟩
theorem clone21 (s : ByteArray) (hs : s.size ≤ 4294967296) (w : World) :
    Calls Try.prog 21 #[.string s] w fun e w' => e = .returned (.string s) ∧ Below w.heap.size w w' := by
  go_enter Try.func21, Try.ntmps21
  go_wp2_with (go_at_call 25; refine (clone25 s hs _).mono ?_; rintro e w1 ⟨rfl, hb1⟩)
  go_ret
  exact ⟨rfl, hb1⟩
/-- cells in a block of their own -/
def Box (w : World) (b : Nat) (C : Array Value) (t : TypeId) : Prop := b < w.heap.size ∧ w.heap[b]? = some (.cells C t (0, 0))
theorem Box.call {w w' : World} {b : Nat} {C : Array Value} {t : TypeId} (h : Box w b C t) (hb : Below w.heap.size w w') : Box w' b C t :=
  ⟨Nat.lt_of_lt_of_le h.1 hb.size, (hb.block _ h.1).trans h.2⟩
theorem Box.cell {w : World} {b : Nat} {C : Array Value} {t : TypeId} (h : Box w b C t) (i : Nat) (v : Value) (hv : C[i]? = some v) : w.cell? ⟨b, i, none⟩ = some v := by
  rw [cell_of_row _ _ _ _ _ _ h.2]; exact hv
theorem Box.free {w : World} {b : Nat} {C : Array Value} {t : TypeId} (h : Box w b C t) (r : Nat) : w.frozen? ⟨b, r, none⟩ = false := by
  simp [World.frozen?, h.2]
theorem Box.new (w : World) (C : Array Value) (t : TypeId) : Box (w.alloc (.cells C t)) w.heap.size C t := ⟨by simp, heap_alloc_new w _⟩
theorem below_new (w : World) (o : Obj) : Below w.heap.size w (w.alloc o) := (Below.refl _ _).alloc (Nat.le_refl _) _
theorem Box.past {w : World} {b : Nat} {C : Array Value} {t : TypeId} (h : Box w b C t) (o : Obj) : Box (w.alloc o) b C t := h.call (below_new w o)
theorem Box.five {w : World} {b : Nat} {v0 v1 v2 v3 v4 : Value} {t : TypeId} (h : Box w b #[v0, v1, v2, v3, v4] t) : w.cell? ⟨b, 0, none⟩ = some v0 ∧ w.cell? ⟨b, 1, none⟩ = some v1 ∧ w.cell? ⟨b, 2, none⟩ = some v2 ∧ w.cell? ⟨b, 3, none⟩ = some v3 ∧ w.cell? ⟨b, 4, none⟩ = some v4 :=
  ⟨h.cell 0 _ rfl, h.cell 1 _ rfl, h.cell 2 _ rfl, h.cell 3 _ rfl, h.cell 4 _ rfl⟩
theorem Box.three {w : World} {b : Nat} {v0 v1 v2 : Value} {t : TypeId} (h : Box w b #[v0, v1, v2] t) : w.cell? ⟨b, 0, none⟩ = some v0 ∧ w.cell? ⟨b, 1, none⟩ = some v1 ∧ w.cell? ⟨b, 2, none⟩ = some v2 :=
  ⟨h.cell 0 _ rfl, h.cell 1 _ rfl, h.cell 2 _ rfl⟩
theorem Box.eight {w : World} {b : Nat} {v0 v1 v2 v3 v4 v5 v6 v7 : Value} {t : TypeId} (h : Box w b #[v0, v1, v2, v3, v4, v5, v6, v7] t) : w.cell? ⟨b, 0, none⟩ = some v0 ∧ w.cell? ⟨b, 1, none⟩ = some v1 ∧ w.cell? ⟨b, 2, none⟩ = some v2 ∧ w.cell? ⟨b, 3, none⟩ = some v3 ∧ w.cell? ⟨b, 4, none⟩ = some v4 ∧ w.cell? ⟨b, 5, none⟩ = some v5 ∧ w.cell? ⟨b, 6, none⟩ = some v6 ∧ w.cell? ⟨b, 7, none⟩ = some v7 :=
  ⟨h.cell 0 _ rfl, h.cell 1 _ rfl, h.cell 2 _ rfl, h.cell 3 _ rfl, h.cell 4 _ rfl, h.cell 5 _ rfl, h.cell 6 _ rfl, h.cell 7 _ rfl⟩
set_option maxHeartbeats 1000000 in
theorem own20 (s : ByteArray) (hs : s.size ≤ 4294967296) (y c f : Int) (dn : Bool) (w : World) :
    Calls Try.prog 20 #[.agg #[.string s, .int .i64 y, .int .i64 c, .bool dn, .int .i64 f]] w fun e w' => e = .returned (.agg #[.string s, .int .i64 y, .int .i64 c, .bool dn, .int .i64 f]) ∧ Below w.heap.size w w' := by
  go_enter Try.func20, Try.ntmps20
  go_wp2_with fail
  refine (clone21 s hs _).mono ?_
  rintro e w1 ⟨rfl, hb1⟩
  obtain ⟨p0, p1, p2, p3, p4⟩ := (((Box.new w _ _).past _).call hb1).five
  have fp := (((Box.new w _ _).past _).call hb1).free
  have B1 := (Box.new (w.alloc _) _ _).call hb1
  obtain ⟨q0, q1, q2, q3, q4⟩ := B1.five
  have fq := B1.free
  have HB : Hid (Below w.heap.size w w1) := (((Below.refl _ _).alloc (Nat.le_refl _) _).alloc (by simp) _).trans (hb1.mono (by simp; omega))
  have lt := B1.1
  simp only [World.size_alloc] at q0 q1 q2 q3 q4 fq lt
  clear hb1 B1
  go_wp2
  refine bodyPost_ret (v := .agg #[.string s, .int .i64 y, .int .i64 c, .bool dn, .int .i64 f]) (by simp [results, Try.results20, go_sem, q0, q1, q2, q3, q4]) rfl ⟨rfl, ?_⟩
  exact (((((HB.out.setCell (Nat.le_refl _) _).setCell (by simp) _).setCell (by simp) _).setCell (by simp) _).setCell (by simp) _).setCell (by simp) _
end Go.Proofs.Ytbdjmedhoaillaa
