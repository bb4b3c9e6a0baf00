/- Several texts, joined: DkA, DkB, DkC, DkD -/
import Derived.Test.YtlafdlcpelkdpaaGreatDoorJOM
import Derived.WalkKit
import Derived.WalkLawsBesides
import Derived.Deep.QuietTactic
import Derived.BigQuiet
import Derived.Outline
import Derived.Deep.RegionHeld3
import Derived.Deep.RegionWith
import Derived.Deep.CutRange
import Derived.LoopTactic
import Derived.WalkSpells
import Derived.BigRegion
import Derived.Lib.UnsafeStr
import Derived.Lib.BufferWrite
import Derived.Laws.IdiomStrings
import Derived.Laws.OwnMore
import Derived.Laws.CopyOwn
import Derived.Maps.OwnOps
/- The disk, Check and own, walked. -/
namespace Go.Proofs.YtlafdlcpelkdpaaGreatDoor
open Go.RowKit
namespace Ds
/-- a disk is right -/
def okB (s : ByteArray) (y c : Int) : Bool := decide (0 ≤ c) && decide (c ≤ 262144) && decide ((s.size : Int) ≤ c) && decide (0 ≤ y) && decide (y ≤ (s.size : Int))
theorem ok_mk {s : ByteArray} {y c : Int} (h : okB s y c = true) : 0 ≤ c ∧ c ≤ 262144 ∧ (s.size : Int) ≤ c ∧ 0 ≤ y ∧ y ≤ (s.size : Int) := by
  simpa [okB, and_assoc] using h
set_option maxHeartbeats 1000000 in
theorem check13_yes (s : ByteArray) (y c f : Int) (dn : Bool) (h : okB s y c = true) (w : World) :
    Calls Tryz.prog 22 #[.agg #[.string s, .int .i64 y, .int .i64 c, .bool dn, .int .i64 f]] w fun e w' => e = .returned (.int .i64 0) ∧ Below w.heap.size w w' := by
  obtain ⟨h1, h2, h3, h4, h5⟩ := ok_mk h
  clear h
  go_enter Tryz.func22, Tryz.ntmps22
  go_wp2
  all_goals first
    | (exfalso; omega)
    | (go_ret; exact ⟨rfl, (Below.refl _ _).alloc (Nat.le_refl _) _⟩)
/-- cells in a block of their own -/
def Box (w : World) (b : Nat) (C : Array Value) (t : TypeId) : Prop := b < w.heap.size ∧ w.heap[b]? = some (.cells C t (0, 0))
theorem Box.call {w w' : World} {b : Nat} {C : Array Value} {t : TypeId} (h : Box w b C t) (hb : Below w.heap.size w w') : Box w' b C t :=
  ⟨Nat.lt_of_lt_of_le h.1 hb.size, (hb.block _ h.1).trans h.2⟩
theorem Box.cell {w : World} {b : Nat} {C : Array Value} {t : TypeId} (h : Box w b C t) (i : Nat) (v : Value) (hv : C[i]? = some v) : w.cell? ⟨b, i, none⟩ = some v := by
  rw [cell_of_row _ _ _ _ _ _ h.2]; exact hv
theorem Box.free {w : World} {b : Nat} {C : Array Value} {t : TypeId} (h : Box w b C t) (r : Nat) : w.frozen? ⟨b, r, none⟩ = false := by
  simp [World.frozen?, h.2]
theorem Box.new (w : World) (C : Array Value) (t : TypeId) : Box (w.alloc (.cells C t)) w.heap.size C t := ⟨by simp, heap_alloc_new w _⟩
theorem below_new (w : World) (o : Obj) : Below w.heap.size w (w.alloc o) := (Below.refl _ _).alloc (Nat.le_refl _) _
theorem Box.past {w : World} {b : Nat} {C : Array Value} {t : TypeId} (h : Box w b C t) (o : Obj) : Box (w.alloc o) b C t := h.call (below_new w o)
theorem Box.five {w : World} {b : Nat} {v0 v1 v2 v3 v4 : Value} {t : TypeId} (h : Box w b #[v0, v1, v2, v3, v4] t) : w.cell? ⟨b, 0, none⟩ = some v0 ∧ w.cell? ⟨b, 1, none⟩ = some v1 ∧ w.cell? ⟨b, 2, none⟩ = some v2 ∧ w.cell? ⟨b, 3, none⟩ = some v3 ∧ w.cell? ⟨b, 4, none⟩ = some v4 :=
  ⟨h.cell 0 _ rfl, h.cell 1 _ rfl, h.cell 2 _ rfl, h.cell 3 _ rfl, h.cell 4 _ rfl⟩
theorem Box.three {w : World} {b : Nat} {v0 v1 v2 : Value} {t : TypeId} (h : Box w b #[v0, v1, v2] t) : w.cell? ⟨b, 0, none⟩ = some v0 ∧ w.cell? ⟨b, 1, none⟩ = some v1 ∧ w.cell? ⟨b, 2, none⟩ = some v2 :=
  ⟨h.cell 0 _ rfl, h.cell 1 _ rfl, h.cell 2 _ rfl⟩
theorem Box.eight {w : World} {b : Nat} {v0 v1 v2 v3 v4 v5 v6 v7 : Value} {t : TypeId} (h : Box w b #[v0, v1, v2, v3, v4, v5, v6, v7] t) : w.cell? ⟨b, 0, none⟩ = some v0 ∧ w.cell? ⟨b, 1, none⟩ = some v1 ∧ w.cell? ⟨b, 2, none⟩ = some v2 ∧ w.cell? ⟨b, 3, none⟩ = some v3 ∧ w.cell? ⟨b, 4, none⟩ = some v4 ∧ w.cell? ⟨b, 5, none⟩ = some v5 ∧ w.cell? ⟨b, 6, none⟩ = some v6 ∧ w.cell? ⟨b, 7, none⟩ = some v7 :=
  ⟨h.cell 0 _ rfl, h.cell 1 _ rfl, h.cell 2 _ rfl, h.cell 3 _ rfl, h.cell 4 _ rfl, h.cell 5 _ rfl, h.cell 6 _ rfl, h.cell 7 _ rfl⟩
set_option maxHeartbeats 1000000 in
theorem own20 (s : ByteArray) (hs : s.size ≤ 4294967296) (y c f : Int) (dn : Bool) (w : World) :
    Calls Tryz.prog 24 #[.agg #[.string s, .int .i64 y, .int .i64 c, .bool dn, .int .i64 f]] w fun e w' => e = .returned (.agg #[.string s, .int .i64 y, .int .i64 c, .bool dn, .int .i64 f]) ∧ Below w.heap.size w w' := by
  go_enter Tryz.func24, Tryz.ntmps24
  go_wp2_with fail
  refine (sclone_c s (by omega) _).mono ?_
  rintro e w1 ⟨rfl, hb1⟩
  obtain ⟨p0, p1, p2, p3, p4⟩ := (((Box.new w _ _).past _).call hb1).five
  have fp := (((Box.new w _ _).past _).call hb1).free
  have B1 := (Box.new (w.alloc _) _ _).call hb1
  obtain ⟨q0, q1, q2, q3, q4⟩ := B1.five
  have fq := B1.free
  have HB : Hid (Below w.heap.size w w1) := (((Below.refl _ _).alloc (Nat.le_refl _) _).alloc (by simp) _).trans (hb1.mono (by simp; omega))
  have lt := B1.1
  simp only [World.size_alloc] at q0 q1 q2 q3 q4 fq lt
  clear hb1 B1
  go_wp2
  refine bodyPost_ret (v := .agg #[.string s, .int .i64 y, .int .i64 c, .bool dn, .int .i64 f]) (by simp [results, Tryz.results24, go_sem, q0, q1, q2, q3, q4]) rfl ⟨rfl, ?_⟩
  exact (((((HB.out.setCell (Nat.le_refl _) _).setCell (by simp) _).setCell (by simp) _).setCell (by simp) _).setCell (by simp) _).setCell (by simp) _
end Ds
end Go.Proofs.YtlafdlcpelkdpaaGreatDoor
/- The changes of a disk, walked. -/
namespace Go.Proofs.YtlafdlcpelkdpaaGreatDoor
open Go.RowKit
namespace Ds
theorem below4 (w : World) (a b c d : Obj) : Below w.heap.size w ((((w.alloc a).alloc b).alloc c).alloc d) := ((((Below.refl _ _).alloc (Nat.le_refl _) _).alloc (by simp) _).alloc (by simp; omega) _).alloc (by simp; omega) _
theorem below3 (w : World) (a b c : Obj) : Below w.heap.size w (((w.alloc a).alloc b).alloc c) := (((Below.refl _ _).alloc (Nat.le_refl _) _).alloc (by simp) _).alloc (by simp; omega) _
set_option maxHeartbeats 1000000 in
theorem sync27 (s t : ByteArray) (y c f z k : Int) (dn : Bool) (w : World) :
    Calls Tryz.prog 62 #[.agg #[.string s, .int .i64 y, .int .i64 c, .bool dn, .int .i64 f, .int .u8 k, .string t, .int .i64 z]] w fun e w' => e = .returned (.tuple #[.agg #[.string s, .int .i64 s.size, .int .i64 c, .bool dn, .int .i64 f], .int .i64 0]) ∧ Below w.heap.size w w' := by
  go_enter Tryz.func62, Tryz.ntmps62
  go_wp2
  exact bodyPost_ret (v := .tuple #[.agg #[.string s, .int .i64 s.size, .int .i64 c, .bool dn, .int .i64 f], .int .i64 0]) (by simp [results, Tryz.results62, go_sem]) rfl ⟨rfl, below3 w _ _ _⟩
set_option maxHeartbeats 1000000 in
theorem write26_no (s t : ByteArray) (y c f z k : Int) (dn : Bool) (w : World) (hs : (s.size : Int) ≤ c) (hc : c ≤ 262144) (h : c - s.size < t.size) :
    Calls Tryz.prog 61 #[.agg #[.string s, .int .i64 y, .int .i64 c, .bool dn, .int .i64 f, .int .u8 k, .string t, .int .i64 z]] w fun e w' => e = .returned (.tuple #[.agg #[.string ⟨#[]⟩, .int .i64 0, .int .i64 0, .bool false, .int .i64 0], .int .i64 8]) ∧ Below w.heap.size w w' := by
  go_enter Tryz.func61, Tryz.ntmps61
  go_wp2
  exact bodyPost_ret (v := .tuple #[.agg #[.string ⟨#[]⟩, .int .i64 0, .int .i64 0, .bool false, .int .i64 0], .int .i64 8]) (by simp [results, Tryz.results61, go_sem]) rfl ⟨rfl, below3 w _ _ _⟩
set_option maxHeartbeats 1000000 in
theorem write26_yes (s t : ByteArray) (y c f z k : Int) (dn : Bool) (w : World) (hs : (s.size : Int) ≤ c) (hc : c ≤ 262144) (h : t.size ≤ c - s.size) :
    Calls Tryz.prog 61 #[.agg #[.string s, .int .i64 y, .int .i64 c, .bool dn, .int .i64 f, .int .u8 k, .string t, .int .i64 z]] w fun e w' => e = .returned (.tuple #[.agg #[.string (s ++ t), .int .i64 y, .int .i64 c, .bool dn, .int .i64 f], .int .i64 0]) ∧ Below w.heap.size w w' := by
  go_enter Tryz.func61, Tryz.ntmps61
  go_wp2
  exact bodyPost_ret (v := .tuple #[.agg #[.string (s ++ t), .int .i64 y, .int .i64 c, .bool dn, .int .i64 f], .int .i64 0]) (by simp [results, Tryz.results61, go_sem]) rfl ⟨rfl, below3 w _ _ _⟩
set_option maxHeartbeats 1000000 in
theorem broken24_yes (s t x : ByteArray) (y c f z y' c' f' : Int) (dn dn' : Bool) (w : World) :
    Calls Tryz.prog 39 #[.agg #[.string s, .int .i64 y, .int .i64 c, .bool dn, .int .i64 f, .int .u8 1, .string t, .int .i64 z], .agg #[.string x, .int .i64 y', .int .i64 c', .bool dn', .int .i64 f']] w fun e w' => e = .returned (.agg #[.string x, .int .i64 y, .int .i64 c, .bool true, .int .i64 f]) ∧ Below w.heap.size w w' := by
  go_enter Tryz.func39, Tryz.ntmps39
  go_wp2
  exact bodyPost_ret (v := .agg #[.string x, .int .i64 y, .int .i64 c, .bool true, .int .i64 f]) (by simp [results, Tryz.results39, go_sem]) rfl ⟨rfl, below4 w _ _ _ _⟩
set_option maxHeartbeats 1000000 in
theorem broken24_no (s t x : ByteArray) (y c f z k y' c' f' : Int) (dn dn' : Bool) (w : World) (h : (k == 1) = false) :
    Calls Tryz.prog 39 #[.agg #[.string s, .int .i64 y, .int .i64 c, .bool dn, .int .i64 f, .int .u8 k, .string t, .int .i64 z], .agg #[.string x, .int .i64 y', .int .i64 c', .bool dn', .int .i64 f']] w fun e w' => e = .returned (.agg #[.string s, .int .i64 y, .int .i64 c, .bool true, .int .i64 f]) ∧ Below w.heap.size w w' := by
  go_enter Tryz.func39, Tryz.ntmps39
  go_wp2
  exact bodyPost_ret (v := .agg #[.string s, .int .i64 y, .int .i64 c, .bool true, .int .i64 f]) (by simp [results, Tryz.results39, go_sem]) rfl ⟨rfl, below4 w _ _ _ _⟩
open Go.ChangeMaps Go.MapKept
theorem key28 (k : Int) (h0 : 0 ≤ k) (h1 : k < 256) : keyOf Tryz.prog 38 (.int .u8 k) = some (.int .u8 k) := Maps.keyOf_int_mk Tryz.underlying38 (WalkArith.wf_u8 (by omega))
theorem ins50 (W : World) (b : Nat) (es : Array MapEntry) (clock : Nat) (k : Int) (h0 : 0 ≤ k) (h1 : k < 256) (v : Value) (hb : W.heap[b]? = some (.map es clock)) (hn : Instr.findNow (.int .u8) (.int .u8 k) es.toList 0 = some none) :
    (Instr.mapUpdate 91 (.map (some b)) (.int .u8 k) v).run Tryz.prog W = .ok () (setBlock W b (.map (es.push ⟨.int .u8 k, v, clock⟩) (clock + 1))) := by
  simp [Instr.mapUpdate, run_underlying Tryz.underlying91, MapKept.run_getObj_map hb, (Maps.int_keyed Tryz.underlying38).check W false (key28 k h0 h1), Instr.findKey, run_underlying Tryz.underlying38, hn, MapKept.run_setObj_map _ hb, Result.andThen, setBlock]
/-- the changes that there are, in a map -/
def Kinds (w : World) (B : Nat) (C : Value) : Prop := B < w.heap.size ∧ w.heap[B]? = some (.map #[⟨.int .u8 1, .func (.func 61) #[C] #[], 0⟩, ⟨.int .u8 2, .func (.func 62) #[C] #[], 1⟩, ⟨.int .u8 3, .func (.func 63) #[C] #[], 2⟩] 3)
theorem Kinds.call {w w' : World} {B : Nat} {C : Value} (h : Kinds w B C) (hb : Below w.heap.size w w') : Kinds w' B C :=
  ⟨Nat.lt_of_lt_of_le h.1 hb.size, (hb.block _ h.1).trans h.2⟩
theorem block_at (W : World) (b : Nat) (o : Obj) (h : b < W.heap.size) : (setBlock W b o).heap[b]? = some o := by
  simp [setBlock, h]
theorem block_cell (W : World) (b g i : Nat) (o : Obj) (h : g ≠ b) : (setBlock W b o).cell? ⟨g, i, none⟩ = W.cell? ⟨g, i, none⟩ := by
  simp [setBlock, World.cell?, h.symm]
theorem block_size (W : World) (b : Nat) (o : Obj) : (setBlock W b o).heap.size = W.heap.size := by
  simp [setBlock]
theorem below_block {B b : Nat} {A W : World} (h : Below B A W) (hb : B ≤ b) (o : Obj) : Below B A (setBlock W b o) :=
  ⟨h.os, h.tape, h.output, by rw [block_size]; exact h.size, fun k hk => by rw [← h.block k hk]; simp [setBlock, Array.getElem?_setIfInBounds]; omega⟩
theorem look_1 {W : World} {B : Nat} {C : Value} (h : Kinds W B C) : (Instr.lookup 91 (.map (some B)) (.int .u8 1) true).run Tryz.prog W = .ok (.tuple #[.func (.func 61) #[C] #[], .bool true]) W := by
  simp [Instr.lookup, run_underlying Tryz.underlying91, MapKept.run_getObj_map h.2, (Maps.int_keyed Tryz.underlying38).check W false (key28 1 (by omega) (by omega)), Instr.findKey, run_underlying Tryz.underlying38, Instr.findNow, Instr.sameNow, Result.andThen]
theorem look_2 {W : World} {B : Nat} {C : Value} (h : Kinds W B C) : (Instr.lookup 91 (.map (some B)) (.int .u8 2) true).run Tryz.prog W = .ok (.tuple #[.func (.func 62) #[C] #[], .bool true]) W := by
  simp [Instr.lookup, run_underlying Tryz.underlying91, MapKept.run_getObj_map h.2, (Maps.int_keyed Tryz.underlying38).check W false (key28 2 (by omega) (by omega)), Instr.findKey, run_underlying Tryz.underlying38, Instr.findNow, Instr.sameNow, Result.andThen]
set_option maxHeartbeats 1000000 in
theorem kinds23 (s t : ByteArray) (y c f z k : Int) (dn : Bool) (w : World) :
    Calls Tryz.prog 38 #[.agg #[.string s, .int .i64 y, .int .i64 c, .bool dn, .int .i64 f, .int .u8 k, .string t, .int .i64 z]] w fun e w' => ∃ B, e = .returned (.map (some B)) ∧ Below w.heap.size w w' ∧ Kinds w' B (.agg #[.string s, .int .i64 y, .int .i64 c, .bool dn, .int .i64 f, .int .u8 k, .string t, .int .i64 z]) := by
  have hmf : ∀ (fn : Fn) (first cap : Array Value) (w : World), (Instr.makeFunc fn first cap).run Tryz.prog w = .ok (.func fn first cap) w := fun _ _ _ _ => rfl
  have hmm := @run_makeMap Tryz.prog
  obtain ⟨C, hC⟩ : ∃ C : Value, C = .agg #[.string s, .int .i64 y, .int .i64 c, .bool dn, .int .i64 f, .int .u8 k, .string t, .int .i64 z] := ⟨_, rfl⟩
  obtain ⟨W0, hW0⟩ : ∃ W0, W0 = (w.alloc (.cells #[.string s, .int .i64 y, .int .i64 c, .bool dn, .int .i64 f, .int .u8 k, .string t, .int .i64 z] 66)).alloc (.map #[] 0) := ⟨_, rfl⟩
  have b0 : W0.heap[w.heap.size + 1]? = some (.map #[] 0) := by rw [hW0]; have := heap_alloc_new (w.alloc (.cells #[.string s, .int .i64 y, .int .i64 c, .bool dn, .int .i64 f, .int .u8 k, .string t, .int .i64 z] 66)) (.map #[] 0); simpa using this
  have z0 : W0.heap.size = w.heap.size + 2 := by rw [hW0]; simp
  have i1 := ins50 W0 _ _ _ 1 (by omega) (by omega) (.func (.func 61) #[C] #[]) b0 rfl
  obtain ⟨W1, hW1⟩ : ∃ W1, W1 = setBlock W0 (w.heap.size + 1) (.map (#[].push ⟨.int .u8 1, .func (.func 61) #[C] #[], 0⟩) (0 + 1)) := ⟨_, rfl⟩
  have b1 := block_at W0 (w.heap.size + 1) (.map (#[].push ⟨.int .u8 1, .func (.func 61) #[C] #[], 0⟩) (0 + 1)) (by omega)
  rw [← hW1] at b1
  have i2 := ins50 W1 _ _ _ 2 (by omega) (by omega) (.func (.func 62) #[C] #[]) b1 rfl
  obtain ⟨W2, hW2⟩ : ∃ W2, W2 = setBlock W1 (w.heap.size + 1) (.map ((#[].push ⟨.int .u8 1, .func (.func 61) #[C] #[], 0⟩).push ⟨.int .u8 2, .func (.func 62) #[C] #[], 0 + 1⟩) (0 + 1 + 1)) := ⟨_, rfl⟩
  have z1 : W1.heap.size = w.heap.size + 2 := by rw [hW1, block_size, z0]
  have b2 := block_at W1 (w.heap.size + 1) (.map ((#[].push ⟨.int .u8 1, .func (.func 61) #[C] #[], 0⟩).push ⟨.int .u8 2, .func (.func 62) #[C] #[], 0 + 1⟩) (0 + 1 + 1)) (by omega)
  rw [← hW2] at b2
  have i3 := ins50 W2 _ _ _ 3 (by omega) (by omega) (.func (.func 63) #[C] #[]) b2 rfl
  have z2 : W2.heap.size = w.heap.size + 2 := by rw [hW2, block_size, z1]
  obtain ⟨W3, hW3⟩ : ∃ W3, W3 = setBlock W2 (w.heap.size + 1) (.map (((#[].push ⟨.int .u8 1, .func (.func 61) #[C] #[], 0⟩).push ⟨.int .u8 2, .func (.func 62) #[C] #[], 0 + 1⟩).push ⟨.int .u8 3, .func (.func 63) #[C] #[], 0 + 1 + 1⟩) (0 + 1 + 1 + 1)) := ⟨_, rfl⟩
  have b3 := block_at W2 (w.heap.size + 1) (.map (((#[].push ⟨.int .u8 1, .func (.func 61) #[C] #[], 0⟩).push ⟨.int .u8 2, .func (.func 62) #[C] #[], 0 + 1⟩).push ⟨.int .u8 3, .func (.func 63) #[C] #[], 0 + 1 + 1⟩) (0 + 1 + 1 + 1)) (by omega)
  rw [← hW3] at b3
  rw [← hW1] at i1
  rw [← hW2] at i2
  rw [← hW3] at i3
  have B0 : Box W0 w.heap.size #[.string s, .int .i64 y, .int .i64 c, .bool dn, .int .i64 f, .int .u8 k, .string t, .int .i64 z] 66 := by rw [hW0]; exact (Box.new w _ _).past _
  have c0 := B0.eight
  have c1 : ∀ i, W1.cell? ⟨w.heap.size, i, none⟩ = W0.cell? ⟨w.heap.size, i, none⟩ := fun i => by rw [hW1]; exact block_cell _ _ _ _ _ (by omega)
  have c2 : ∀ i, W2.cell? ⟨w.heap.size, i, none⟩ = W0.cell? ⟨w.heap.size, i, none⟩ := fun i => by rw [hW2, block_cell _ _ _ _ _ (by omega)]; exact c1 i
  have HK : Hid (Kinds W3 (w.heap.size + 1) C) := ⟨by rw [hW3, block_size, z2]; omega, b3⟩
  have HB : Hid (Below w.heap.size w W3) := by
    show Below _ _ _
    rw [hW3, hW2, hW1, hW0]
    exact below_block (below_block (below_block (((Below.refl _ _).alloc (Nat.le_refl _) _).alloc (by simp) _) (by omega) _) (by omega) _) (by omega) _
  obtain ⟨c00, c01, c02, c03, c04, c05, c06, c07⟩ := c0
  have HW0 : Hid (W0 = _) := hW0
  have mm0 : (Instr.makeMap 91 none).run Tryz.prog (w.alloc (.cells #[.string s, .int .i64 y, .int .i64 c, .bool dn, .int .i64 f, .int .u8 k, .string t, .int .i64 z] 66)) = .ok (.map (some (w.heap.size + 1))) W0 := by rw [hW0]; have := run_makeMap (P := Tryz.prog) 91 (w.alloc (.cells #[.string s, .int .i64 y, .int .i64 c, .bool dn, .int .i64 f, .int .u8 k, .string t, .int .i64 z] 66)); simpa using this
  rw [hC] at i1 i2 i3 HK
  clear hmm hW0 hW1 hW2 hW3 b0 b1 b2 b3 z0 z1 z2 hC B0
  go_enter Tryz.func38, Tryz.ntmps38
  go_wp2
  go_ret
  exact ⟨_, rfl, HB.out, HK.out⟩
end Ds
end Go.Proofs.YtlafdlcpelkdpaaGreatDoor
/- A change of a disk, run, walked. -/
namespace Go.Proofs.YtlafdlcpelkdpaaGreatDoor
open Go.RowKit
namespace Ds
/-- a disk -/
structure Dk where
  s : ByteArray
  y : Int
  c : Int
  dn : Bool
  f : Int
/-- a fuse behind a change that was done -/
def fuse (f : Int) : Int := if 0 < f then f - 1 else f
/-- a change of a disk that is right -/
def runM (d : Dk) (k : Int) (t : ByteArray) (z : Int) : Dk × Int :=
  if k = 1 then
    if d.dn then (d, 12) else if d.c - d.s.size < t.size then (d, 8)
    else if d.f = 0 then (⟨d.s ++ t, d.y, d.c, true, d.f⟩, 12) else (⟨d.s ++ t, d.y, d.c, false, fuse d.f⟩, 0)
  else if k = 2 then
    if d.dn then (d, 12) else if d.f = 0 then (⟨d.s, d.y, d.c, true, d.f⟩, 12) else (⟨d.s, d.s.size, d.c, false, fuse d.f⟩, 0)
  else if k = 3 then
    if d.dn then (d, 12) else if z < 0 ∨ d.s.size < z then (d, 2)
    else if d.f = 0 then (⟨d.s, d.y, d.c, true, d.f⟩, 12) else (⟨d.s.extract 0 z.toNat, z, d.c, false, fuse d.f⟩, 0)
  else (d, 5)
theorem box2 (w : World) (C : Array Value) (D : Array Value) (t u : TypeId) : Box ((w.alloc (.cells C t)).alloc (.cells D u)) w.heap.size C t ∧ Box ((w.alloc (.cells C t)).alloc (.cells D u)) (w.heap.size + 1) D u := by
  refine ⟨(Box.new w C t).past _, ?_⟩
  have := Box.new (w.alloc (.cells C t)) D u
  simpa using this
theorem below2 (w : World) (a b : Obj) : Below w.heap.size w ((w.alloc a).alloc b) := ((Below.refl _ _).alloc (Nat.le_refl _) _).alloc (by simp) _
theorem info24 : (Tryz.prog.info? 27).map (·.size) = some 5 := by kernel_rfl
theorem results_box2 {fn : Func} {p u : Tmp} (h : fn.results = #[.cell p 27, .tmp u]) (tmps : Array Value) (W : World) (g : Nat) (v0 v1 v2 v3 v4 x : Value)
    (hp : tmps.getD p undef = .pointer (some ⟨g, 0, none⟩)) (hx : tmps.getD u undef = x) (hg : Box W g #[v0, v1, v2, v3, v4] 27) : (results fn tmps).run Tryz.prog W = .ok (.tuple #[.agg #[v0, v1, v2, v3, v4], x]) W := by
  have hp' : tmps[p]?.getD undef = .pointer (some ⟨g, 0, none⟩) := by simpa using hp
  have hx' : tmps[u]?.getD undef = x := by simpa using hx
  simp [results, h, hp', hx', asAddr, run_loadVar_row W g 27 27 _ (0, 0) _ hg.2 Tryz.underlying27 rfl info24]
theorem Box.set {W : World} {b : Nat} {C : Array Value} {t : TypeId} (h : Box W b C t) (i : Nat) (v : Value) : Box (W.setCell ⟨b, i, none⟩ v) b (C.setIfInBounds i v) t :=
  ⟨by simp; exact h.1, heap_setCell_same W b i _ t v h.2⟩
theorem fin5 {w W : World} {b : Nat} {u0 u1 u2 u3 u4 : Value} {t : TypeId} (h : Box W b #[u0, u1, u2, u3, u4] t) (hB : Below w.heap.size w W) (hb : w.heap.size ≤ b) (v0 v1 v2 v3 v4 : Value) :
    Box (((((W.setCell ⟨b, 0, none⟩ v0).setCell ⟨b, 1, none⟩ v1).setCell ⟨b, 2, none⟩ v2).setCell ⟨b, 3, none⟩ v3).setCell ⟨b, 4, none⟩ v4) b #[v0, v1, v2, v3, v4] t ∧ Below w.heap.size w (((((W.setCell ⟨b, 0, none⟩ v0).setCell ⟨b, 1, none⟩ v1).setCell ⟨b, 2, none⟩ v2).setCell ⟨b, 3, none⟩ v3).setCell ⟨b, 4, none⟩ v4) :=
  ⟨((((h.set 0 v0).set 1 v1).set 2 v2).set 3 v3).set 4 v4, ((((hB.setCell hb _).setCell hb _).setCell hb _).setCell hb _).setCell hb _⟩
theorem fin5a {w W : World} {b : Nat} {u0 u1 u2 u3 u4 : Value} {t : TypeId} (h : Box W b #[u0, u1, u2, u3, u4] t) (hB : Below w.heap.size w W) (hb : w.heap.size ≤ b) (v0 v1 v2 v3 v4 : Value) (o : Obj) :
    Box ((((((W.setCell ⟨b, 0, none⟩ v0).setCell ⟨b, 1, none⟩ v1).setCell ⟨b, 2, none⟩ v2).setCell ⟨b, 3, none⟩ v3).setCell ⟨b, 4, none⟩ v4).alloc o) b #[v0, v1, v2, v3, v4] t ∧ Below w.heap.size w ((((((W.setCell ⟨b, 0, none⟩ v0).setCell ⟨b, 1, none⟩ v1).setCell ⟨b, 2, none⟩ v2).setCell ⟨b, 3, none⟩ v3).setCell ⟨b, 4, none⟩ v4).alloc o) :=
  have F := fin5 h hB hb v0 v1 v2 v3 v4
  ⟨F.1.past o, F.2.alloc F.2.size o⟩
/-- run's own variables: the change, the answer -/
structure RS (w W : World) (s t : ByteArray) (y c f z k : Int) (dn : Bool) : Prop where
  below : Below w.heap.size w W
  box : Box W w.heap.size #[.string s, .int .i64 y, .int .i64 c, .bool dn, .int .i64 f, .int .u8 k, .string t, .int .i64 z] 66
  res : Box W (w.heap.size + 1) #[.string ⟨#[]⟩, .int .i64 0, .int .i64 0, .bool false, .int .i64 0] 27
theorem RS.call {w W W' : World} {s t : ByteArray} {y c f z k : Int} {dn : Bool} (h : RS w W s t y c f z k dn) (hb : Below W.heap.size W W') : RS w W' s t y c f z k dn :=
  ⟨h.below.trans (hb.mono h.below.size), h.box.call hb, h.res.call hb⟩
theorem RS.new (w : World) (s t : ByteArray) (y c f z k : Int) (dn : Bool) : RS w ((w.alloc (.cells #[.string s, .int .i64 y, .int .i64 c, .bool dn, .int .i64 f, .int .u8 k, .string t, .int .i64 z] 66)).alloc (.cells #[.string ⟨#[]⟩, .int .i64 0, .int .i64 0, .bool false, .int .i64 0] 27)) s t y c f z k dn :=
  ⟨below2 w _ _, (box2 w _ _ _ _).1, (box2 w _ _ _ _).2⟩
set_option maxHeartbeats 4000000 in
theorem run19_1 (s t : ByteArray) (y c f z : Int) (dn : Bool) (w : World) (hs : (s.size : Int) ≤ c) (hc : c ≤ 262144) (hf1 : -9223372036854775808 ≤ f) (hf2 : f ≤ 9223372036854775807) :
    Calls Tryz.prog 23 #[.agg #[.string s, .int .i64 y, .int .i64 c, .bool dn, .int .i64 f, .int .u8 1, .string t, .int .i64 z]] w fun e w' => ∃ d' n, e = .returned (.tuple #[.agg #[.string d'.s, .int .i64 d'.y, .int .i64 d'.c, .bool d'.dn, .int .i64 d'.f], .int .i64 n]) ∧ runM ⟨s, y, c, dn, f⟩ 1 t z = (d', n) ∧ Below w.heap.size w w' := by
  have S1 : Hid _ := RS.new w s t y c f z 1 dn
  obtain ⟨w1, hw1⟩ : ∃ w1, w1 = (w.alloc (.cells #[.string s, .int .i64 y, .int .i64 c, .bool dn, .int .i64 f, .int .u8 1, .string t, .int .i64 z] 66)).alloc (.cells #[.string ⟨#[]⟩, .int .i64 0, .int .i64 0, .bool false, .int .i64 0] 27) := ⟨_, rfl⟩
  rw [← hw1] at S1
  have HW1 : Hid (w1 = _) := hw1
  obtain ⟨a0, a1, a2, a3, a4, a5, a6, a7⟩ := S1.out.box.eight
  clear hw1
  go_enter Tryz.func23, Tryz.ntmps23
  go_wp2
  rw [← HW1.out]
  go_cut [4, 5] from 8 to 17 (fun s4 s5 wx => s4 = .func (.func 61) #[.agg #[.string s, .int .i64 y, .int .i64 c, .bool dn, .int .i64 f, .int .u8 1, .string t, .int .i64 z]] #[] ∧ s5 = .bool true ∧ RS w wx s t y c f z 1 dn)
  case first =>
    go_region_with (
      (go_at_call 38; refine (kinds23 s t y c f z 1 dn _).mono ?_; rintro e w3 ⟨B, rfl, hb3, hk3⟩
       have S3 : Hid (RS w w3 s t y c f z 1 dn) := S1.out.call ((Below.refl _ w1).drew.trans hb3)
       have L3 := look_1 hk3
       have c53 := S3.out.box.eight.2.2.2.2.2.1
       clear hb3 hk3))
    all_goals
      go_wp2_with fail
      go_meet
      exact ⟨rfl, rfl, S3.out⟩
  case rest =>
    obtain ⟨rfl, rfl, hS⟩ := hcut
    clear S1 HW1 a0 a1 a2 a3 a4 a5 a6 a7
    obtain ⟨p0, p1, p2, p3, p4, p5, p6, p7⟩ := hS.box.eight
    obtain ⟨q0, q1, q2, q3, q4⟩ := hS.res.five
    have fz := hS.res.free
    have lt2 := hS.res.1
    have lt1 := hS.box.1
    have HS : Hid _ := hS
    clear hS
    cases dn
    case true =>
      have HM : Hid (runM ⟨s, y, c, true, f⟩ 1 t z = (⟨s, y, c, true, f⟩, 12)) := by show _ = _; simp [runM]
      go_wp2
      exact bodyPost_ret (v := .tuple #[.agg #[.string s, .int .i64 y, .int .i64 c, .bool true, .int .i64 f], .int .i64 12]) (results_box2 (fn := Tryz.f23) (p := 2) (u := 3) rfl _ _ (w.heap.size + 1) _ _ _ _ _ _ rfl rfl (fin5 HS.out.res HS.out.below (by omega) _ _ _ _ _).1) rfl ⟨⟨s, y, c, true, f⟩, 12, rfl, HM.out, (fin5 HS.out.res HS.out.below (by omega) _ _ _ _ _).2⟩
    case false =>
      by_cases hr : c - s.size < t.size
      · have HM : Hid (runM ⟨s, y, c, false, f⟩ 1 t z = (⟨s, y, c, false, f⟩, 8)) := by show _ = _; simp [runM, hr]
        go_wp2_with fail
        refine (write26_no s t y c f z 1 false _ hs hc hr).mono ?_
        rintro e w3 ⟨rfl, hb3⟩
        have S3 : Hid (RS w w3 s t y c f z 1 false) := HS.out.call hb3
        clear hb3 p0 p1 p2 p3 p4 p5 p6 p7 q0 q1 q2 q3 q4 fz lt2 lt1 HS
        obtain ⟨p0, p1, p2, p3, p4, p5, p6, p7⟩ := S3.out.box.eight
        obtain ⟨q0, q1, q2, q3, q4⟩ := S3.out.res.five
        have fz := S3.out.res.free
        have lt2 := S3.out.res.1
        have lt1 := S3.out.box.1
        go_wp2
        exact bodyPost_ret (v := .tuple #[.agg #[.string s, .int .i64 y, .int .i64 c, .bool false, .int .i64 f], .int .i64 8]) (results_box2 (fn := Tryz.f23) (p := 2) (u := 3) rfl _ _ (w.heap.size + 1) _ _ _ _ _ _ rfl rfl (fin5a S3.out.res S3.out.below (by omega) _ _ _ _ _ _).1) rfl ⟨⟨s, y, c, false, f⟩, 8, rfl, HM.out, (fin5a S3.out.res S3.out.below (by omega) _ _ _ _ _ _).2⟩
      go_wp2_with fail
      refine (write26_yes s t y c f z 1 false _ hs hc (by omega)).mono ?_
      rintro e w3 ⟨rfl, hb3⟩
      have S3 : Hid (RS w w3 s t y c f z 1 false) := HS.out.call hb3
      clear hb3 p0 p1 p2 p3 p4 p5 p6 p7 q0 q1 q2 q3 q4 fz lt2 lt1 HS
      obtain ⟨p0, p1, p2, p3, p4, p5, p6, p7⟩ := S3.out.box.eight
      obtain ⟨q0, q1, q2, q3, q4⟩ := S3.out.res.five
      have fz := S3.out.res.free
      have lt2 := S3.out.res.1
      have lt1 := S3.out.box.1
      by_cases hf0 : f = 0
      · subst hf0
        have HM : Hid (runM ⟨s, y, c, false, 0⟩ 1 t z = (⟨(s ++ t), y, c, true, 0⟩, 12)) := by show _ = _; simp [runM, hr]
        go_wp2_with fail
        refine (broken24_yes s t (s ++ t) y c 0 z y c 0 false false _).mono ?_
        rintro e w4 ⟨rfl, hb4⟩
        have S4 : Hid (RS w w4 s t y c 0 z 1 false) := (S3.out.call (below_new _ _)).call hb4
        clear hb4 p0 p1 p2 p3 p4 p5 p6 p7 q0 q1 q2 q3 q4 fz lt2 lt1 S3
        obtain ⟨p0, p1, p2, p3, p4, p5, p6, p7⟩ := S4.out.box.eight
        obtain ⟨q0, q1, q2, q3, q4⟩ := S4.out.res.five
        have fz := S4.out.res.free
        have lt2 := S4.out.res.1
        have lt1 := S4.out.box.1
        go_wp2
        exact bodyPost_ret (v := .tuple #[.agg #[.string (s ++ t), .int .i64 y, .int .i64 c, .bool true, .int .i64 0], .int .i64 12]) (results_box2 (fn := Tryz.f23) (p := 2) (u := 3) rfl _ _ (w.heap.size + 1) _ _ _ _ _ _ rfl rfl (fin5 S4.out.res S4.out.below (by omega) _ _ _ _ _).1) rfl ⟨⟨(s ++ t), y, c, true, 0⟩, 12, rfl, HM.out, (fin5 S4.out.res S4.out.below (by omega) _ _ _ _ _).2⟩
      have hf' : (f == 0) = false := by simp [hf0]
      by_cases hp : 0 < f
      · have HM : Hid (runM ⟨s, y, c, false, f⟩ 1 t z = (⟨(s ++ t), y, c, false, f - 1⟩, 0)) := by show _ = _; simp [runM, hr, hf0, fuse, hp]
        clear hf0
        go_wp2
        exact bodyPost_ret (v := .tuple #[.agg #[.string (s ++ t), .int .i64 y, .int .i64 c, .bool false, .int .i64 (f - 1)], .int .i64 0]) (results_box2 (fn := Tryz.f23) (p := 2) (u := 3) rfl _ _ (w.heap.size + 1) _ _ _ _ _ _ rfl rfl (fin5a S3.out.res S3.out.below (by omega) _ _ _ _ _ _).1) rfl ⟨⟨(s ++ t), y, c, false, (f - 1)⟩, 0, rfl, HM.out, (fin5a S3.out.res S3.out.below (by omega) _ _ _ _ _ _).2⟩
      · have HM : Hid (runM ⟨s, y, c, false, f⟩ 1 t z = (⟨(s ++ t), y, c, false, f⟩, 0)) := by show _ = _; simp [runM, hr, hf0, fuse, hp]
        clear hf0
        go_wp2
        exact bodyPost_ret (v := .tuple #[.agg #[.string (s ++ t), .int .i64 y, .int .i64 c, .bool false, .int .i64 f], .int .i64 0]) (results_box2 (fn := Tryz.f23) (p := 2) (u := 3) rfl _ _ (w.heap.size + 1) _ _ _ _ _ _ rfl rfl (fin5a S3.out.res S3.out.below (by omega) _ _ _ _ _ _).1) rfl ⟨⟨(s ++ t), y, c, false, f⟩, 0, rfl, HM.out, (fin5a S3.out.res S3.out.below (by omega) _ _ _ _ _ _).2⟩
set_option maxHeartbeats 4000000 in
theorem run19_2 (s t : ByteArray) (y c f z : Int) (dn : Bool) (w : World) (hf1 : -9223372036854775808 ≤ f) (hf2 : f ≤ 9223372036854775807) :
    Calls Tryz.prog 23 #[.agg #[.string s, .int .i64 y, .int .i64 c, .bool dn, .int .i64 f, .int .u8 2, .string t, .int .i64 z]] w fun e w' => ∃ d' n, e = .returned (.tuple #[.agg #[.string d'.s, .int .i64 d'.y, .int .i64 d'.c, .bool d'.dn, .int .i64 d'.f], .int .i64 n]) ∧ runM ⟨s, y, c, dn, f⟩ 2 t z = (d', n) ∧ Below w.heap.size w w' := by
  have S1 : Hid _ := RS.new w s t y c f z 2 dn
  obtain ⟨w1, hw1⟩ : ∃ w1, w1 = (w.alloc (.cells #[.string s, .int .i64 y, .int .i64 c, .bool dn, .int .i64 f, .int .u8 2, .string t, .int .i64 z] 66)).alloc (.cells #[.string ⟨#[]⟩, .int .i64 0, .int .i64 0, .bool false, .int .i64 0] 27) := ⟨_, rfl⟩
  rw [← hw1] at S1
  have HW1 : Hid (w1 = _) := hw1
  obtain ⟨a0, a1, a2, a3, a4, a5, a6, a7⟩ := S1.out.box.eight
  clear hw1
  go_enter Tryz.func23, Tryz.ntmps23
  go_wp2
  rw [← HW1.out]
  go_cut [4, 5] from 8 to 17 (fun s4 s5 wx => s4 = .func (.func 62) #[.agg #[.string s, .int .i64 y, .int .i64 c, .bool dn, .int .i64 f, .int .u8 2, .string t, .int .i64 z]] #[] ∧ s5 = .bool true ∧ RS w wx s t y c f z 2 dn)
  case first =>
    go_region_with (
      (go_at_call 38; refine (kinds23 s t y c f z 2 dn _).mono ?_; rintro e w3 ⟨B, rfl, hb3, hk3⟩
       have S3 : Hid (RS w w3 s t y c f z 2 dn) := S1.out.call ((Below.refl _ w1).drew.trans hb3)
       have L3 := look_2 hk3
       have c53 := S3.out.box.eight.2.2.2.2.2.1
       clear hb3 hk3))
    all_goals
      go_wp2_with fail
      go_meet
      exact ⟨rfl, rfl, S3.out⟩
  case rest =>
    obtain ⟨rfl, rfl, hS⟩ := hcut
    clear S1 HW1 a0 a1 a2 a3 a4 a5 a6 a7
    obtain ⟨p0, p1, p2, p3, p4, p5, p6, p7⟩ := hS.box.eight
    obtain ⟨q0, q1, q2, q3, q4⟩ := hS.res.five
    have fz := hS.res.free
    have lt2 := hS.res.1
    have lt1 := hS.box.1
    have HS : Hid _ := hS
    clear hS
    cases dn
    case true =>
      have HM : Hid (runM ⟨s, y, c, true, f⟩ 2 t z = (⟨s, y, c, true, f⟩, 12)) := by show _ = _; simp [runM]
      go_wp2
      exact bodyPost_ret (v := .tuple #[.agg #[.string s, .int .i64 y, .int .i64 c, .bool true, .int .i64 f], .int .i64 12]) (results_box2 (fn := Tryz.f23) (p := 2) (u := 3) rfl _ _ (w.heap.size + 1) _ _ _ _ _ _ rfl rfl (fin5 HS.out.res HS.out.below (by omega) _ _ _ _ _).1) rfl ⟨⟨s, y, c, true, f⟩, 12, rfl, HM.out, (fin5 HS.out.res HS.out.below (by omega) _ _ _ _ _).2⟩
    case false =>
      go_wp2_with fail
      refine (sync27 s t y c f z 2 false _).mono ?_
      rintro e w3 ⟨rfl, hb3⟩
      have S3 : Hid (RS w w3 s t y c f z 2 false) := HS.out.call hb3
      clear hb3 p0 p1 p2 p3 p4 p5 p6 p7 q0 q1 q2 q3 q4 fz lt2 lt1 HS
      obtain ⟨p0, p1, p2, p3, p4, p5, p6, p7⟩ := S3.out.box.eight
      obtain ⟨q0, q1, q2, q3, q4⟩ := S3.out.res.five
      have fz := S3.out.res.free
      have lt2 := S3.out.res.1
      have lt1 := S3.out.box.1
      by_cases hf0 : f = 0
      · subst hf0
        have HM : Hid (runM ⟨s, y, c, false, 0⟩ 2 t z = (⟨s, y, c, true, 0⟩, 12)) := by show _ = _; simp [runM]
        go_wp2_with fail
        refine (broken24_no s t s y c 0 z 2 (s.size : Int) c 0 false false _ rfl).mono ?_
        rintro e w4 ⟨rfl, hb4⟩
        have S4 : Hid (RS w w4 s t y c 0 z 2 false) := (S3.out.call (below_new _ _)).call hb4
        clear hb4 p0 p1 p2 p3 p4 p5 p6 p7 q0 q1 q2 q3 q4 fz lt2 lt1 S3
        obtain ⟨p0, p1, p2, p3, p4, p5, p6, p7⟩ := S4.out.box.eight
        obtain ⟨q0, q1, q2, q3, q4⟩ := S4.out.res.five
        have fz := S4.out.res.free
        have lt2 := S4.out.res.1
        have lt1 := S4.out.box.1
        go_wp2
        exact bodyPost_ret (v := .tuple #[.agg #[.string s, .int .i64 y, .int .i64 c, .bool true, .int .i64 0], .int .i64 12]) (results_box2 (fn := Tryz.f23) (p := 2) (u := 3) rfl _ _ (w.heap.size + 1) _ _ _ _ _ _ rfl rfl (fin5 S4.out.res S4.out.below (by omega) _ _ _ _ _).1) rfl ⟨⟨s, y, c, true, 0⟩, 12, rfl, HM.out, (fin5 S4.out.res S4.out.below (by omega) _ _ _ _ _).2⟩
      have hf' : (f == 0) = false := by simp [hf0]
      by_cases hp : 0 < f
      · have HM : Hid (runM ⟨s, y, c, false, f⟩ 2 t z = (⟨s, (s.size : Int), c, false, f - 1⟩, 0)) := by show _ = _; simp [runM, hf0, fuse, hp]
        clear hf0
        go_wp2
        exact bodyPost_ret (v := .tuple #[.agg #[.string s, .int .i64 (s.size : Int), .int .i64 c, .bool false, .int .i64 (f - 1)], .int .i64 0]) (results_box2 (fn := Tryz.f23) (p := 2) (u := 3) rfl _ _ (w.heap.size + 1) _ _ _ _ _ _ rfl rfl (fin5a S3.out.res S3.out.below (by omega) _ _ _ _ _ _).1) rfl ⟨⟨s, (s.size : Int), c, false, (f - 1)⟩, 0, rfl, HM.out, (fin5a S3.out.res S3.out.below (by omega) _ _ _ _ _ _).2⟩
      · have HM : Hid (runM ⟨s, y, c, false, f⟩ 2 t z = (⟨s, (s.size : Int), c, false, f⟩, 0)) := by show _ = _; simp [runM, hf0, fuse, hp]
        clear hf0
        go_wp2
        exact bodyPost_ret (v := .tuple #[.agg #[.string s, .int .i64 (s.size : Int), .int .i64 c, .bool false, .int .i64 f], .int .i64 0]) (results_box2 (fn := Tryz.f23) (p := 2) (u := 3) rfl _ _ (w.heap.size + 1) _ _ _ _ _ _ rfl rfl (fin5a S3.out.res S3.out.below (by omega) _ _ _ _ _ _).1) rfl ⟨⟨s, (s.size : Int), c, false, f⟩, 0, rfl, HM.out, (fin5a S3.out.res S3.out.below (by omega) _ _ _ _ _ _).2⟩
end Ds
end Go.Proofs.YtlafdlcpelkdpaaGreatDoor
/- Do, Read and Crash, walked. -/
namespace Go.Proofs.YtlafdlcpelkdpaaGreatDoor
open Go.RowKit
namespace Ds
theorem ok_of {s : ByteArray} {y c : Int} (h : 0 ≤ c ∧ c ≤ 262144 ∧ (s.size : Int) ≤ c ∧ 0 ≤ y ∧ y ≤ (s.size : Int)) : okB s y c = true := by
  simpa [okB, and_assoc] using h
theorem size_app (s t : ByteArray) : (s ++ t).size = s.size + t.size := ByteArray.size_append
theorem size_cut (s : ByteArray) (z : Int) (h0 : 0 ≤ z) (h1 : z ≤ s.size) : ((s.extract 0 z.toNat).size : Int) = z := by
  rw [ByteArray.size_extract]; omega
/-- what a change leaves is right -/
theorem runM_ok (d : Dk) (k : Int) (t : ByteArray) (z : Int) (h : okB d.s d.y d.c = true) : okB (runM d k t z).1.s (runM d k t z).1.y (runM d k t z).1.c = true := by
  obtain ⟨h1, h2, h3, h4, h5⟩ := ok_mk h
  unfold runM
  have a := size_app d.s t
  have b := size_cut d.s z
  repeat' split
  all_goals first
    | exact h
    | (refine ok_of ?_; dsimp only; omega)
    | (refine ok_of ?_; dsimp only; rename_i q _; rw [b (by omega) (by omega)]; omega)
theorem runM_cap (d : Dk) (k : Int) (t : ByteArray) (z : Int) : (runM d k t z).1.c = d.c := by
  unfold runM; repeat' split
  all_goals rfl
theorem run19 (s t : ByteArray) (y c f z k : Int) (dn : Bool) (w : World) (hs : (s.size : Int) ≤ c) (hc : c ≤ 262144) (hf1 : -9223372036854775808 ≤ f) (hf2 : f ≤ 9223372036854775807) (hk : k = 1 ∨ k = 2) :
    Calls Tryz.prog 23 #[.agg #[.string s, .int .i64 y, .int .i64 c, .bool dn, .int .i64 f, .int .u8 k, .string t, .int .i64 z]] w fun e w' => ∃ d' n, e = .returned (.tuple #[.agg #[.string d'.s, .int .i64 d'.y, .int .i64 d'.c, .bool d'.dn, .int .i64 d'.f], .int .i64 n]) ∧ runM ⟨s, y, c, dn, f⟩ k t z = (d', n) ∧ Below w.heap.size w w' := by
  rcases hk with e1 | e2
  · subst e1; exact run19_1 s t y c f z dn w hs hc hf1 hf2
  · subst e2; exact run19_2 s t y c f z dn w hf1 hf2
/-- Do's own variables: the disk, the step, the answer -/
structure DS (w W : World) (s t : ByteArray) (y c f z k : Int) (dn : Bool) : Prop where
  below : Below w.heap.size w W
  box : Box W w.heap.size #[.string s, .int .i64 y, .int .i64 c, .bool dn, .int .i64 f] 27
  step : Box W (w.heap.size + 1) #[.int .u8 k, .string t, .int .i64 z] 40
  res : Box W (w.heap.size + 2) #[.string ⟨#[]⟩, .int .i64 0, .int .i64 0, .bool false, .int .i64 0] 27
theorem DS.call {w W W' : World} {s t : ByteArray} {y c f z k : Int} {dn : Bool} (h : DS w W s t y c f z k dn) (hb : Below W.heap.size W W') : DS w W' s t y c f z k dn :=
  ⟨h.below.trans (hb.mono h.below.size), h.box.call hb, h.step.call hb, h.res.call hb⟩
theorem DS.new (w : World) (s t : ByteArray) (y c f z k : Int) (dn : Bool) : DS w (((w.alloc (.cells #[.string s, .int .i64 y, .int .i64 c, .bool dn, .int .i64 f] 27)).alloc (.cells #[.int .u8 k, .string t, .int .i64 z] 40)).alloc (.cells #[.string ⟨#[]⟩, .int .i64 0, .int .i64 0, .bool false, .int .i64 0] 27)) s t y c f z k dn := by
  refine ⟨below3 w _ _ _, (box2 w _ _ _ _).1.past _, (box2 w _ _ _ _).2.past _, ?_⟩
  have := (box2 (w.alloc (.cells #[.string s, .int .i64 y, .int .i64 c, .bool dn, .int .i64 f] 27)) #[.int .u8 k, .string t, .int .i64 z] #[.string ⟨#[]⟩, .int .i64 0, .int .i64 0, .bool false, .int .i64 0] 40 27).2
  simpa using this
set_option maxHeartbeats 4000000 in
theorem do9_yes (s t : ByteArray) (y c f z k : Int) (dn : Bool) (w : World) (h : okB s y c = true) (hf1 : -9223372036854775808 ≤ f) (hf2 : f ≤ 9223372036854775807) (hk : k = 1 ∨ k = 2) :
    Calls Tryz.prog 7 #[.agg #[.string s, .int .i64 y, .int .i64 c, .bool dn, .int .i64 f], .agg #[.int .u8 k, .string t, .int .i64 z]] w fun e w' => ∃ d' n, e = .returned (.tuple #[.agg #[.string d'.s, .int .i64 d'.y, .int .i64 d'.c, .bool d'.dn, .int .i64 d'.f], .int .i64 n]) ∧ runM ⟨s, y, c, dn, f⟩ k t z = (d', n) ∧ Below w.heap.size w w' := by
  have HO : Hid (okB s y c = true) := h
  obtain ⟨g1, g2, g3, g4, g5⟩ := ok_mk h
  clear h
  go_enter Tryz.func7, Tryz.ntmps7
  go_wp2_with fail
  refine (check13_yes s y c f dn HO.out _).mono ?_
  rintro e w3 ⟨rfl, hb3⟩
  have S3 : Hid (DS w w3 s t y c f z k dn) := (DS.new w s t y c f z k dn).call hb3
  clear hb3
  obtain ⟨p0, p1, p2, p3, p4⟩ := S3.out.box.five
  obtain ⟨r0, r1, r2⟩ := S3.out.step.three
  go_wp2_with fail
  refine (run19 s t y c f z k dn _ g3 g2 hf1 hf2 hk).mono ?_
  rintro e w4 ⟨⟨s', y', c', dn', f'⟩, n, rfl, hM, hb4⟩
  have HO' : Hid (okB s' y' c' = true) := by have := runM_ok ⟨s, y, c, dn, f⟩ k t z HO.out; rw [hM] at this; exact this
  have HM : Hid _ := hM
  have S4 : Hid (DS w w4 s t y c f z k dn) := S3.out.call hb4
  clear hb4 hM S3 p0 p1 p2 p3 p4 r0 r1 r2
  go_wp2_with fail
  refine (own20 s' (by have := ok_mk HO'.out; omega) y' c' f' dn' _).mono ?_
  rintro e w5 ⟨rfl, hb5⟩
  have S5 : Hid (DS w w5 s t y c f z k dn) := (S4.out.call (below_new _ _)).call hb5
  clear hb5 S4
  obtain ⟨q0, q1, q2, q3, q4⟩ := S5.out.res.five
  have fz := S5.out.res.free
  have lt2 := S5.out.res.1
  go_wp2
  exact bodyPost_ret (v := .tuple #[.agg #[.string s', .int .i64 y', .int .i64 c', .bool dn', .int .i64 f'], .int .i64 n]) (results_box2 (fn := Tryz.f7) (p := 4) (u := 5) rfl _ _ (w.heap.size + 2) _ _ _ _ _ _ rfl rfl (fin5 S5.out.res S5.out.below (by omega) _ _ _ _ _).1) rfl ⟨⟨s', y', c', dn', f'⟩, n, rfl, HM.out, (fin5 S5.out.res S5.out.below (by omega) _ _ _ _ _).2⟩
/-- how many bytes are there behind a crash -/
def keptM (s : ByteArray) (y keep : Int) : Int := y + min (max keep 0) (s.size - y)
/-- the disk behind a crash -/
def crashM (d : Dk) (keep : Int) : Dk := ⟨d.s.extract 0 (keptM d.s d.y keep).toNat, keptM d.s d.y keep, d.c, false, -1⟩
theorem kept_at (s : ByteArray) (y keep : Int) (h1 : y ≤ s.size) : y ≤ keptM s y keep ∧ keptM s y keep ≤ s.size := by
  unfold keptM; omega
set_option maxHeartbeats 1000000 in
theorem read14_yes (s : ByteArray) (y c f : Int) (w : World) (h : okB s y c = true) :
    Calls Tryz.prog 9 #[.agg #[.string s, .int .i64 y, .int .i64 c, .bool false, .int .i64 f]] w fun e w' => e = .returned (.tuple #[.string s, .int .i64 0]) ∧ Below w.heap.size w w' := by
  have HO : Hid (okB s y c = true) := h
  clear h
  go_enter Tryz.func9, Tryz.ntmps9
  go_wp2_with fail
  refine (check13_yes s y c f false HO.out _).mono ?_
  rintro e w3 ⟨rfl, hb3⟩
  obtain ⟨p0, p1, p2, p3, p4⟩ := ((Box.new w _ _).call hb3).five
  have HB : Hid (Below w.heap.size w w3) := (below_new w _).trans (hb3.mono (by simp))
  clear hb3
  go_wp2_with fail
  refine (sclone_c s (by have := ok_mk HO.out; omega) _).mono ?_
  rintro e w4 ⟨rfl, hb4⟩
  have HB4 : Hid (Below w.heap.size w w4) := HB.out.trans (hb4.mono HB.out.size)
  clear hb4
  go_wp2
  go_ret2
  exact ⟨rfl, HB4.out⟩
/-- Crash's own variables: the disk, the answer -/
structure CS (w W : World) (s : ByteArray) (y c f : Int) (dn : Bool) : Prop where
  below : Below w.heap.size w W
  box : Box W w.heap.size #[.string s, .int .i64 y, .int .i64 c, .bool dn, .int .i64 f] 27
  res : Box W (w.heap.size + 1) #[.string ⟨#[]⟩, .int .i64 0, .int .i64 0, .bool false, .int .i64 0] 27
theorem CS.call {w W W' : World} {s : ByteArray} {y c f : Int} {dn : Bool} (h : CS w W s y c f dn) (hb : Below W.heap.size W W') : CS w W' s y c f dn :=
  ⟨h.below.trans (hb.mono h.below.size), h.box.call hb, h.res.call hb⟩
theorem CS.new (w : World) (s : ByteArray) (y c f : Int) (dn : Bool) : CS w ((w.alloc (.cells #[.string s, .int .i64 y, .int .i64 c, .bool dn, .int .i64 f] 27)).alloc (.cells #[.string ⟨#[]⟩, .int .i64 0, .int .i64 0, .bool false, .int .i64 0] 27)) s y c f dn :=
  ⟨below2 w _ _, (box2 w _ _ _ _).1, (box2 w _ _ _ _).2⟩
theorem CS.mid {w W : World} {s : ByteArray} {y c f : Int} {dn : Bool} (h : CS w W s y c f dn) (v0 v1 v3 v4 : Value) :
    Below w.heap.size w ((((W.setCell ⟨w.heap.size, 0, none⟩ v0).setCell ⟨w.heap.size, 1, none⟩ v1).setCell ⟨w.heap.size, 3, none⟩ v3).setCell ⟨w.heap.size, 4, none⟩ v4) ∧
    Box ((((W.setCell ⟨w.heap.size, 0, none⟩ v0).setCell ⟨w.heap.size, 1, none⟩ v1).setCell ⟨w.heap.size, 3, none⟩ v3).setCell ⟨w.heap.size, 4, none⟩ v4) (w.heap.size + 1) #[.string ⟨#[]⟩, .int .i64 0, .int .i64 0, .bool false, .int .i64 0] 27 := by
  have hle := Nat.le_refl w.heap.size
  refine ⟨(((h.below.setCell hle _).setCell hle _).setCell hle _).setCell hle _, by simp; exact h.res.1, ?_⟩
  rw [heap_setCell_other _ _ _ _ (by simp), heap_setCell_other _ _ _ _ (by simp), heap_setCell_other _ _ _ _ (by simp), heap_setCell_other _ _ _ _ (by simp)]
  exact h.res.2
set_option maxHeartbeats 4000000 in
theorem crash11_yes (s : ByteArray) (y c f keep : Int) (dn : Bool) (w : World) (h : okB s y c = true) :
    Calls Tryz.prog 8 #[.agg #[.string s, .int .i64 y, .int .i64 c, .bool dn, .int .i64 f], .int .i64 keep] w fun e w' => ∃ s' : ByteArray, ∃ n : Int, e = .returned (.tuple #[.agg #[.string s', .int .i64 n, .int .i64 c, .bool false, .int .i64 (-1)], .int .i64 0]) ∧ s' = s.extract 0 (keptM s y keep).toNat ∧ n = keptM s y keep ∧ Below w.heap.size w w' := by
  have HO : Hid (okB s y c = true) := h
  obtain ⟨g1, g2, g3, g4, g5⟩ := ok_mk h
  clear h
  go_enter Tryz.func8, Tryz.ntmps8
  go_wp2_with fail
  refine (check13_yes s y c f dn HO.out _).mono ?_
  rintro e w3 ⟨rfl, hb3⟩
  have S3 : Hid (CS w w3 s y c f dn) := (CS.new w s y c f dn).call hb3
  clear hb3
  obtain ⟨p0, p1, p2, p3, p4⟩ := S3.out.box.five
  have fp := S3.out.box.free
  have lt1 := S3.out.box.1
  go_wp2_with fail
  all_goals
    have M3 := S3.out.mid
    refine (own20 _ (by rw [ByteArray.size_extract]; omega) _ _ _ _ _).mono ?_
    rintro e w4 ⟨rfl, hb4⟩
    obtain ⟨m1, m2⟩ := M3 _ _ _ _
    have HB4 : Hid (Below w.heap.size w w4) := m1.trans (hb4.mono m1.size)
    have HR4 : Hid (Box w4 (w.heap.size + 1) #[.string ⟨#[]⟩, .int .i64 0, .int .i64 0, .bool false, .int .i64 0] 27) := m2.call hb4
    clear m1 m2 hb4 M3
    obtain ⟨q0, q1, q2, q3, q4⟩ := HR4.out.five
    have fz := HR4.out.free
    have lt2 := HR4.out.1
    go_wp2
    refine bodyPost_ret (results_box2 (fn := Tryz.f8) (p := 4) (u := 5) rfl _ _ (w.heap.size + 1) _ _ _ _ _ _ rfl rfl (fin5 HR4.out HB4.out (by omega) _ _ _ _ _).1) rfl ⟨_, _, rfl, ?_, ?_, (fin5 HR4.out HB4.out (by omega) _ _ _ _ _).2⟩
    · refine congrArg (fun n => s.extract 0 n) ?_
      unfold keptM; omega
    · unfold keptM; omega
end Ds
end Go.Proofs.YtlafdlcpelkdpaaGreatDoor
