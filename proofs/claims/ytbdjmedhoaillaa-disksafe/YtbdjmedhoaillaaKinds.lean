/- The map of the changes, walked: made, and asked. -/
import Derived.Test.YtbdjmedhoaillaaParts
import Derived.Maps.OwnOps
namespace Go.Proofs.Ytbdjmedhoaillaa
open Go.RowKit
open Go.ChangeMaps Go.MapKept
theorem key28 (k : Int) (h0 : 0 ≤ k) (h1 : k < 256) : keyOf Try.prog 28 (.int .u8 k) = some (.int .u8 k) := Maps.keyOf_int_mk Try.underlying28 (WalkArith.wf_u8 (by omega))
theorem ins50 (W : World) (b : Nat) (es : Array MapEntry) (clock : Nat) (k : Int) (h0 : 0 ≤ k) (h1 : k < 256) (v : Value) (hb : W.heap[b]? = some (.map es clock)) (hn : Instr.findNow (.int .u8) (.int .u8 k) es.toList 0 = some none) :
    (Instr.mapUpdate 50 (.map (some b)) (.int .u8 k) v).run Try.prog W = .ok () (setBlock W b (.map (es.push ⟨.int .u8 k, v, clock⟩) (clock + 1))) := by
  simp [Instr.mapUpdate, run_underlying Try.underlying50, MapKept.run_getObj_map hb, (Maps.int_keyed Try.underlying28).check W false (key28 k h0 h1), Instr.findKey, run_underlying Try.underlying28, hn, MapKept.run_setObj_map _ hb, Result.andThen, setBlock]
/-- the changes that there are, in a map -/
def Kinds (w : World) (B : Nat) (C : Value) : Prop := B < w.heap.size ∧ w.heap[B]? = some (.map #[⟨.int .u8 1, .func (.func 26) #[C] #[], 0⟩, ⟨.int .u8 2, .func (.func 27) #[C] #[], 1⟩, ⟨.int .u8 3, .func (.func 28) #[C] #[], 2⟩] 3)
theorem Kinds.call {w w' : World} {B : Nat} {C : Value} (h : Kinds w B C) (hb : Below w.heap.size w w') : Kinds w' B C :=
  ⟨Nat.lt_of_lt_of_le h.1 hb.size, (hb.block _ h.1).trans h.2⟩
theorem block_at (W : World) (b : Nat) (o : Obj) (h : b < W.heap.size) : (setBlock W b o).heap[b]? = some o := by
  simp [setBlock, h]
theorem block_cell (W : World) (b g i : Nat) (o : Obj) (h : g ≠ b) : (setBlock W b o).cell? ⟨g, i, none⟩ = W.cell? ⟨g, i, none⟩ := by
  simp [setBlock, World.cell?, h.symm]
theorem block_size (W : World) (b : Nat) (o : Obj) : (setBlock W b o).heap.size = W.heap.size := by
  simp [setBlock]
theorem below_block {B b : Nat} {A W : World} (h : Below B A W) (hb : B ≤ b) (o : Obj) : Below B A (setBlock W b o) :=
  ⟨h.os, h.tape, h.output, by rw [block_size]; exact h.size, fun k hk => by rw [← h.block k hk]; simp [setBlock, Array.getElem?_setIfInBounds]; omega⟩
theorem look_1 {W : World} {B : Nat} {C : Value} (h : Kinds W B C) : (Instr.lookup 50 (.map (some B)) (.int .u8 1) true).run Try.prog W = .ok (.tuple #[.func (.func 26) #[C] #[], .bool true]) W := by
  simp [Instr.lookup, run_underlying Try.underlying50, MapKept.run_getObj_map h.2, (Maps.int_keyed Try.underlying28).check W false (key28 1 (by omega) (by omega)), Instr.findKey, run_underlying Try.underlying28, Instr.findNow, Instr.sameNow, Result.andThen]
theorem look_2 {W : World} {B : Nat} {C : Value} (h : Kinds W B C) : (Instr.lookup 50 (.map (some B)) (.int .u8 2) true).run Try.prog W = .ok (.tuple #[.func (.func 27) #[C] #[], .bool true]) W := by
  simp [Instr.lookup, run_underlying Try.underlying50, MapKept.run_getObj_map h.2, (Maps.int_keyed Try.underlying28).check W false (key28 2 (by omega) (by omega)), Instr.findKey, run_underlying Try.underlying28, Instr.findNow, Instr.sameNow, Result.andThen]
theorem look_3 {W : World} {B : Nat} {C : Value} (h : Kinds W B C) : (Instr.lookup 50 (.map (some B)) (.int .u8 3) true).run Try.prog W = .ok (.tuple #[.func (.func 28) #[C] #[], .bool true]) W := by
  simp [Instr.lookup, run_underlying Try.underlying50, MapKept.run_getObj_map h.2, (Maps.int_keyed Try.underlying28).check W false (key28 3 (by omega) (by omega)), Instr.findKey, run_underlying Try.underlying28, Instr.findNow, Instr.sameNow, Result.andThen]
theorem look_no {W : World} {B : Nat} {C : Value} (h : Kinds W B C) (k : Int) (h0 : 0 ≤ k) (h1 : k < 256) (h2 : k ≠ 1) (h3 : k ≠ 2) (h4 : k ≠ 3) : (Instr.lookup 50 (.map (some B)) (.int .u8 k) true).run Try.prog W = .ok (.tuple #[.nilFunc, .bool false]) W := by
  have e1 : (k == 1) = false := by simp; omega
  have e2 : (k == 2) = false := by simp; omega
  have e3 : (k == 3) = false := by simp; omega
  simp [Instr.lookup, run_underlying Try.underlying50, MapKept.run_getObj_map h.2, (Maps.int_keyed Try.underlying28).check W false (key28 k h0 h1), Instr.findKey, run_underlying Try.underlying28, Instr.findNow, Instr.sameNow, Result.andThen, e1, e2, e3]
set_option maxHeartbeats 1000000 in
theorem kinds23 (s t : ByteArray) (y c f z k : Int) (dn : Bool) (w : World) :
    Calls Try.prog 23 #[.agg #[.string s, .int .i64 y, .int .i64 c, .bool dn, .int .i64 f, .int .u8 k, .string t, .int .i64 z]] w fun e w' => ∃ B, e = .returned (.map (some B)) ∧ Below w.heap.size w w' ∧ Kinds w' B (.agg #[.string s, .int .i64 y, .int .i64 c, .bool dn, .int .i64 f, .int .u8 k, .string t, .int .i64 z]) := by
  have hmf : ∀ (fn : Fn) (first cap : Array Value) (w : World), (Instr.makeFunc fn first cap).run Try.prog w = .ok (.func fn first cap) w := fun _ _ _ _ => rfl
  have hmm := @run_makeMap Try.prog
  obtain ⟨C, hC⟩ : ∃ C : Value, C = .agg #[.string s, .int .i64 y, .int .i64 c, .bool dn, .int .i64 f, .int .u8 k, .string t, .int .i64 z] := ⟨_, rfl⟩
  obtain ⟨W0, hW0⟩ : ∃ W0, W0 = (w.alloc (.cells #[.string s, .int .i64 y, .int .i64 c, .bool dn, .int .i64 f, .int .u8 k, .string t, .int .i64 z] 44)).alloc (.map #[] 0) := ⟨_, rfl⟩
  have b0 : W0.heap[w.heap.size + 1]? = some (.map #[] 0) := by rw [hW0]; have := heap_alloc_new (w.alloc (.cells #[.string s, .int .i64 y, .int .i64 c, .bool dn, .int .i64 f, .int .u8 k, .string t, .int .i64 z] 44)) (.map #[] 0); simpa using this
  have z0 : W0.heap.size = w.heap.size + 2 := by rw [hW0]; simp
  have i1 := ins50 W0 _ _ _ 1 (by omega) (by omega) (.func (.func 26) #[C] #[]) b0 rfl
  obtain ⟨W1, hW1⟩ : ∃ W1, W1 = setBlock W0 (w.heap.size + 1) (.map (#[].push ⟨.int .u8 1, .func (.func 26) #[C] #[], 0⟩) (0 + 1)) := ⟨_, rfl⟩
  have b1 := block_at W0 (w.heap.size + 1) (.map (#[].push ⟨.int .u8 1, .func (.func 26) #[C] #[], 0⟩) (0 + 1)) (by omega)
  rw [← hW1] at b1
  have i2 := ins50 W1 _ _ _ 2 (by omega) (by omega) (.func (.func 27) #[C] #[]) b1 rfl
  obtain ⟨W2, hW2⟩ : ∃ W2, W2 = setBlock W1 (w.heap.size + 1) (.map ((#[].push ⟨.int .u8 1, .func (.func 26) #[C] #[], 0⟩).push ⟨.int .u8 2, .func (.func 27) #[C] #[], 0 + 1⟩) (0 + 1 + 1)) := ⟨_, rfl⟩
  have z1 : W1.heap.size = w.heap.size + 2 := by rw [hW1, block_size, z0]
  have b2 := block_at W1 (w.heap.size + 1) (.map ((#[].push ⟨.int .u8 1, .func (.func 26) #[C] #[], 0⟩).push ⟨.int .u8 2, .func (.func 27) #[C] #[], 0 + 1⟩) (0 + 1 + 1)) (by omega)
  rw [← hW2] at b2
  have i3 := ins50 W2 _ _ _ 3 (by omega) (by omega) (.func (.func 28) #[C] #[]) b2 rfl
  have z2 : W2.heap.size = w.heap.size + 2 := by rw [hW2, block_size, z1]
  obtain ⟨W3, hW3⟩ : ∃ W3, W3 = setBlock W2 (w.heap.size + 1) (.map (((#[].push ⟨.int .u8 1, .func (.func 26) #[C] #[], 0⟩).push ⟨.int .u8 2, .func (.func 27) #[C] #[], 0 + 1⟩).push ⟨.int .u8 3, .func (.func 28) #[C] #[], 0 + 1 + 1⟩) (0 + 1 + 1 + 1)) := ⟨_, rfl⟩
  have b3 := block_at W2 (w.heap.size + 1) (.map (((#[].push ⟨.int .u8 1, .func (.func 26) #[C] #[], 0⟩).push ⟨.int .u8 2, .func (.func 27) #[C] #[], 0 + 1⟩).push ⟨.int .u8 3, .func (.func 28) #[C] #[], 0 + 1 + 1⟩) (0 + 1 + 1 + 1)) (by omega)
  rw [← hW3] at b3
  rw [← hW1] at i1
  rw [← hW2] at i2
  rw [← hW3] at i3
  have B0 : Box W0 w.heap.size #[.string s, .int .i64 y, .int .i64 c, .bool dn, .int .i64 f, .int .u8 k, .string t, .int .i64 z] 44 := by rw [hW0]; exact (Box.new w _ _).past _
  have c0 := B0.eight
  have c1 : ∀ i, W1.cell? ⟨w.heap.size, i, none⟩ = W0.cell? ⟨w.heap.size, i, none⟩ := fun i => by rw [hW1]; exact block_cell _ _ _ _ _ (by omega)
  have c2 : ∀ i, W2.cell? ⟨w.heap.size, i, none⟩ = W0.cell? ⟨w.heap.size, i, none⟩ := fun i => by rw [hW2, block_cell _ _ _ _ _ (by omega)]; exact c1 i
  have HK : Hid (Kinds W3 (w.heap.size + 1) C) := ⟨by rw [hW3, block_size, z2]; omega, b3⟩
  have HB : Hid (Below w.heap.size w W3) := by
    show Below _ _ _
    rw [hW3, hW2, hW1, hW0]
    exact below_block (below_block (below_block (((Below.refl _ _).alloc (Nat.le_refl _) _).alloc (by simp) _) (by omega) _) (by omega) _) (by omega) _
  obtain ⟨c00, c01, c02, c03, c04, c05, c06, c07⟩ := c0
  have HW0 : Hid (W0 = _) := hW0
  have mm0 : (Instr.makeMap 50 none).run Try.prog (w.alloc (.cells #[.string s, .int .i64 y, .int .i64 c, .bool dn, .int .i64 f, .int .u8 k, .string t, .int .i64 z] 44)) = .ok (.map (some (w.heap.size + 1))) W0 := by rw [hW0]; have := run_makeMap (P := Try.prog) 50 (w.alloc (.cells #[.string s, .int .i64 y, .int .i64 c, .bool dn, .int .i64 f, .int .u8 k, .string t, .int .i64 z] 44)); simpa using this
  rw [hC] at i1 i2 i3 HK
  clear hmm hW0 hW1 hW2 hW3 b0 b1 b2 b3 z0 z1 z2 hC B0
  go_enter Try.func23, Try.ntmps23
  go_wp2
  go_ret
  exact ⟨_, rfl, HB.out, HK.out⟩
end Go.Proofs.Ytbdjmedhoaillaa
