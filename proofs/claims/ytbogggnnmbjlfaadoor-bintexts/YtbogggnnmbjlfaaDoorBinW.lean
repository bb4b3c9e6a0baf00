/- The writer in memory: one cell that holds a slice of bytes of its own; what writing a byte leaves alone. -/
import Derived.Test.YtbogggnnmbjlfaaDoorBinNum
import Derived.OneCell
namespace Go.Proofs.YtbogggnnmbjlfaaDoor
open Go.RowKit
/-- the writer at block g holds the bytes l, in the slice v -/
structure Out (g : Nat) (l : List UInt8) (v : Value) (w : World) : Prop where
  lt : g < w.heap.size
  cell : w.cell? ⟨g, 0, none⟩ = some v
  free : w.frozen? ⟨g, 0, none⟩ = false
  own : w.ownsRow (g + 1) 5 1 v l.length (Lib.byteCells l)
/-- what a writer's work leaves alone: all blocks but its own cell's and its slice's -/
structure Wrote (g : Nat) (v v' : Value) (w w' : World) : Prop where
  os : w'.os = w.os
  tape : w'.tape = w.tape
  output : w'.output = w.output
  size : w.heap.size ≤ w'.heap.size
  block : ∀ k, k < w.heap.size → k ≠ g → v.ownBlock ≠ some k → w'.heap[k]? = w.heap[k]?
  own : v'.ownBlock = v.ownBlock ∨ ∃ k, v'.ownBlock = some k ∧ w.heap.size ≤ k
theorem Wrote.refl (g : Nat) (v : Value) (w : World) : Wrote g v v w w := ⟨rfl, rfl, rfl, Nat.le_refl _, fun _ _ _ _ => rfl, Or.inl rfl⟩
theorem Wrote.trans {g : Nat} {v1 v2 v3 : Value} {w1 w2 w3 : World} (h : Wrote g v1 v2 w1 w2) (k : Wrote g v2 v3 w2 w3) : Wrote g v1 v3 w1 w3 := by
  refine ⟨k.os.trans h.os, k.tape.trans h.tape, k.output.trans h.output, Nat.le_trans h.size k.size, fun i hi hg hv => ?_, ?_⟩
  · refine (k.block i (Nat.lt_of_lt_of_le hi h.size) hg ?_).trans (h.block i hi hg hv)
    rcases h.own with e | ⟨j, e, hj⟩
    · rw [e]; exact hv
    · rw [e]; intro e2; cases e2; omega
  · rcases k.own with e | ⟨j, e, hj⟩
    · rw [e]; exact h.own
    · exact Or.inr ⟨j, e, Nat.le_trans h.size hj⟩
/-- what lay below the writer lies there still -/
theorem Wrote.below {g : Nat} {v v' : Value} {w w' : World} {l : List UInt8} (h : Wrote g v v' w w') (ho : Out g l v w) : Below g w w' :=
  ⟨h.os, h.tape, h.output, h.size, fun k hk => h.block k (by have := ho.lt; omega) (by omega) (fun e => by have := (ho.own.lt k e).1; omega)⟩
theorem Wrote.new {g : Nat} {v v' : Value} {w w1 w' : World} (h : Wrote g v v' w1 w') (o : Obj) (e : w1 = w.alloc o) : Wrote g v v' w w' := by
  subst e
  refine ⟨h.os, h.tape, h.output, Nat.le_trans (by simp) h.size, fun k hk hg hv => (h.block k (by simp; omega) hg hv).trans (Below.heap_alloc _ _ _ hk), ?_⟩
  rcases h.own with e | ⟨j, e, hj⟩
  · exact Or.inl e
  · exact Or.inr ⟨j, e, Nat.le_trans (by simp) hj⟩
/-- behind an append and the store of its answer -/
theorem Out.next {g gg cap : Nat} {l m : List UInt8} {v : Value} {w w1 w' : World} (h : Out g l v w) (b : Below w.heap.size w w1) (hg : w1.grownBy w' v.ownBlock)
    (ho : w'.ownsRow (g + 1) 5 1 (.slice (some ⟨gg, 0, none⟩) (l.length + m.length) cap) (l.length + m.length) (Lib.byteCells l ++ Lib.byteCells m)) (hat : v.ownBlock = some gg ∨ gg = w1.heap.size) :
    Out g (l ++ m) (.slice (some ⟨gg, 0, none⟩) (l.length + m.length) cap) (w'.setCell ⟨g, 0, none⟩ (.slice (some ⟨gg, 0, none⟩) (l.length + m.length) cap)) ∧
    Wrote g v (.slice (some ⟨gg, 0, none⟩) (l.length + m.length) cap) w (w'.setCell ⟨g, 0, none⟩ (.slice (some ⟨gg, 0, none⟩) (l.length + m.length) cap)) ∧ w'.cell? ⟨g, 0, none⟩ = some v ∧ w'.frozen? ⟨g, 0, none⟩ = false := by
  have hlt := h.lt
  have hs1 := b.size
  have hs2 := hg.size
  have hne : v.ownBlock ≠ some g := fun e => by have := (h.own.lt g e).1; omega
  have hgg : gg ≠ g := by
    rcases hat with e | e
    · intro e2; subst e2; exact hne e
    · omega
  have hb : w'.heap[g]? = w.heap[g]? := (hg.block g (by omega) (fun e => hne e.symm)).trans (b.block g hlt)
  have hc : w'.cell? ⟨g, 0, none⟩ = some v := (World.cell?_of_block (w := w) hb).trans h.cell
  have hf : w'.frozen? ⟨g, 0, none⟩ = false := (World.frozen?_of_block (w := w) hb).trans h.free
  refine ⟨⟨by simp [World.setCell]; omega, ?_, ?_, ?_⟩, ⟨?_, ?_, ?_, ?_, ?_, ?_⟩, hc, hf⟩
  · exact World.cell?_setCell_same _ _ _ hc
  · rw [World.frozen?_setCell]; exact hf
  · have e : Lib.byteCells (l ++ m) = Lib.byteCells l ++ Lib.byteCells m := by simp [Lib.byteCells]
    rw [e, List.length_append]
    exact ownsRow_setCell_other ho (by simp [Value.ownBlock]; omega) _
  · exact hg.os.trans b.os
  · exact hg.tape.trans b.tape
  · exact hg.output.trans b.output
  · simp [World.setCell]; omega
  · intro k hk hkg hkv
    rw [Below.heap_setCell _ _ _ _ hkg, hg.block k (by omega) (fun e => hkv e.symm), b.block k hk]
  · rcases hat with e | e
    · exact Or.inl (by rw [e]; rfl)
    · exact Or.inr ⟨gg, rfl, by omega⟩
theorem over43 (g : Nat) (l : List UInt8) (v : Value) (w : World) (h : Out g l v w) :
    Calls Tryd.prog 43 #[.pointer (some ⟨g, 0, none⟩)] w fun e w' => e = .returned (.bool (decide (16384 < l.length))) ∧ w' = w := by
  obtain ⟨a, cap, rfl⟩ : ∃ a cap, v = .slice a l.length cap := by
    rcases h.own.2 with ⟨rfl, e⟩ | ⟨g2, cap, cur, rfl, _⟩
    · exact ⟨none, 0, by rw [e]⟩
    · exact ⟨_, cap, rfl⟩
  have hc := h.cell
  obtain ⟨n, hn⟩ : ∃ n, n = l.length := ⟨_, rfl⟩
  rw [← hn] at hc ⊢
  clear h hn
  go_enter Tryd.func43, Tryd.ntmps43
  go_wp2
  go_ret
  refine ⟨?_, rfl⟩
  by_cases h1 : 16384 < n
  · have h2 : (16384 : Int) < (n : Int) := by omega
    simp [h1, h2]
  · have h2 : ¬ (16384 : Int) < (n : Int) := by omega
    simp [h1, h2]
set_option maxHeartbeats 1000000 in
set_option maxRecDepth 10000 in
theorem first67 (g : Nat) (l : List UInt8) (hl : l.length ≤ 4294967296) (b : UInt8) (v : Value) (w : World) (h : Out g l v w) :
    Calls Tryd.prog 67 #[.pointer (some ⟨g, 0, none⟩), .int .u8 (b.toNat : Int)] w fun e w' => e = .returned (.tuple #[]) ∧ ∃ v', Out g (l ++ [b]) v' w' ∧ Wrote g v v' w w' := by
  obtain ⟨i0, hi, hz0, hz1, hz2⟩ := Go.info_parts Bn.info5
  obtain ⟨x, hx⟩ : ∃ x : Int, x = (b.toNat : Int) := ⟨_, rfl⟩
  have HX : Hid (Lib.byteCells [b] = [.int .u8 x]) := by show _ = _; rw [hx]; rfl
  rw [← hx]
  have H : Hid (Out g l v w) := h
  have hc := h.cell
  have hlt := h.lt
  have HB63 : Hid (l.length + 1 ≤ maxLen) := by show _ ≤ _; unfold maxLen; omega
  have HB47 : Hid ((l.length + 1) * 1 ≤ 140737488355328) := by show _ ≤ _; omega
  have HSZ : Hid (g + 1 ≤ (w.alloc (.cells #[.int .u8 x] 5)).heap.size) := by show _ ≤ _; simp; omega
  clear h hx hl
  go_enter Tryd.func67, Tryd.ntmps67
  go_wp2_with (first | (at_builtin; refine wpList_append_lies _ rfl _ _ 63 rfl (g + 1) 5 i0 (.int .u8 0) 1 1 Tryd.underlying63 hi hz0 hz1 hz2 rfl (by decide) _ _ _ rfl (H.out.own.alloc _) ⟨w.heap.size, 0, none⟩ 1 1 [.int .u8 x] rfl rfl (Bn.cell_new _ _ _) (by intro u hu; simp at hu; subst hu; rfl) (by decide) HB63.out HB47.out HSZ.out _ rfl ?_; intro gg cap w1 hown hgrow hat hgl; have N := Out.next (m := [b]) H.out ((Below.refl _ _).alloc (Nat.le_refl _) _) hgrow (by rw [HX.out]; exact hown) hat; obtain ⟨n1, n2, c1, f1⟩ := N; have N1 : Hid (Out g (l ++ [b]) _ _) := n1; have N2 : Hid (Wrote g v _ w _) := n2; clear hown hgrow hat hgl n1 n2))
  exact ⟨rfl, _, results_none (by rfl) _ _ _, rfl, _, N1.out, N2.out⟩
end Go.Proofs.YtbogggnnmbjlfaaDoor
