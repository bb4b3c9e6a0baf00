/- What the walk over the reference's block wants beside it: four bytes as a number, one by one; owned rows of words; the blocks of the call. -/
import Derived.Test.YthheebnmdfggnaaDoorShRefA
import Derived.Deep.AppendLies
namespace Go.Proofs.YthheebnmdfggnaaDoor
open Go.RowKit
namespace Sh
/-- the first j of four bytes as a number -/
def pb (s : List UInt8) (i : Nat) : Nat → Nat
  | 0 => 0
  | j + 1 => (256 * pb s i j + (s.getD (i + j) 0).toNat) % 4294967296
theorem pb_lt (s : List UInt8) (i j : Nat) : pb s i j < 4294967296 := by
  cases j with
  | zero => show 0 < 4294967296; decide
  | succ j => exact Nat.mod_lt _ (by decide)
theorem pb_4 (s : List UInt8) (i : Nat) : pb s i 4 = be32 s i := by
  have h0 := (s.getD i 0).toNat_lt
  have h1 := (s.getD (i + 1) 0).toNat_lt
  have h2 := (s.getD (i + 2) 0).toNat_lt
  have h3 := (s.getD (i + 3) 0).toNat_lt
  simp only [pb, be32, Nat.add_zero]
  omega
/-- words as cells, in a list -/
def cellsOf (l : List Nat) : List Value := l.map fun n : Nat => Value.int .u32 (n : Int)
theorem cellsOf_get (l : List Nat) (j : Nat) (h : j < l.length) : (cellsOf l)[j]? = some (Value.int .u32 ((l.getD j 0 : Nat) : Int)) := by
  simp [cellsOf, h]
theorem cellsOf_next (s : List UInt8) (k x : Nat) (h : x = nextW s (ws s k)) : cellsOf (ws s (k + 1)) = cellsOf (ws s k) ++ [.int .u32 (x : Int)] := by
  rw [h]; simp [cellsOf, ws]
theorem nextW_16 (s : List UInt8) (k : Nat) (h : k < 16) : nextW s (ws s k) = be32 s (4 * k) := by
  unfold nextW
  rw [ws_length, if_pos h]
theorem nextW_64 (s : List UInt8) (k : Nat) (h : 16 ≤ k) : nextW s (ws s k) = grow ((ws s k).getD (k - 16) 0) ((ws s k).getD (k - 15) 0) ((ws s k).getD (k - 7) 0) ((ws s k).getD (k - 2) 0) := by
  unfold nextW
  rw [ws_length, if_neg (by omega)]
end Sh
theorem info25' : (Tryd.prog.info? 59).map (fun i => (i.zero, i.size, i.bytes)) = some (some (.int .u32 0), 1, 4) := by kernel_rfl
theorem own_block_le' {w : World} {base n : Nat} {v : Value} {xs : List Value} (h : w.ownsRow base 59 1 v n xs) : ∀ k, v.ownBlock = some k → base ≤ k := by
  intro k hk
  rcases h.2 with ⟨rfl, _⟩ | ⟨g, cap, cur, rfl, hg, _⟩
  · simp [Value.ownBlock] at hk
  · simp [Value.ownBlock] at hk; omega
/-- the two boxes of the call -/
def QI (w wr : World) (t : List Nat) : Prop :=
  wr.heap[w.heap.size]? = some (.cells (Sh.arr t) 83 (0, 0)) ∧ wr.heap[w.heap.size + 1]? = some (.cells (Sh.arr (List.replicate 8 0)) 83 (0, 0)) ∧ w.heap.size + 2 ≤ wr.heap.size ∧ Below w.heap.size w wr
theorem QI.start (w : World) (t : List Nat) : QI w ((w.alloc (.cells (Sh.arr t) 83)).alloc (.cells (Sh.arr (List.replicate 8 0)) 83)) t := change_start w t
theorem QI.grown {w wr w1 : World} {t : List Nat} {row : Option Nat} (h : QI w wr t) (o : Obj) (hg : (wr.alloc o).grownBy w1 row) (hr : ∀ k, row = some k → w.heap.size + 2 ≤ k) : QI w w1 t := by
  obtain ⟨h1, h2, h3, h4⟩ := h
  have hne : ∀ j, j < w.heap.size + 2 → some j ≠ row := fun j hj e => by have := hr j e.symm; omega
  refine ⟨?_, ?_, ?_, (h4.alloc (by omega) o).grown hg (by simp; omega) (fun k hk => by have := hr k hk; omega)⟩
  · rw [hg.block _ (by simp; omega) (hne _ (by omega)), Below.heap_alloc _ _ _ (by omega)]; exact h1
  · rw [hg.block _ (by simp; omega) (hne _ (by omega)), Below.heap_alloc _ _ _ (by omega)]; exact h2
  · have := hg.size; simp at this; omega
theorem QI.drewN {w wr : World} {t : List Nat} (h : QI w wr t) (n : Nat) : QI w (wr.drewN n) t := ⟨h.1, h.2.1, h.2.2.1, below_drewN' h.2.2.2⟩
theorem QI.drew {w wr : World} {t : List Nat} (h : QI w wr t) : QI w wr.drew t := ⟨h.1, h.2.1, h.2.2.1, h.2.2.2.drew⟩
/-- an owned row that is not empty, laid open -/
theorem own_open {w : World} {base n : Nat} {v : Value} {l : List Nat} (h : w.ownsRow base 59 1 v n (Sh.cellsOf l)) (hn : 0 < n) :
    ∃ g cap, v = .slice (some ⟨g, 0, none⟩) n cap ∧ base ≤ g ∧ n ≤ cap ∧ g < w.heap.size ∧ ∀ j, j < n → w.cell? ⟨g, j, none⟩ = some (.int .u32 ((l.getD j 0 : Nat) : Int)) := by
  have hl : l.length = n := by have := h.1; simpa [Sh.cellsOf] using this
  rcases h.2 with ⟨_, h'⟩ | ⟨g, cap, cur, rfl, hb, hg, hc, _⟩
  · omega
  · refine ⟨g, cap, rfl, hb, hc, (Array.getElem?_eq_some_iff.1 hg).1, fun j hj => ?_⟩
    rw [h.cellAt j (by omega)]
    exact Sh.cellsOf_get l j (by omega)
theorem sig0_eq (p : Nat) (h : p < 4294967296) : bits .xor .u32 (bits .xor .u32 ((Sh.rotr p 7 : Nat) : Int) ((Sh.rotr p 18 : Nat) : Int)) ((p : Int) / 8) = ((Sh.sig0 p : Nat) : Int) := by
  rw [show ((p : Int) / 8) = ((p / 2 ^ 3 : Nat) : Int) by omega, Sh.xor3 _ _ _ (Sh.rotr_lt _ h) (Sh.rotr_lt _ h) (by omega)]
  rfl
theorem sig1_eq (p : Nat) (h : p < 4294967296) : bits .xor .u32 (bits .xor .u32 ((Sh.rotr p 17 : Nat) : Int) ((Sh.rotr p 19 : Nat) : Int)) ((p : Int) / 1024) = ((Sh.sig1 p : Nat) : Int) := by
  rw [show ((p : Int) / 1024) = ((p / 2 ^ 10 : Nat) : Int) by omega, Sh.xor3 _ _ _ (Sh.rotr_lt _ h) (Sh.rotr_lt _ h) (by omega)]
  rfl
theorem sum1 (a b : Nat) : IntKind.u32.wrap ((a : Int) + (b : Int)) = (((a + b) % 4294967296 : Nat) : Int) := by
  rw [IntKind.wrap_u32]; omega
/-- the blocks of the rounds: the words in work and the constants, behind all that was there -/
def RI (w0 wx : World) (v : List Nat) : Prop :=
  wx.heap[w0.heap.size]? = some (.cells (Sh.arr v) 83 (0, 0)) ∧ wx.heap[w0.heap.size + 1]? = some (.cells (Sh.arr Sh.K) 59 (0, 0)) ∧ w0.heap.size + 2 ≤ wx.heap.size ∧ Below w0.heap.size w0 wx
theorem RI.start (w0 : World) (v : List Nat) : RI w0 ((w0.alloc (.cells (Sh.arr v) 83)).alloc (.cells (Sh.arr Sh.K) 59)) v := by
  refine ⟨?_, ?_, by simp, ((Below.refl _ w0).alloc (Nat.le_refl _) _).alloc (by simp) _⟩
  · rw [Below.heap_alloc _ _ _ (by simp)]; exact heap_alloc_new w0 _
  · have := heap_alloc_new (w0.alloc (.cells (Sh.arr v) 83)) (.cells (Sh.arr Sh.K) 59)
    rw [World.size_alloc] at this
    exact this
theorem RI.drewN {w0 wx : World} {v : List Nat} (h : RI w0 wx v) (n : Nat) : RI w0 (wx.drewN n) v := ⟨h.1, h.2.1, h.2.2.1, below_drewN' h.2.2.2⟩
theorem RI.drew {w0 wx : World} {v : List Nat} (h : RI w0 wx v) : RI w0 wx.drew v := ⟨h.1, h.2.1, h.2.2.1, h.2.2.2.drew⟩
theorem RI.put {w0 wx : World} {v : List Nat} (h : RI w0 wx v) (i x : Nat) : RI w0 (wx.setCell ⟨w0.heap.size, i, none⟩ (.int .u32 (x : Int))) (v.set i x) := by
  obtain ⟨h1, h2, h3, h4⟩ := h
  refine ⟨row_put h1 i x, ?_, by simpa using h3, h4.setCell (p := ⟨w0.heap.size, i, none⟩) (by simp) _⟩
  rw [heap_setCell_other _ _ _ _ (by show w0.heap.size + 1 ≠ w0.heap.size; omega)]; exact h2
theorem RI.stored {w0 wr : World} {v : Sh.S8} (h : RI w0 wr v.list) (m : Sh.S8) :
    RI w0 ((((((((wr.setCell ⟨w0.heap.size, 0, none⟩ (.int .u32 (m.a : Int))).setCell ⟨w0.heap.size, 1, none⟩ (.int .u32 (m.b : Int))).setCell ⟨w0.heap.size, 2, none⟩ (.int .u32 (m.c : Int))).setCell ⟨w0.heap.size, 3, none⟩ (.int .u32 (m.d : Int))).setCell ⟨w0.heap.size, 4, none⟩ (.int .u32 (m.e : Int))).setCell ⟨w0.heap.size, 5, none⟩ (.int .u32 (m.f : Int))).setCell ⟨w0.heap.size, 6, none⟩ (.int .u32 (m.g : Int))).setCell ⟨w0.heap.size, 7, none⟩ (.int .u32 (m.h : Int))) m.list :=
  (((((((h.put 0 m.a).put 1 m.b).put 2 m.c).put 3 m.d).put 4 m.e).put 5 m.f).put 6 m.g).put 7 m.h
theorem not_form (e : Nat) (he : e < 4294967296) : (4294967295 : Int) - (e : Int) = bits .xor .u32 IntKind.u32.max (e : Int) := by
  rw [Sh.max_u32, u32_xor_nat _ _ (by decide) he, Sh.not_eq e he]
  omega
theorem plus_comm (a b : Sh.S8) : Sh.plus a b = Sh.plus b a := by simp [Sh.plus, Nat.add_comm]
end Go.Proofs.YthheebnmdfggnaaDoor
