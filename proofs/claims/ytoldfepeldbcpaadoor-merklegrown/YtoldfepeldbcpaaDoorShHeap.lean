/- Small laws on blocks of words in memory: a cell of a row, a row behind a store, a whole row stored and read, what stays below. -/
import Derived.Test.YtoldfepeldbcpaaDoorShRot
import Derived.Deep.RegionHeld3
import Derived.Deep.MidRow
import Derived.Deep.DrawnRows
import Derived.LoopTactic
import Derived.WalkSpells
import Derived.BigRegion
namespace Go.Proofs.YtoldfepeldbcpaaDoor
open Go.RowKit
theorem cell_other {W : World} {b i j : Nat} (h : i ≠ j) (v : Value) : (W.setCell ⟨b, i, none⟩ v).cell? ⟨b, j, none⟩ = W.cell? ⟨b, j, none⟩ :=
  World.cell?_setCell_other _ ⟨b, i, none⟩ ⟨b, j, none⟩ _ (fun e => h (congrArg Addr.off e))
theorem row_cell {W : World} {b : Nat} {L : List Nat} {t : TypeId} {fr : Nat × Nat} (h : W.heap[b]? = some (.cells (Sh.arr L) t fr)) (j : Nat) (hj : j < L.length) :
    W.cell? ⟨b, j, none⟩ = some (.int .u32 ((L.getD j 0 : Nat) : Int)) := by
  rw [cell_of_row W b j _ t fr h]
  exact Sh.arr_get L j hj
theorem row_free {W : World} {b : Nat} {C : Array Value} {t : TypeId} (h : W.heap[b]? = some (.cells C t (0, 0))) (j : Nat) : W.frozen? ⟨b, j, none⟩ = false := by
  simp [World.frozen?, h]
theorem row_put {W : World} {b : Nat} {L : List Nat} {t : TypeId} (h : W.heap[b]? = some (.cells (Sh.arr L) t (0, 0))) (i x : Nat) :
    (W.setCell ⟨b, i, none⟩ (.int .u32 (x : Int))).heap[b]? = some (.cells (Sh.arr (L.set i x)) t (0, 0)) := by
  rw [heap_setCell_same W b i _ t _ h, Sh.arr_set]
theorem arr_one (L : List Nat) : (Sh.arr L).all (·.oneCell') = true := by
  rw [Array.all_eq_true]
  intro i hi
  simp [Sh.arr, Value.oneCell']
theorem row_there {W : World} {b n : Nat} {C : Array Value} {t : TypeId} (h : W.heap[b]? = some (.cells C t (0, 0))) (hn : n ≤ C.size) : W.there b 0 n := by
  intro j hj
  refine ⟨?_, ?_⟩
  · rw [cell_of_row W b _ C t _ h]
    simp; omega
  · exact row_free h _
theorem below_setCells {B b : Nat} (hb : B ≤ b) {A : World} : ∀ (vs : List Value) (o : Nat) {W : World}, Below B A W → Below B A (W.setCells b o vs)
  | [], _, _, h => h
  | v :: r, o, _, h => below_setCells hb r (o + 1) (h.setCell (p := ⟨b, o, none⟩) hb v)
theorem size_setCells' (b : Nat) : ∀ (vs : List Value) (o : Nat) (W : World), (W.setCells b o vs).heap.size = W.heap.size
  | [], _, _ => rfl
  | v :: r, o, W => by rw [World.setCells, size_setCells' b r]; simp
theorem heap_setCells_ne (b k : Nat) (hk : k ≠ b) : ∀ (vs : List Value) (o : Nat) (W : World), (W.setCells b o vs).heap[k]? = W.heap[k]?
  | [], _, _ => rfl
  | v :: r, o, W => by rw [World.setCells, heap_setCells_ne b k hk r]; exact heap_setCell_other _ _ _ _ hk
theorem heap_setCells_at (b : Nat) (t : TypeId) : ∀ (vs : List Value) (o : Nat) (W : World) (pre post : List Value), pre.length = o → vs.length = post.length →
    W.heap[b]? = some (.cells (pre ++ post).toArray t (0, 0)) → (W.setCells b o vs).heap[b]? = some (.cells (pre ++ vs).toArray t (0, 0))
  | [], o, W, pre, post, _, hl, h => by
    have : post = [] := List.eq_nil_of_length_eq_zero (by simpa using hl.symm)
    subst this
    exact h
  | v :: r, o, W, pre, [], _, hl, _ => by simp at hl
  | v :: r, o, W, pre, p :: post, ho, hl, h => by
    rw [World.setCells]
    have h1 : (W.setCell ⟨b, o, none⟩ v).heap[b]? = some (.cells ((pre ++ [v]) ++ post).toArray t (0, 0)) := by
      rw [heap_setCell_same W b o _ t v h]
      subst ho
      simp
    have := heap_setCells_at b t r (o + 1) _ (pre ++ [v]) post (by simp [ho]) (by simpa using hl) h1
    simpa using this
theorem row_stored {W : World} {b : Nat} {C : Array Value} {t : TypeId} (h : W.heap[b]? = some (.cells C t (0, 0))) (D : Array Value) (hd : D.size = C.size) :
    (W.setCells b 0 D.toList).heap[b]? = some (.cells D t (0, 0)) := by
  have := heap_setCells_at b t D.toList 0 W [] C.toList rfl (by simpa using hd) (by simpa using h)
  simpa using this
end Go.Proofs.YtoldfepeldbcpaaDoor
