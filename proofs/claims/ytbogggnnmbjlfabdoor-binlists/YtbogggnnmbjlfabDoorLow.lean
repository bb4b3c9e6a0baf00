/- Plain lemmas of lists of values, and of two boxes. -/
import Derived.Test.YtbogggnnmbjlfabDoorCount
import Derived.Lib.Strings
import Derived.Lib.Bytealg
import Derived.Deep.RegionWith
namespace Go.Proofs.YtbogggnnmbjlfabDoor
open Go.RowKit
open Vl (V)
/-- how a list of values lies, whatever its slice -/
def LiesL (w : World) (H : Nat) (ao : Option Addr) (l : List V) : Prop := l.length ≤ maxLen ∧ (0 < l.length → ∃ g o, ao = some ⟨g, o, none⟩ ∧ g < H ∧ RepL w H g o l)
def LiesF (w : World) (H : Nat) (ao : Option Addr) (l : List (ByteArray × V)) : Prop := l.length ≤ maxLen ∧ (0 < l.length → ∃ g o, ao = some ⟨g, o, none⟩ ∧ g < H ∧ RepF w H g o l)
namespace Vl
theorem count_memL {k : Nat} {b : Bool} {n : Int} {s : ByteArray} {l : List V} {f : List (ByteArray × V)} {x : V} (h : x ∈ l) : count x < count ⟨k, b, n, s, l, f⟩ := by
  obtain ⟨j, h⟩ := List.mem_iff_getElem?.1 h
  exact count_partL h
theorem count_memF {k : Nat} {b : Bool} {n : Int} {s : ByteArray} {l : List V} {f : List (ByteArray × V)} {x : ByteArray × V} (h : x ∈ f) : count x.2 < count ⟨k, b, n, s, l, f⟩ := by
  obtain ⟨j, h⟩ := List.mem_iff_getElem?.1 h
  exact count_partF (m := x.1) h
end Vl
theorem below_new2 (w : World) (o p : Obj) : Below w.heap.size w ((w.alloc o).alloc p) := (below_new w o).trans ((below_new _ p).mono (by simp))
theorem LiesL.stays {w w' : World} {H K : Nat} {ao : Option Addr} {l : List V} (h : LiesL w H ao l) (hb : Below H w w') (hK : H ≤ K) : LiesL w' K ao l :=
  ⟨h.1, fun hp => by
    obtain ⟨g, o, e, hg, hr⟩ := h.2 hp
    exact ⟨g, o, e, by omega, repL_stays hb hK hg l o hr⟩⟩
theorem LiesF.stays {w w' : World} {H K : Nat} {ao : Option Addr} {l : List (ByteArray × V)} (h : LiesF w H ao l) (hb : Below H w w') (hK : H ≤ K) : LiesF w' K ao l :=
  ⟨h.1, fun hp => by
    obtain ⟨g, o, e, hg, hr⟩ := h.2 hp
    exact ⟨g, o, e, by omega, repF_stays hb hK hg l o hr⟩⟩
namespace Vl
def same1 (a b : ByteArray × V) : Bool := decide (a.1 = b.1) && same a.2 b.2
theorem toList_ne {m p : ByteArray} (h : ¬ m = p) : ¬ m.toList = p.toList := fun e => h (by
  rw [Go.ByteArray.toList_eq, Go.ByteArray.toList_eq] at e
  exact Go.WideShapes.bytes_inj e)
theorem sameL_no : ∀ (l r : List V) (j : Nat) (x y : V), l[j]? = some x → r[j]? = some y → same x y = false → sameL l r = false
  | [], _, _, _, _, h, _, _ => by simp at h
  | _ :: _, [], _, _, _, _, h, _ => by simp at h
  | x :: l, y :: r, 0, x', y', h1, h2, h3 => by
    simp only [List.getElem?_cons_zero, Option.some.injEq] at h1 h2
    subst h1; subst h2
    rw [sameL, h3, Bool.false_and]
  | x :: l, y :: r, j + 1, x', y', h1, h2, h3 => by
    rw [sameL, sameL_no l r j x' y' (by simpa using h1) (by simpa using h2) h3, Bool.and_false]
theorem sameL_len : ∀ (l r : List V), l.length ≠ r.length → sameL l r = false
  | [], [], h => by simp at h
  | [], y :: r, _ => by rw [sameL]
  | x :: l, [], _ => by rw [sameL]
  | x :: l, y :: r, h => by rw [sameL, sameL_len l r (by simpa using h), Bool.and_false]
theorem sameL_all : ∀ (l r : List V), l.length = r.length → (∀ (i : Nat) (x y : V), l[i]? = some x → r[i]? = some y → same x y = true) → sameL l r = true
  | [], [], _, _ => by rw [sameL]
  | [], y :: r, h, _ => by simp at h
  | x :: l, [], h, _ => by simp at h
  | x :: l, y :: r, h, h0 => by
    rw [sameL, h0 0 x y rfl rfl, sameL_all l r (by simpa using h) (fun i a b ha hb => h0 (i + 1) a b (by simpa using ha) (by simpa using hb))]
    rfl
theorem sameF_cons (a b : ByteArray × V) (l r : List (ByteArray × V)) : sameF (a :: l) (b :: r) = (same1 a b && sameF l r) := by
  obtain ⟨m, x⟩ := a
  obtain ⟨p, y⟩ := b
  rw [sameF, same1]
theorem sameF_no : ∀ (l r : List (ByteArray × V)) (j : Nat) (x y : ByteArray × V), l[j]? = some x → r[j]? = some y → same1 x y = false → sameF l r = false
  | [], _, _, _, _, h, _, _ => by simp at h
  | _ :: _, [], _, _, _, _, h, _ => by simp at h
  | x :: l, y :: r, 0, x', y', h1, h2, h3 => by
    simp only [List.getElem?_cons_zero, Option.some.injEq] at h1 h2
    subst h1; subst h2
    rw [sameF_cons, h3, Bool.false_and]
  | x :: l, y :: r, j + 1, x', y', h1, h2, h3 => by
    rw [sameF_cons, sameF_no l r j x' y' (by simpa using h1) (by simpa using h2) h3, Bool.and_false]
theorem sameF_len : ∀ (l r : List (ByteArray × V)), l.length ≠ r.length → sameF l r = false
  | [], [], h => by simp at h
  | [], y :: r, _ => by rw [sameF]
  | x :: l, [], _ => by rw [sameF]
  | x :: l, y :: r, h => by rw [sameF_cons, sameF_len l r (by simpa using h), Bool.and_false]
theorem sameF_all : ∀ (l r : List (ByteArray × V)), l.length = r.length → (∀ (i : Nat) (x y : ByteArray × V), l[i]? = some x → r[i]? = some y → same1 x y = true) → sameF l r = true
  | [], [], _, _ => by rw [sameF]
  | [], y :: r, h, _ => by simp at h
  | x :: l, [], h, _ => by simp at h
  | x :: l, y :: r, h, h0 => by
    rw [sameF_cons, h0 0 x y rfl rfl, sameF_all l r (by simpa using h) (fun i a b ha hb => h0 (i + 1) a b (by simpa using ha) (by simpa using hb))]
    rfl
end Vl
theorem boxA (w : World) (A B : Array Value) (t u : TypeId) (i : Nat) (v : Value) (h : A[i]? = some v) : ((w.alloc (.cells A t)).alloc (.cells B u)).cell? ⟨w.heap.size, i, none⟩ = some v := by
  have h1 : ((w.alloc (.cells A t)).alloc (.cells B u)).heap[w.heap.size]? = some (.cells A t (0, 0)) := (Below.heap_alloc _ _ _ (by simp)).trans (heap_alloc_new w _)
  rw [cell_of_row _ _ _ _ _ _ h1]; exact h
theorem boxB (w : World) (A B : Array Value) (t u : TypeId) (i : Nat) (v : Value) (h : B[i]? = some v) : ((w.alloc (.cells A t)).alloc (.cells B u)).cell? ⟨w.heap.size + 1, i, none⟩ = some v := by
  have h1 : ((w.alloc (.cells A t)).alloc (.cells B u)).heap[w.heap.size + 1]? = some (.cells B u (0, 0)) := by
    have := heap_alloc_new (w.alloc (.cells A t)) (.cells B u)
    simpa using this
  rw [cell_of_row _ _ _ _ _ _ h1]; exact h
end Go.Proofs.YtbogggnnmbjlfabDoor
