/- The law MerkleShown, walked. -/
import Derived.Test.YthheebnmdfggnaaDoorMkT
import Derived.Test.YthheebnmdfggnaaDoorMkU
import Derived.Test.YthheebnmdfggnaaDoorMkSb
namespace Go.Proofs.YthheebnmdfggnaaDoor
open Go.RowKit
attribute [local go_sem ↓] Go.wp_at_zero Go.wp_at_succ
/-- a world of a kind -/
structure WOf (C : World → Prop) where
  W : World
  h : C W
theorem wp_region_class {P : Program} {id : Nat} {Q : Exit → Act → World → Prop} {a : Act} {w : World} {l : List Oper} (C : World → Prop) (hw : C w.drew) (hm : P.follows .mixedOrders = true) (hB : Region.lexB .any l.toArray = true)
    (h : wpQuiet P l.toArray (fun w' => ∃ p : WOf C, w' = p.W) (fun a' => ∀ w', (∃ p : WOf C, w' = p.W) → Q .normal a' w') l a) : (Code.region id l.toArray true).wp P Q a w :=
  wp_region_quiet (C := fun w' => ∃ p : WOf C, w' = p.W) hm hB ⟨⟨w.drew, hw⟩, rfl⟩ (by simpa using h)
namespace Mk
theorem chainT_small (bs : List Bool) : ∀ (ps : List Bs) (t : Bs), t.length ≤ 140737488355329 → (∀ p ∈ ps, p.length = 32) → ∀ x ∈ chainT t bs ps, x.length ≤ 140737488355329 := by
  induction bs with
  | nil => intro ps t ht _ x hx; simp [chainT] at hx; subst hx; exact ht
  | cons b bs ih => intro ps t ht hp x hx; cases ps with
    | nil => simp [chainT] at hx; subst hx; exact ht
    | cons p ps =>
      simp only [chainT, List.mem_cons] at hx
      rcases hx with rfl | hx
      · exact ht
      · refine ih ps _ ?_ (fun y hy => hp y (by simp [hy])) x hx
        have h32 := hp p (by simp)
        have hs := sum_length t
        unfold jt nodeT
        split <;> simp <;> omega
theorem alike_mem (a : List Bs) : ∀ (b : List Bs) (x y : Bs), alike a b = some (x, y) → x ∈ a ∧ y ∈ b := by
  induction a with
  | nil => intro b x y h; simp [alike] at h
  | cons u a ih => intro b x y h; cases b with
    | nil => simp [alike] at h
    | cons v b =>
      simp only [alike] at h
      split at h
      · simp at h; exact ⟨by simp [h.1], by simp [h.2]⟩
      · obtain ⟨h1, h2⟩ := ih b x y h; exact ⟨by simp [h1], by simp [h2]⟩
theorem clash_small {l : List Bs} {s x : Bs} {i : Nat} {q : List Bs} {a b : Bs} (hi : l[i]? = some x) (hn : l.length ≤ 1024) (hs : s.length ≤ 140737488355328) (hx : x.length ≤ 140737488355328) (h : clashM l s x i q = some (a, b)) : a.length ≤ 140737488355329 ∧ b.length ≤ 140737488355329 := by
  unfold clashM at h
  split at h
  · rename_i hh
    simp only [Bool.and_eq_true] at hh
    obtain ⟨_, g2, _⟩ := shows_parts (List.getElem?_eq_some_iff.1 hi).1 hn hh.1
    obtain ⟨m1, m2⟩ := alike_mem _ _ _ _ h
    exact ⟨chainT_small _ _ _ (by simp [leafT]; omega) g2 _ m1, chainT_small _ _ _ (by simp [leafT]; omega) (path_32 l i) _ m2⟩
  · cases h
end Mk
/-- the tree, the path and the two of them in a row -/
structure SH (w : World) (b B g m L : Nat) (l : List (List UInt8)) (P : List (List UInt8)) (qv : Value) (W : World) : Prop where
  below : Below w.heap.size w W
  tree : Tr W b l
  base : w.heap.size ≤ b
  row : W.ownsRow B 9 1 (.slice (some ⟨g, 0, none⟩) m m) m (scs P)
  two : L = b ∨ W.heap[L]? = some (.cells #[.slice (some ⟨g, 0, none⟩) m m, qv] 22 (0, 0))
theorem SH.call {w W W' : World} {b B g m L : Nat} {l P : List (List UInt8)} {qv : Value} (h : SH w b B g m L l P qv W) (hb : Below W.heap.size W W') : SH w b B g m L l P qv W' :=
  ⟨h.below.trans (hb.mono h.below.size), h.tree.call hb, h.base, own_stays h.row hb, h.two.imp id fun e => (hb.block L (Array.getElem?_eq_some_iff.1 e).1).trans e⟩
theorem SH.gr {w W W' : World} {b B g m L : Nat} {l P : List (List UInt8)} {qv : Value} (h : SH w b B g m L l P qv W) (hT : Tr W' b l) (hg : Gr b W W') : SH w b B g m L l P qv W' := by
  refine ⟨h.below.trans (hg.below h.base h.below.size), hT, h.base, own_gr h.tree hg h.row, ?_⟩
  rcases h.two with e | e
  · exact .inl e
  · by_cases hL : L = b
    · exact .inl hL
    · exact .inr ((hg.block L (Array.getElem?_eq_some_iff.1 e).1 (fun q => hL (by injection q))).trans e)
end Go.Proofs.YthheebnmdfggnaaDoor
