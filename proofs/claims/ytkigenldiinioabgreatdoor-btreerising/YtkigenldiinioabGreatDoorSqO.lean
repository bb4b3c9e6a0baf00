/- A loop over an iterator that has loops over iterators within itself: what the iterator promises, and the loop's law. -/
import Derived.RangeFuncNested
import Derived.RangeFuncBound
import Derived.RangeFuncCalls
import Derived.RangeFuncLeaves
namespace Go.Proofs.YtkigenldiinioabGreatDoor
open Go.RowKit
/-- an iterator that is asked to hand on what no turn of a loop's record fells, and whose rounds leave alone what was laid since it began and is no cells -/
def SeqO {α : Type} (F : Fence) (n : Nat) (P : Program) (g : Nat) (lb : Array Value) (enc : α → Value) (Kp : World → World → Prop) (S Sp : List α → Prop) (N : Nat) (w : World) : Prop :=
  ∀ (l : Nat) (J Jx : List α → World → Prop) (W : World), Below w.heap.size w W → OwnFrom W.heap.size J → OwnFrom W.heap.size Jx →
    (∀ pre x W1, W.heap.size ≤ W1.heap.size → J pre W1 → pre.length < N → YieldAt F (n - 1) P l #[enc x] W1 fun e W' => KeepsFrom W.heap.size W1 W' ∧
      ((e = .returned (.bool true) ∧ J (pre ++ [x]) W' ∧ Kp W1 W') ∨ (e = .returned (.bool false) ∧ Jx (pre ++ [x]) W'))) →
    J [] W →
    CallsIn F n P g (#[.func (.yield l) #[] #[]] ++ lb) W fun e W' => (∃ v, e = .returned v) ∧ ((∃ xs, S xs ∧ J xs W') ∨ (∃ pre, Sp pre ∧ Jx pre W'))
/-- the two blocks that a loop lays for itself -/
structure Books (B : Nat) (r : Loop) (W : World) : Prop where
  loop : W.heap[B + 1]? = some (.loop r)
  marks : W.heap[B]? = some (.deferred (some []))
theorem Books.lt {B : Nat} {r : Loop} {W : World} (h : Books B r W) : B + 1 < W.heap.size := (Array.getElem?_eq_some_iff.1 h.loop).1
theorem Books.kept {B : Nat} {r : Loop} {W W' : World} (h : Books B r W) (hk : KeepsFrom B W W') : Books B r W' :=
  ⟨hk.same _ _ (by omega) h.loop rfl, hk.same _ _ (Nat.le_refl _) h.marks rfl⟩
theorem Books.grown {B C : Nat} {r : Loop} {W W' : World} {row : Option Nat} (h : Books B r W) (hC : B + 2 ≤ C) (hg : W.grownBy W' row) (hr : ∀ q, row = some q → C ≤ q) : Books B r W' :=
  ⟨(hg.block _ h.lt fun e => by have := hr _ e.symm; omega).trans h.loop, (hg.block _ (by have := h.lt; omega) fun e => by have := hr _ e.symm; omega).trans h.marks⟩
theorem Books.put {B : Nat} {r : Loop} {W : World} (h : Books B r W) (r' : Loop) : Books B r' (W.putObj (B + 1) (.loop r')) :=
  ⟨World.putObj_heap_same h.lt, (World.putObj_heap_other (by omega)).trans h.marks⟩
theorem keepsFrom_put {C l : Nat} {W : World} (h : l < C) (o : Obj) : KeepsFrom C W (W.putObj l o) :=
  ⟨by simp, fun k _ hk h0 _ => (World.putObj_heap_other (by omega)).trans h0⟩
theorem keepsFrom_up {B C : Nat} {W W' : World} (h : KeepsFrom B W W') (hB : B ≤ C) : KeepsFrom C W W' := ⟨h.size, fun k o hk h0 ho => h.same k o (Nat.le_trans hB hk) h0 ho⟩
section
variable {F : Fence} {n : Nat} {P : Program}
set_option maxHeartbeats 400000 in
theorem wpIn_rangeO {α : Type} {g : Operand} {ps : Array Tmp} {assign body : Code} {Q : Exit → Act → World → Prop} {a : Act} {w : World}
    (hro : F.round = none) (h1 : 1 ≤ n) {gf : Nat} {lb : Array Value} (hg : a.eval g = .func (.func gf) #[] lb) (hFg : F.fn gf) (eg : ∀ args w, (callFunc gf args).run P w = .ok (.enter gf args) w)
    {enc : α → Value} {Kp : World → World → Prop} {S Sp : List α → Prop} {N : Nat} (hseq : SeqO F (n - 1) P gf lb enc Kp S Sp N w)
    (hKt : ∀ {A B C : World}, Kp A B → Kp B C → Kp A C) (hKb : ∀ (W : World) (l : Nat) (o o' : Obj), w.heap.size ≤ l → W.heap[l]? = some o → o.isCells = false → o.isWalk = false → Kp W (W.putObj l o')) (hps : ps.size = 1)
    (I : List α → World → Prop) (Ix : Code → List α → World → Prop) (hI : OwnFrom w.heap.size I) (hIx : ∀ c, OwnFrom w.heap.size (Ix c)) (h0 : I [] w) (a₁ : α → Act)
    (hassign : ∀ (l : Nat) (x : α) (W : World) (K : Act → World → Prop), K (a₁ x) W →
      assign.wpIn (F.inRound l) (n - 1 - 1) P (Exit.then K (fun _ _ _ => False)) { tmps := (ps.zip #[enc x]).foldl (fun t (p, v) => t.setIfInBounds p v) a.tmps, defers := [] } W)
    (hbody : ∀ (l : Nat) (pre : List α) (x : α) (W : World), w.heap.size ≤ W.heap.size → I pre W → pre.length < N → body.wpIn (F.inRound l) (n - 1 - 1) P (ownPostG w.heap.size Kp I Ix (pre ++ [x]) W) (a₁ x) W)
    (hdone : ∀ (D : Nat) (xs : List α) (W : World), w.heap.size ≤ D → S xs → I xs W → W.heap[D]? = some (.deferred (some [])) → Q .normal { a with defers := { target := .collected D, args := #[] } :: a.defers } W)
    (hstop : ∀ (D : Nat) (c : Code) (pre : List α) (W : World), w.heap.size ≤ D → Sp pre → Ix c pre W → W.heap[D]? = some (.deferred (some [])) → c.wpIn F n P Q { a with defers := { target := .collected D, args := #[] } :: a.defers } W) :
    (Code.rangeFunc g ps assign body).wpIn F n P Q a w := by
  refine wpIn_rangeFunc fun fn hfn => ?_
  rw [hro]
  obtain ⟨B, hB⟩ : ∃ B, B = w.heap.size := ⟨_, rfl⟩
  obtain ⟨R, hR⟩ : ∃ R : LoopState → Option Code → Loop, R = fun st pe => { state := st, pending := pe, fn, tmps := a.tmps, params := ps, assign, body, defers := B } := ⟨_, rfl⟩
  obtain ⟨V, hV⟩ : ∃ V, V = (w.alloc (.deferred (some []))).alloc (.loop (R .ready none)) := ⟨_, rfl⟩
  have hVs : V.heap.size = B + 2 := by rw [hV, hB]; simp
  have bV : Books B (R .ready none) V := by
    rw [hV, hB]
    refine ⟨?_, (Below.heap_alloc _ _ _ (by simp)).trans (World.alloc_heap_new w _)⟩
    have := World.alloc_heap_new (w.alloc (.deferred (some []))) (.loop (R .ready none))
    rwa [World.size_alloc] at this
  have iV : I [] V := by rw [hV]; exact hI.alloc _ (hI.alloc _ h0)
  have wV : Below w.heap.size w V := by rw [hV]; exact ((Below.refl _ w).alloc (Nat.le_refl _) _).alloc (by simp) _
  -- what the round's end does
  have fin : ∀ (j : Option Code) (X : World), Books B (R .busy none) X → (Instr.endRound (B + 1) j).run P X = .ok (.bool j.isNone) (X.putObj (B + 1) (.loop (R (if j.isNone then .ready else .done) j))) := fun j X hX => by
    have := run_endRound (P := P) j hX.loop
    rw [hR] at this ⊢
    exact this
  -- one round
  have round : ∀ pre x X, V.heap.size ≤ X.heap.size → (I pre X ∧ Books B (R .ready none) X) → pre.length < N → YieldAt F (n - 1 - 1) P (B + 1) #[enc x] X fun e Y => KeepsFrom V.heap.size X Y ∧
      ((e = .returned (.bool true) ∧ (I (pre ++ [x]) Y ∧ Books B (R .ready none) Y) ∧ Kp X Y) ∨ (e = .returned (.bool false) ∧ ∃ c, Ix c (pre ++ [x]) Y ∧ Books B (R .done (some c)) Y)) := by
    rintro pre x X hXs ⟨iX, bX⟩ hlen
    have hy := run_yield (P := P) (args := #[enc x]) bX.loop (by rw [hR]; exact hps.symm)
    rw [hR] at hy
    refine ⟨fn, _, assign, body, hy, roundIn_of_wpIn hfn (hassign _ x X _ ?_)⟩
    clear hy
    refine ⟨_, run_beginRound bX.loop (by rw [hR]), ?_⟩
    obtain ⟨Y, hY⟩ : ∃ Y, Y = X.putObj (B + 1) (.loop { R .ready none with state := .busy }) := ⟨_, rfl⟩
    have eB : ({ R .ready none with state := .busy } : Loop) = R .busy none := by rw [hR]
    have bY : Books B (R .busy none) Y := by rw [hY, eB]; exact bX.put _
    have kY : Kp X Y := by rw [hY]; exact hKb _ _ _ _ (by omega) bX.loop rfl rfl
    have fY : KeepsFrom V.heap.size X Y := by rw [hY]; exact keepsFrom_put (by omega) _
    have iY : I pre Y := by rw [hY]; exact hI.putObj _ iX (by omega) bX.loop rfl
    have sY : X.heap.size ≤ Y.heap.size := by rw [hY]; simp
    rw [← hY]
    refine wpIn_mono (hbody _ pre x Y (by omega) iY hlen) ?_
    have up : ∀ Z, KeepsFrom w.heap.size Y Z → ∀ j, Books B (R .busy none) Z ∧ KeepsFrom V.heap.size X (Z.putObj (B + 1) (.loop (R (if j.isNone then .ready else .done) j))) := fun Z hZ j =>
      ⟨bY.kept (by rw [hB]; exact hZ), (fY.trans (keepsFrom_up hZ (by omega))).trans (keepsFrom_put (by omega) _)⟩
    rintro e a3 Z hp
    cases e with
    | normal =>
      obtain ⟨k, kp, i⟩ := hp
      obtain ⟨b, f⟩ := up Z k none
      exact ⟨_, _, fin none Z b, f, .inl ⟨rfl, ⟨hI.putObj _ i (by omega) b.loop rfl, b.put _⟩, hKt (hKt kY kp) (hKb _ _ _ _ (by omega) b.loop rfl rfl)⟩⟩
    | ret =>
      obtain ⟨k, i⟩ := hp
      obtain ⟨b, f⟩ := up Z k (some .ret)
      exact ⟨_, _, fin (some .ret) Z b, f, .inr ⟨rfl, .ret, (hIx _).putObj _ i (by omega) b.loop rfl, b.put _⟩⟩
    | exit id =>
      obtain ⟨k, i⟩ := hp
      obtain ⟨b, f⟩ := up Z k (some (.exit id))
      exact ⟨_, _, fin (some (.exit id)) Z b, f, .inr ⟨rfl, .exit id, (hIx _).putObj _ i (by omega) b.loop rfl, b.put _⟩⟩
    | goto t =>
      obtain ⟨k, i⟩ := hp
      obtain ⟨b, f⟩ := up Z k (some (.goto t))
      exact ⟨_, _, fin (some (.goto t)) Z b, f, .inr ⟨rfl, .goto t, (hIx _).putObj _ i (by omega) b.loop rfl, b.put _⟩⟩
    | panic ch => exact hp.elim
    | outgrown => exact hp.elim
  have call := hseq (B + 1) (fun pre X => I pre X ∧ Books B (R .ready none) X) (fun pre X => ∃ c, Ix c pre X ∧ Books B (R .done (some c)) X) V wV
    (fun s X Y row hs hgr hr => ⟨hI s X Y row hs.1 hgr fun r e => ⟨by have := (hr r e).1; omega, (hr r e).2⟩, hs.2.grown (C := V.heap.size) (by omega) hgr fun q e => (hr q e).1⟩)
    (fun s X Y row hs hgr hr => by
      obtain ⟨c, hc, hb⟩ := hs
      exact ⟨c, hIx c s X Y row hc hgr fun r e => ⟨by have := (hr r e).1; omega, (hr r e).2⟩, hb.grown (C := V.heap.size) (by omega) hgr fun q e => (hr q e).1⟩)
    round ⟨iV, bV⟩
  refine ⟨B + 1, [{ target := .collected B, args := #[] }], V, { target := .fn (.func gf) lb, args := #[.func (.yield (B + 1)) #[] #[]] }, V, gf, #[.func (.yield (B + 1)) #[] #[]] ++ lb, V, ?_, ?_, ?_, ?_, fun _ => h1, ?_⟩
  · rw [hV, hR, hB]; exact run_enterLoop_outer _ _ _ _ _
  · simp only [resolve, hg]
    simp [go_sem]
  · intro f' hf'
    simp [Target.leads] at hf'
    subst hf'
    exact hFg
  · simp [invoke, go_sem, eg]
  · refine call.mono ?_
    rintro e X ⟨⟨v, rfl⟩, ⟨xs, hS, i, b⟩ | ⟨pre, hSp, c, i, b⟩⟩
    · refine ⟨none, _, by have := run_endLoop (P := P) b.loop (by rw [hR]; simp); rw [hR] at this; exact this, hdone _ xs _ (by omega) hS (hI.putObj _ i (by omega) b.loop rfl) ((World.putObj_heap_other (by omega)).trans b.marks)⟩
    · refine ⟨some c, _, by have := run_endLoop (P := P) b.loop (by rw [hR]; simp); rw [hR] at this; exact this, hstop _ c pre _ (by omega) hSp ((hIx c).putObj _ i (by omega) b.loop rfl) ((World.putObj_heap_other (by omega)).trans b.marks)⟩
end
end Go.Proofs.YtkigenldiinioabGreatDoor
