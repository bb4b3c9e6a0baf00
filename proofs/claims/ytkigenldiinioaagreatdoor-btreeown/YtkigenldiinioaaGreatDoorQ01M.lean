/- Several texts, joined: SqO, Math -/
import Derived.RangeFuncNested
import Derived.RangeFuncBound
import Derived.RangeFuncCalls
import Derived.RangeFuncLeaves
import Derived.Lib.Bytealg
import Derived.Lib.Small
import GoSem.Claim
/- A loop over an iterator that has loops over iterators within itself: what the iterator promises, and the loop's law. -/
namespace Go.Proofs.YtkigenldiinioaaGreatDoor
open Go.RowKit
/-- an iterator that is asked to hand on what no turn of a loop's record fells, and whose rounds leave alone what was laid since it began and is no cells -/
def SeqO {α : Type} (F : Fence) (n : Nat) (P : Program) (g : Nat) (lb : Array Value) (enc : α → Value) (Kp : World → World → Prop) (S Sp : List α → Prop) (N : Nat) (w : World) : Prop :=
  ∀ (l : Nat) (J Jx : List α → World → Prop) (W : World), Below w.heap.size w W → OwnFrom W.heap.size J → OwnFrom W.heap.size Jx →
    (∀ pre x W1, W.heap.size ≤ W1.heap.size → J pre W1 → pre.length < N → YieldAt F (n - 1) P l #[enc x] W1 fun e W' => KeepsFrom W.heap.size W1 W' ∧
      ((e = .returned (.bool true) ∧ J (pre ++ [x]) W' ∧ Kp W1 W') ∨ (e = .returned (.bool false) ∧ Jx (pre ++ [x]) W'))) →
    J [] W →
    CallsIn F n P g (#[.func (.yield l) #[] #[]] ++ lb) W fun e W' => (∃ v, e = .returned v) ∧ ((∃ xs, S xs ∧ J xs W') ∨ (∃ pre, Sp pre ∧ Jx pre W'))
/-- the two blocks that a loop lays for itself -/
structure Books (B : Nat) (r : Loop) (W : World) : Prop where
  loop : W.heap[B + 1]? = some (.loop r)
  marks : W.heap[B]? = some (.deferred (some []))
theorem Books.lt {B : Nat} {r : Loop} {W : World} (h : Books B r W) : B + 1 < W.heap.size := (Array.getElem?_eq_some_iff.1 h.loop).1
theorem Books.kept {B : Nat} {r : Loop} {W W' : World} (h : Books B r W) (hk : KeepsFrom B W W') : Books B r W' :=
  ⟨hk.same _ _ (by omega) h.loop rfl, hk.same _ _ (Nat.le_refl _) h.marks rfl⟩
theorem Books.grown {B C : Nat} {r : Loop} {W W' : World} {row : Option Nat} (h : Books B r W) (hC : B + 2 ≤ C) (hg : W.grownBy W' row) (hr : ∀ q, row = some q → C ≤ q) : Books B r W' :=
  ⟨(hg.block _ h.lt fun e => by have := hr _ e.symm; omega).trans h.loop, (hg.block _ (by have := h.lt; omega) fun e => by have := hr _ e.symm; omega).trans h.marks⟩
theorem Books.put {B : Nat} {r : Loop} {W : World} (h : Books B r W) (r' : Loop) : Books B r' (W.putObj (B + 1) (.loop r')) :=
  ⟨World.putObj_heap_same h.lt, (World.putObj_heap_other (by omega)).trans h.marks⟩
theorem keepsFrom_put {C l : Nat} {W : World} (h : l < C) (o : Obj) : KeepsFrom C W (W.putObj l o) :=
  ⟨by simp, fun k _ hk h0 _ => (World.putObj_heap_other (by omega)).trans h0⟩
theorem keepsFrom_up {B C : Nat} {W W' : World} (h : KeepsFrom B W W') (hB : B ≤ C) : KeepsFrom C W W' := ⟨h.size, fun k o hk h0 ho => h.same k o (Nat.le_trans hB hk) h0 ho⟩
section
variable {F : Fence} {n : Nat} {P : Program}
set_option maxHeartbeats 400000 in
theorem wpIn_rangeO {α : Type} {g : Operand} {ps : Array Tmp} {assign body : Code} {Q : Exit → Act → World → Prop} {a : Act} {w : World}
    (hro : F.round = none) (h1 : 1 ≤ n) {gf : Nat} {lb : Array Value} (hg : a.eval g = .func (.func gf) #[] lb) (hFg : F.fn gf) (eg : ∀ args w, (callFunc gf args).run P w = .ok (.enter gf args) w)
    {enc : α → Value} {Kp : World → World → Prop} {S Sp : List α → Prop} {N : Nat} (hseq : SeqO F (n - 1) P gf lb enc Kp S Sp N w)
    (hKt : ∀ {A B C : World}, Kp A B → Kp B C → Kp A C) (hKb : ∀ (W : World) (l : Nat) (o o' : Obj), w.heap.size ≤ l → W.heap[l]? = some o → o.isCells = false → o.isWalk = false → Kp W (W.putObj l o')) (hps : ps.size = 1)
    (I : List α → World → Prop) (Ix : Code → List α → World → Prop) (hI : OwnFrom w.heap.size I) (hIx : ∀ c, OwnFrom w.heap.size (Ix c)) (h0 : I [] w) (a₁ : α → Act)
    (hassign : ∀ (l : Nat) (x : α) (W : World) (K : Act → World → Prop), K (a₁ x) W →
      assign.wpIn (F.inRound l) (n - 1 - 1) P (Exit.then K (fun _ _ _ => False)) { tmps := (ps.zip #[enc x]).foldl (fun t (p, v) => t.setIfInBounds p v) a.tmps, defers := [] } W)
    (hbody : ∀ (l : Nat) (pre : List α) (x : α) (W : World), w.heap.size ≤ W.heap.size → I pre W → pre.length < N → body.wpIn (F.inRound l) (n - 1 - 1) P (ownPostG w.heap.size Kp I Ix (pre ++ [x]) W) (a₁ x) W)
    (hdone : ∀ (D : Nat) (xs : List α) (W : World), w.heap.size ≤ D → S xs → I xs W → W.heap[D]? = some (.deferred (some [])) → Q .normal { a with defers := { target := .collected D, args := #[] } :: a.defers } W)
    (hstop : ∀ (D : Nat) (c : Code) (pre : List α) (W : World), w.heap.size ≤ D → Sp pre → Ix c pre W → W.heap[D]? = some (.deferred (some [])) → c.wpIn F n P Q { a with defers := { target := .collected D, args := #[] } :: a.defers } W) :
    (Code.rangeFunc g ps assign body).wpIn F n P Q a w := by
  refine wpIn_rangeFunc fun fn hfn => ?_
  rw [hro]
  obtain ⟨B, hB⟩ : ∃ B, B = w.heap.size := ⟨_, rfl⟩
  obtain ⟨R, hR⟩ : ∃ R : LoopState → Option Code → Loop, R = fun st pe => { state := st, pending := pe, fn, tmps := a.tmps, params := ps, assign, body, defers := B } := ⟨_, rfl⟩
  obtain ⟨V, hV⟩ : ∃ V, V = (w.alloc (.deferred (some []))).alloc (.loop (R .ready none)) := ⟨_, rfl⟩
  have hVs : V.heap.size = B + 2 := by rw [hV, hB]; simp
  have bV : Books B (R .ready none) V := by
    rw [hV, hB]
    refine ⟨?_, (Below.heap_alloc _ _ _ (by simp)).trans (World.alloc_heap_new w _)⟩
    have := World.alloc_heap_new (w.alloc (.deferred (some []))) (.loop (R .ready none))
    rwa [World.size_alloc] at this
  have iV : I [] V := by rw [hV]; exact hI.alloc _ (hI.alloc _ h0)
  have wV : Below w.heap.size w V := by rw [hV]; exact ((Below.refl _ w).alloc (Nat.le_refl _) _).alloc (by simp) _
  -- what the round's end does
  have fin : ∀ (j : Option Code) (X : World), Books B (R .busy none) X → (Instr.endRound (B + 1) j).run P X = .ok (.bool j.isNone) (X.putObj (B + 1) (.loop (R (if j.isNone then .ready else .done) j))) := fun j X hX => by
    have := run_endRound (P := P) j hX.loop
    rw [hR] at this ⊢
    exact this
  -- one round
  have round : ∀ pre x X, V.heap.size ≤ X.heap.size → (I pre X ∧ Books B (R .ready none) X) → pre.length < N → YieldAt F (n - 1 - 1) P (B + 1) #[enc x] X fun e Y => KeepsFrom V.heap.size X Y ∧
      ((e = .returned (.bool true) ∧ (I (pre ++ [x]) Y ∧ Books B (R .ready none) Y) ∧ Kp X Y) ∨ (e = .returned (.bool false) ∧ ∃ c, Ix c (pre ++ [x]) Y ∧ Books B (R .done (some c)) Y)) := by
    rintro pre x X hXs ⟨iX, bX⟩ hlen
    have hy := run_yield (P := P) (args := #[enc x]) bX.loop (by rw [hR]; exact hps.symm)
    rw [hR] at hy
    refine ⟨fn, _, assign, body, hy, roundIn_of_wpIn hfn (hassign _ x X _ ?_)⟩
    clear hy
    refine ⟨_, run_beginRound bX.loop (by rw [hR]), ?_⟩
    obtain ⟨Y, hY⟩ : ∃ Y, Y = X.putObj (B + 1) (.loop { R .ready none with state := .busy }) := ⟨_, rfl⟩
    have eB : ({ R .ready none with state := .busy } : Loop) = R .busy none := by rw [hR]
    have bY : Books B (R .busy none) Y := by rw [hY, eB]; exact bX.put _
    have kY : Kp X Y := by rw [hY]; exact hKb _ _ _ _ (by omega) bX.loop rfl rfl
    have fY : KeepsFrom V.heap.size X Y := by rw [hY]; exact keepsFrom_put (by omega) _
    have iY : I pre Y := by rw [hY]; exact hI.putObj _ iX (by omega) bX.loop rfl
    have sY : X.heap.size ≤ Y.heap.size := by rw [hY]; simp
    rw [← hY]
    refine wpIn_mono (hbody _ pre x Y (by omega) iY hlen) ?_
    have up : ∀ Z, KeepsFrom w.heap.size Y Z → ∀ j, Books B (R .busy none) Z ∧ KeepsFrom V.heap.size X (Z.putObj (B + 1) (.loop (R (if j.isNone then .ready else .done) j))) := fun Z hZ j =>
      ⟨bY.kept (by rw [hB]; exact hZ), (fY.trans (keepsFrom_up hZ (by omega))).trans (keepsFrom_put (by omega) _)⟩
    rintro e a3 Z hp
    cases e with
    | normal =>
      obtain ⟨k, kp, i⟩ := hp
      obtain ⟨b, f⟩ := up Z k none
      exact ⟨_, _, fin none Z b, f, .inl ⟨rfl, ⟨hI.putObj _ i (by omega) b.loop rfl, b.put _⟩, hKt (hKt kY kp) (hKb _ _ _ _ (by omega) b.loop rfl rfl)⟩⟩
    | ret =>
      obtain ⟨k, i⟩ := hp
      obtain ⟨b, f⟩ := up Z k (some .ret)
      exact ⟨_, _, fin (some .ret) Z b, f, .inr ⟨rfl, .ret, (hIx _).putObj _ i (by omega) b.loop rfl, b.put _⟩⟩
    | exit id =>
      obtain ⟨k, i⟩ := hp
      obtain ⟨b, f⟩ := up Z k (some (.exit id))
      exact ⟨_, _, fin (some (.exit id)) Z b, f, .inr ⟨rfl, .exit id, (hIx _).putObj _ i (by omega) b.loop rfl, b.put _⟩⟩
    | goto t =>
      obtain ⟨k, i⟩ := hp
      obtain ⟨b, f⟩ := up Z k (some (.goto t))
      exact ⟨_, _, fin (some (.goto t)) Z b, f, .inr ⟨rfl, .goto t, (hIx _).putObj _ i (by omega) b.loop rfl, b.put _⟩⟩
    | panic ch => exact hp.elim
    | outgrown => exact hp.elim
  have call := hseq (B + 1) (fun pre X => I pre X ∧ Books B (R .ready none) X) (fun pre X => ∃ c, Ix c pre X ∧ Books B (R .done (some c)) X) V wV
    (fun s X Y row hs hgr hr => ⟨hI s X Y row hs.1 hgr fun r e => ⟨by have := (hr r e).1; omega, (hr r e).2⟩, hs.2.grown (C := V.heap.size) (by omega) hgr fun q e => (hr q e).1⟩)
    (fun s X Y row hs hgr hr => by
      obtain ⟨c, hc, hb⟩ := hs
      exact ⟨c, hIx c s X Y row hc hgr fun r e => ⟨by have := (hr r e).1; omega, (hr r e).2⟩, hb.grown (C := V.heap.size) (by omega) hgr fun q e => (hr q e).1⟩)
    round ⟨iV, bV⟩
  refine ⟨B + 1, [{ target := .collected B, args := #[] }], V, { target := .fn (.func gf) lb, args := #[.func (.yield (B + 1)) #[] #[]] }, V, gf, #[.func (.yield (B + 1)) #[] #[]] ++ lb, V, ?_, ?_, ?_, ?_, fun _ => h1, ?_⟩
  · rw [hV, hR, hB]; exact run_enterLoop_outer _ _ _ _ _
  · simp only [resolve, hg]
    simp [go_sem]
  · intro f' hf'
    simp [Target.leads] at hf'
    subst hf'
    exact hFg
  · simp [invoke, go_sem, eg]
  · refine call.mono ?_
    rintro e X ⟨⟨v, rfl⟩, ⟨xs, hS, i, b⟩ | ⟨pre, hSp, c, i, b⟩⟩
    · refine ⟨none, _, by have := run_endLoop (P := P) b.loop (by rw [hR]; simp); rw [hR] at this; exact this, hdone _ xs _ (by omega) hS (hI.putObj _ i (by omega) b.loop rfl) ((World.putObj_heap_other (by omega)).trans b.marks)⟩
    · refine ⟨some c, _, by have := run_endLoop (P := P) b.loop (by rw [hR]; simp); rw [hR] at this; exact this, hstop _ c pre _ (by omega) hSp ((hIx c).putObj _ i (by omega) b.loop rfl) ((World.putObj_heap_other (by omega)).trans b.marks)⟩
end
end Go.Proofs.YtkigenldiinioaaGreatDoor
/- Plain mathematics of values: how many there are in one, how two are held against each other, whether they are the same; nothing of the program is in it. -/
namespace Go.Proofs.YtkigenldiinioaaGreatDoor.Vl
/-- a value: its kind, its bool, its number, its text, its list, its fields -/
inductive V where
  | mk (k : Nat) (b : Bool) (n : Int) (s : ByteArray) (l : List V) (f : List (ByteArray × V))
mutual
/-- how many there are in a value -/
def count : V → Nat
  | ⟨_, _, _, _, l, f⟩ => 1 + countL l + countF f
def countL : List V → Nat
  | [] => 0
  | x :: r => count x + countL r
def countF : List (ByteArray × V) → Nat
  | [] => 0
  | (_, x) :: r => count x + countF r
end
def cmpBool (a b : Bool) : Int := if a = b then 0 else if b = true then -1 else 1
def cmpS (a b : ByteArray) : Int := Lib.compareBytes a.data.toList b.data.toList
mutual
/-- how two values are held against each other -/
def cmp : V → V → Int
  | ⟨k, b, n, s, l, f⟩, ⟨k', b', n', s', l', f'⟩ =>
    if k ≠ k' then Lib.compareInt k k'
    else if k = 1 then cmpBool b b'
    else if k = 2 then Lib.compareInt n n'
    else if k = 3 ∨ k = 4 then cmpS s s'
    else if k = 5 then cmpL l l'
    else if k = 6 then cmpF f f'
    else 0
def cmpL : List V → List V → Int
  | [], [] => 0
  | [], _ :: _ => -1
  | _ :: _, [] => 1
  | x :: r, y :: q => if cmp x y ≠ 0 then cmp x y else cmpL r q
def cmpF : List (ByteArray × V) → List (ByteArray × V) → Int
  | [], [] => 0
  | [], _ :: _ => -1
  | _ :: _, [] => 1
  | (m, x) :: r, (p, y) :: q => if cmpS m p ≠ 0 then cmpS m p else if cmp x y ≠ 0 then cmp x y else cmpF r q
end
/-! ### what lists of bytes are -/
theorem bytes_refl : ∀ a : List UInt8, Lib.compareBytes a a = 0
  | [] => rfl
  | x :: r => by
    have h : ¬ x < x := UInt8.lt_irrefl x
    rw [Lib.compareBytes, if_neg h, if_neg h, bytes_refl r]
theorem bytes_turn : ∀ a b : List UInt8, Lib.compareBytes b a = - Lib.compareBytes a b
  | [], [] => rfl
  | [], _ :: _ => rfl
  | _ :: _, [] => rfl
  | x :: r, y :: q => by
    rw [Lib.compareBytes, Lib.compareBytes]
    by_cases h1 : x < y
    · have h2 : ¬ y < x := UInt8.lt_asymm h1
      rw [if_neg h2, if_pos h1, if_pos h1]; rfl
    · by_cases h2 : y < x
      · rw [if_pos h2, if_neg h1, if_pos h2]
      · rw [if_neg h2, if_neg h1, if_neg h1, if_neg h2, bytes_turn r q]
theorem bytes_zero : ∀ a b : List UInt8, Lib.compareBytes a b = 0 → a = b
  | [], [], _ => rfl
  | [], _ :: _, h => by simp [Lib.compareBytes] at h
  | _ :: _, [], h => by simp [Lib.compareBytes] at h
  | x :: r, y :: q, h => by
    rw [Lib.compareBytes] at h
    by_cases h1 : x < y
    · rw [if_pos h1] at h; cases h
    · by_cases h2 : y < x
      · rw [if_neg h1, if_pos h2] at h; cases h
      · rw [if_neg h1, if_neg h2] at h
        have e : x = y := UInt8.le_antisymm (UInt8.not_lt.1 h2) (UInt8.not_lt.1 h1)
        rw [e, bytes_zero r q h]
/-- of three in a row -/
def Tri (x y z : Int) : Prop := x ≤ 0 → y ≤ 0 → z ≤ 0 ∧ (z = 0 → x = 0 ∧ y = 0)
theorem tri_int (a b c : Int) : Tri (Lib.compareInt a b) (Lib.compareInt b c) (Lib.compareInt a c) := by
  unfold Tri Lib.compareInt
  intro h1 h2
  split at h1 <;> split at h2 <;> (repeat' split) <;> first | (refine ⟨by omega, fun h => ?_⟩; omega) | (exfalso; omega)
theorem int_turn (a b : Int) : Lib.compareInt b a = - Lib.compareInt a b := by
  unfold Lib.compareInt
  (repeat' split) <;> omega
theorem int_zero (a b : Int) (h : Lib.compareInt a b = 0) : a = b := by
  unfold Lib.compareInt at h
  split at h
  · cases h
  · split at h
    · cases h
    · omega
theorem int_refl (a : Int) : Lib.compareInt a a = 0 := by
  unfold Lib.compareInt
  (repeat' split) <;> omega
/-- of three in a row, told by the first two that are unlike -/
theorem tri_lex {x y z X Y Z : Int} (h : Tri x y z) (h' : Tri X Y Z) : Tri (if x ≠ 0 then x else X) (if y ≠ 0 then y else Y) (if z ≠ 0 then z else Z) := by
  intro h1 h2
  have hx : x ≤ 0 := by
    by_cases e : x = 0
    · omega
    · rw [if_pos e] at h1; exact h1
  have hy : y ≤ 0 := by
    by_cases e : y = 0
    · omega
    · rw [if_pos e] at h2; exact h2
  obtain ⟨hz, hz0⟩ := h hx hy
  by_cases e : z = 0
  · obtain ⟨ex, ey⟩ := hz0 e
    simp only [ex, ey, e, ne_eq, not_true_eq_false, if_false] at h1 h2 ⊢
    exact h' h1 h2
  · rw [if_pos e]
    exact ⟨hz, fun h0 => absurd h0 e⟩
theorem byte_cmp (x y : UInt8) (R : Int) : (if x < y then (-1 : Int) else if y < x then 1 else R) = if Lib.compareInt x.toNat y.toNat ≠ 0 then Lib.compareInt x.toNat y.toNat else R := by
  unfold Lib.compareInt
  by_cases h1 : x < y
  · have h3 : x.toNat < y.toNat := h1
    simp [h1, h3]
  · by_cases h2 : y < x
    · have h3 : y.toNat < x.toNat := h2
      have h4 : ¬ x.toNat < y.toNat := by omega
      simp [h1, h2, h3, h4]
    · have h3 : ¬ y.toNat < x.toNat := h2
      have h4 : ¬ x.toNat < y.toNat := h1
      simp [h1, h2, h3, h4]
theorem tri_bytes : ∀ a b c : List UInt8, Tri (Lib.compareBytes a b) (Lib.compareBytes b c) (Lib.compareBytes a c)
  | [], [], [] => by simp [Lib.compareBytes, Tri]
  | [], [], _ :: _ => by simp [Lib.compareBytes, Tri]
  | [], _ :: _, [] => by simp [Lib.compareBytes, Tri]
  | [], _ :: _, _ :: _ => by simp [Lib.compareBytes, Tri]
  | _ :: _, [], [] => by simp [Lib.compareBytes, Tri]
  | _ :: _, [], _ :: _ => by simp [Lib.compareBytes, Tri]
  | _ :: _, _ :: _, [] => by simp [Lib.compareBytes, Tri]
  | x :: r, y :: q, z :: t => by
    rw [Lib.compareBytes, Lib.compareBytes, Lib.compareBytes, byte_cmp, byte_cmp, byte_cmp]
    exact tri_lex (tri_int _ _ _) (tri_bytes r q t)
theorem cmpS_refl (a : ByteArray) : cmpS a a = 0 := bytes_refl _
theorem cmpS_turn (a b : ByteArray) : cmpS b a = - cmpS a b := bytes_turn _ _
theorem cmpS_zero {a b : ByteArray} (h : cmpS a b = 0) : a = b := by
  have := bytes_zero _ _ h
  apply ByteArray.ext
  exact Array.toList_inj.1 this
theorem tri_S (a b c : ByteArray) : Tri (cmpS a b) (cmpS b c) (cmpS a c) := tri_bytes _ _ _
theorem tri_bool (a b c : Bool) : Tri (cmpBool a b) (cmpBool b c) (cmpBool a c) := by
  cases a <;> cases b <;> cases c <;> simp [cmpBool, Tri]
theorem bool_turn (a b : Bool) : cmpBool b a = - cmpBool a b := by cases a <;> cases b <;> simp [cmpBool]
theorem bool_zero {a b : Bool} (h : cmpBool a b = 0) : a = b := by cases a <;> cases b <;> simp [cmpBool] at h ⊢
theorem lex_turn (x X : Int) : (if -x ≠ 0 then -x else -X) = - (if x ≠ 0 then x else X) := by
  by_cases h : x = 0
  · simp [h]
  · have : - x ≠ 0 := by omega
    simp [h]
mutual
theorem cmp_refl : ∀ a : V, cmp a a = 0
  | ⟨k, b, n, s, l, f⟩ => by
    rw [cmp, cmpS_refl, cmpL_refl l, cmpF_refl f]
    simp [cmpBool, int_refl]
theorem cmpL_refl : ∀ l : List V, cmpL l l = 0
  | [] => rfl
  | x :: r => by rw [cmpL, cmp_refl x, cmpL_refl r]; rfl
theorem cmpF_refl : ∀ l : List (ByteArray × V), cmpF l l = 0
  | [] => rfl
  | (m, x) :: r => by rw [cmpF, cmp_refl x, cmpF_refl r, cmpS_refl]; rfl
end
mutual
theorem cmp_turn : ∀ a b : V, cmp b a = - cmp a b
  | ⟨k, b, n, s, l, f⟩, ⟨k', b', n', s', l', f'⟩ => by
    rw [cmp, cmp]
    by_cases hk : k = k'
    · subst hk
      rw [bool_turn b b', int_turn n n', cmpS_turn s s', cmpL_turn l l', cmpF_turn f f']
      (repeat' split) <;> simp_all
    · have hk' : k' ≠ k := fun h => hk h.symm
      rw [if_pos hk, if_pos hk', int_turn]
theorem cmpL_turn : ∀ a b : List V, cmpL b a = - cmpL a b
  | [], [] => rfl
  | [], _ :: _ => rfl
  | _ :: _, [] => rfl
  | x :: r, y :: q => by rw [cmpL, cmpL, cmp_turn x y, cmpL_turn r q]; exact lex_turn _ _
theorem cmpF_turn : ∀ a b : List (ByteArray × V), cmpF b a = - cmpF a b
  | [], [] => rfl
  | [], _ :: _ => rfl
  | _ :: _, [] => rfl
  | (m, x) :: r, (p, y) :: q => by rw [cmpF, cmpF, cmpS_turn m p, cmp_turn x y, cmpF_turn r q, lex_turn]; exact lex_turn _ _
end
mutual
theorem tri_cmp : ∀ a b c : V, Tri (cmp a b) (cmp b c) (cmp a c)
  | ⟨k, b, n, s, l, f⟩, ⟨k', b', n', s', l', f'⟩, ⟨k2, b2, n2, s2, l2, f2⟩ => by
    have h1 := tri_int k k' k2
    have hb := tri_bool b b' b2
    have hn := tri_int n n' n2
    have hs := tri_S s s' s2
    have hl := tri_L l l' l2
    have hf := tri_F f f' f2
    rw [cmp, cmp, cmp]
    by_cases e1 : k = k'
    · subst e1
      by_cases e2 : k = k2
      · subst e2
        simp only [ne_eq, not_true_eq_false, if_false]
        (repeat' split) <;> first | assumption | simp [Tri]
      · simp only [ne_eq, e2, not_false_eq_true, if_true, not_true_eq_false, if_false]
        intro h2 h3
        refine ⟨h3, fun h => ?_⟩
        exact absurd (int_zero _ _ h) (by omega)
    · by_cases e2 : k' = k2
      · subst e2
        simp only [ne_eq, e1, not_false_eq_true, if_true, not_true_eq_false, if_false]
        intro h2 h3
        refine ⟨h2, fun h => ?_⟩
        exact absurd (int_zero _ _ h) (by omega)
      · by_cases e3 : k = k2
        · subst e3
          simp only [ne_eq, e1, e2, not_false_eq_true, if_true]
          intro h2 h3
          have h4 := h1 h2 h3
          rw [int_refl] at h4
          have := (h4.2 rfl).1
          exact absurd (int_zero _ _ this) (by omega)
        · simp only [ne_eq, e1, e2, e3, not_false_eq_true, if_true]
          exact h1
theorem tri_L : ∀ a b c : List V, Tri (cmpL a b) (cmpL b c) (cmpL a c)
  | [], [], [] => by simp [cmpL, Tri]
  | [], [], _ :: _ => by simp [cmpL, Tri]
  | [], _ :: _, [] => by simp [cmpL, Tri]
  | [], _ :: _, _ :: _ => by simp [cmpL, Tri]
  | _ :: _, [], [] => by simp [cmpL, Tri]
  | _ :: _, [], _ :: _ => by simp [cmpL, Tri]
  | _ :: _, _ :: _, [] => by simp [cmpL, Tri]
  | x :: r, y :: q, z :: t => by
    rw [cmpL, cmpL, cmpL]
    exact tri_lex (tri_cmp x y z) (tri_L r q t)
theorem tri_F : ∀ a b c : List (ByteArray × V), Tri (cmpF a b) (cmpF b c) (cmpF a c)
  | [], [], [] => by simp [cmpF, Tri]
  | [], [], _ :: _ => by simp [cmpF, Tri]
  | [], _ :: _, [] => by simp [cmpF, Tri]
  | [], _ :: _, _ :: _ => by simp [cmpF, Tri]
  | _ :: _, [], [] => by simp [cmpF, Tri]
  | _ :: _, [], _ :: _ => by simp [cmpF, Tri]
  | _ :: _, _ :: _, [] => by simp [cmpF, Tri]
  | (m, x) :: r, (p, y) :: q, (o, z) :: t => by
    rw [cmpF, cmpF, cmpF]
    exact tri_lex (tri_S m p o) (tri_lex (tri_cmp x y z) (tri_F r q t))
end
mutual
/-- whether two values are the same -/
def same : V → V → Bool
  | ⟨k, b, n, s, l, f⟩, ⟨k', b', n', s', l', f'⟩ => decide (k = k') && decide (b = b') && decide (n = n') && decide (s = s') && sameL l l' && sameF f f'
def sameL : List V → List V → Bool
  | [], [] => true
  | [], _ :: _ => false
  | _ :: _, [] => false
  | x :: r, y :: q => same x y && sameL r q
def sameF : List (ByteArray × V) → List (ByteArray × V) → Bool
  | [], [] => true
  | [], _ :: _ => false
  | _ :: _, [] => false
  | (m, x) :: r, (p, y) :: q => decide (m = p) && same x y && sameF r q
end
mutual
theorem same_refl : ∀ a : V, same a a = true
  | ⟨k, b, n, s, l, f⟩ => by rw [same, sameL_refl l, sameF_refl f]; simp
theorem sameL_refl : ∀ a : List V, sameL a a = true
  | [] => rfl
  | x :: r => by rw [sameL, same_refl x, sameL_refl r]; rfl
theorem sameF_refl : ∀ a : List (ByteArray × V), sameF a a = true
  | [] => rfl
  | (m, x) :: r => by rw [sameF, same_refl x, sameF_refl r]; simp
end
mutual
theorem same_eq : ∀ a b : V, same a b = true → a = b
  | ⟨k, b, n, s, l, f⟩, ⟨k', b', n', s', l', f'⟩, h => by
    rw [same] at h
    simp only [Bool.and_eq_true, decide_eq_true_eq] at h
    obtain ⟨⟨⟨⟨⟨h1, h2⟩, h3⟩, h4⟩, h5⟩, h6⟩ := h
    rw [h1, h2, h3, h4, sameL_eq l l' h5, sameF_eq f f' h6]
theorem sameL_eq : ∀ a b : List V, sameL a b = true → a = b
  | [], [], _ => rfl
  | [], _ :: _, h => by cases h
  | _ :: _, [], h => by cases h
  | x :: r, y :: q, h => by
    rw [sameL, Bool.and_eq_true] at h
    rw [same_eq x y h.1, sameL_eq r q h.2]
theorem sameF_eq : ∀ a b : List (ByteArray × V), sameF a b = true → a = b
  | [], [], _ => rfl
  | [], _ :: _, h => by cases h
  | _ :: _, [], h => by cases h
  | (m, x) :: r, (p, y) :: q, h => by
    rw [sameF] at h
    simp only [Bool.and_eq_true, decide_eq_true_eq] at h
    rw [h.1.1, same_eq x y h.1.2, sameF_eq r q h.2]
end
section
variable (utf : ByteArray → Bool)
/-- whether a field that the kind has not is not zero -/
def strange : V → Bool
  | ⟨k, b, n, s, l, f⟩ => (b && decide (k ≠ 1)) || (decide (n ≠ 0) && decide (k ≠ 2)) || (decide (s.size ≠ 0) && decide (k ≠ 3) && decide (k ≠ 4)) || (decide (0 < l.length) && decide (k ≠ 5)) || (decide (0 < f.length) && decide (k ≠ 6))
/-- the error of a value whose parts are not looked at -/
def alone (d : Nat) : V → Nat
  | ⟨k, b, n, s, l, f⟩ =>
    if 7 ≤ k ∨ strange ⟨k, b, n, s, l, f⟩ = true then 5
    else if 1024 < s.size then 4
    else if k = 3 ∧ utf s = false then 9
    else if 64 < l.length ∨ 64 < f.length then 3
    else if (k = 5 ∨ k = 6) ∧ 6 ≤ d then 10
    else 0
/-- the error of a name -/
def nameErr (m : ByteArray) : Nat := if m.size = 0 ∨ 1024 < m.size then 4 else if utf m = false then 9 else 0
/-- whether a name is not above the one ahead of it -/
def notUp (m : ByteArray) : Option ByteArray → Bool
  | none => false
  | some p => decide (cmpS m p ≤ 0)
mutual
/-- why a value is not right that has so many around it -/
def check (d : Nat) : V → Nat
  | ⟨k, b, n, s, l, f⟩ =>
    if alone utf d ⟨k, b, n, s, l, f⟩ ≠ 0 then alone utf d ⟨k, b, n, s, l, f⟩
    else if checkL (d + 1) l ≠ 0 then checkL (d + 1) l
    else checkF (d + 1) none f
def checkL (d : Nat) : List V → Nat
  | [] => 0
  | x :: r => if check d x ≠ 0 then check d x else checkL d r
def checkF (d : Nat) (prev : Option ByteArray) : List (ByteArray × V) → Nat
  | [] => 0
  | (m, x) :: r =>
    if nameErr utf m ≠ 0 then nameErr utf m
    else if notUp m prev = true then 18
    else if check d x ≠ 0 then check d x
    else checkF d (some m) r
end
theorem size_zero {s : ByteArray} (h : s.size = 0) : s = ⟨#[]⟩ := by
  apply ByteArray.ext
  exact Array.eq_empty_of_size_eq_zero h
/-- what a right value has -/
theorem right_form {d : Nat} {k : Nat} {b : Bool} {n : Int} {s : ByteArray} {l : List V} {f : List (ByteArray × V)} (h : check utf d ⟨k, b, n, s, l, f⟩ = 0) :
    k < 7 ∧ (k ≠ 1 → b = false) ∧ (k ≠ 2 → n = 0) ∧ (k ≠ 3 → k ≠ 4 → s = ⟨#[]⟩) ∧ (k ≠ 5 → l = []) ∧ (k ≠ 6 → f = []) ∧ checkL utf (d + 1) l = 0 ∧ checkF utf (d + 1) none f = 0 := by
  rw [check] at h
  by_cases h1 : alone utf d ⟨k, b, n, s, l, f⟩ = 0
  · rw [if_neg (by simpa using h1)] at h
    by_cases h2 : checkL utf (d + 1) l = 0
    · rw [if_neg (by simpa using h2)] at h
      rw [alone] at h1
      by_cases h3 : 7 ≤ k ∨ strange ⟨k, b, n, s, l, f⟩ = true
      · rw [if_pos h3] at h1; cases h1
      · rw [not_or] at h3
        have h4 := h3.2
        simp only [strange, Bool.or_eq_true, Bool.and_eq_true, decide_eq_true_eq, not_or, not_and, ne_eq, Decidable.not_not] at h4
        obtain ⟨⟨⟨⟨a1, a2⟩, a3⟩, a4⟩, a5⟩ := h4
        refine ⟨by omega, fun hk => ?_, fun hk => ?_, fun hk hk' => ?_, fun hk => ?_, fun hk => ?_, h2, h⟩
        · cases b
          · rfl
          · exact absurd (a1 rfl) hk
        · exact Decidable.byContradiction fun hn => hk (a2 hn)
        · exact size_zero (Decidable.byContradiction fun hn => hk' (a3 ⟨hn, hk⟩))
        · cases l
          · rfl
          · exact absurd (a4 (by simp)) hk
        · cases f
          · rfl
          · exact absurd (a5 (by simp)) hk
    · rw [if_pos h2] at h; exact absurd h h2
  · rw [if_pos h1] at h; exact absurd h h1
mutual
/-- right values between which there is no order are the same -/
theorem cmp_same : ∀ (a b : V) (d e : Nat), check utf d a = 0 → check utf e b = 0 → cmp a b = 0 → a = b
  | ⟨k, b, n, s, l, f⟩, ⟨k', b', n', s', l', f'⟩, d, e, ha, hb, h => by
    obtain ⟨a1, a2, a3, a4, a5, a6, a7, a8⟩ := right_form utf ha
    obtain ⟨b1, b2, b3, b4, b5, b6, b7, b8⟩ := right_form utf hb
    rw [cmp] at h
    by_cases hk : k = k'
    · subst hk
      simp only [ne_eq, not_true_eq_false, if_false] at h
      have e1 : b = b' := by
        by_cases c : k = 1
        · rw [if_pos c] at h; exact bool_zero h
        · rw [a2 c, b2 c]
      have e2 : n = n' := by
        by_cases c : k = 2
        · rw [if_neg (by omega), if_pos c] at h; exact int_zero _ _ h
        · rw [a3 c, b3 c]
      have e3 : s = s' := by
        by_cases c : k = 3 ∨ k = 4
        · rw [if_neg (by omega), if_neg (by omega), if_pos c] at h; exact cmpS_zero h
        · rw [not_or] at c; rw [a4 c.1 c.2, b4 c.1 c.2]
      have e4 : l = l' := by
        by_cases c : k = 5
        · rw [if_neg (by omega), if_neg (by omega), if_neg (by omega), if_pos c] at h; exact cmpL_same l l' _ _ a7 b7 h
        · rw [a5 c, b5 c]
      have e5 : f = f' := by
        by_cases c : k = 6
        · rw [if_neg (by omega), if_neg (by omega), if_neg (by omega), if_neg (by omega), if_pos c] at h; exact cmpF_same f f' _ _ _ _ a8 b8 h
        · rw [a6 c, b6 c]
      rw [e1, e2, e3, e4, e5]
    · rw [if_pos hk] at h
      exact absurd (int_zero _ _ h) (by omega)
theorem cmpL_same : ∀ (a b : List V) (d e : Nat), checkL utf d a = 0 → checkL utf e b = 0 → cmpL a b = 0 → a = b
  | [], [], _, _, _, _, _ => rfl
  | [], _ :: _, _, _, _, _, h => by simp [cmpL] at h
  | _ :: _, [], _, _, _, _, h => by simp [cmpL] at h
  | x :: r, y :: q, d, e, ha, hb, h => by
    rw [checkL] at ha hb
    rw [cmpL] at h
    by_cases c1 : check utf d x = 0
    · by_cases c2 : check utf e y = 0
      · by_cases c3 : cmp x y = 0
        · simp only [c1, c2, c3, ne_eq, not_true_eq_false, if_false] at ha hb h
          rw [cmp_same x y d e c1 c2 c3, cmpL_same r q d e ha hb h]
        · rw [if_pos c3] at h; exact absurd h c3
      · rw [if_pos c2] at hb; exact absurd hb c2
    · rw [if_pos c1] at ha; exact absurd ha c1
theorem cmpF_same : ∀ (a b : List (ByteArray × V)) (d e : Nat) (p o : Option ByteArray), checkF utf d p a = 0 → checkF utf e o b = 0 → cmpF a b = 0 → a = b
  | [], [], _, _, _, _, _, _, _ => rfl
  | [], _ :: _, _, _, _, _, _, _, h => by simp [cmpF] at h
  | _ :: _, [], _, _, _, _, _, _, h => by simp [cmpF] at h
  | (m, x) :: r, (m', y) :: q, d, e, p, o, ha, hb, h => by
    rw [checkF] at ha hb
    rw [cmpF] at h
    by_cases c0 : cmpS m m' = 0
    · by_cases c3 : cmp x y = 0
      · simp only [c0, c3, ne_eq, not_true_eq_false, if_false] at h
        have f1 : check utf d x = 0 ∧ checkF utf d (some m) r = 0 := by
          split at ha
          · contradiction
          · split at ha
            · cases ha
            · split at ha
              · contradiction
              · rename_i c; exact ⟨by simpa using c, ha⟩
        have f2 : check utf e y = 0 ∧ checkF utf e (some m') q = 0 := by
          split at hb
          · contradiction
          · split at hb
            · cases hb
            · split at hb
              · contradiction
              · rename_i c; exact ⟨by simpa using c, hb⟩
        rw [cmpS_zero c0, cmp_same x y d e f1.1 f2.1 c3, cmpF_same r q d e _ _ f1.2 f2.2 h]
      · simp only [c0, c3, ne_eq, not_true_eq_false, not_false_eq_true, if_false, if_true] at h
    · rw [if_pos c0] at h; exact absurd h c0
end
end
end Go.Proofs.YtkigenldiinioaaGreatDoor.Vl
