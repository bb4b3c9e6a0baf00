/- Several texts, joined: BtLz, RgInv, RgGood, RgOrd, RgPh, RgZk -/
import Derived.Test.YtkigenldiinioaaGreatDoorQ17M
import Derived.Test.YtkigenldiinioaaGreatDoorQ02M
import Derived.Orders
import Derived.Maps.AppendAt
/- A list laid as a tree: what each round leaves. -/
namespace Go.Proofs.YtkigenldiinioaaGreatDoor
open Go.RowKit
open Vl (V)
/-- what is laid -/
structure Laid (s : Nat) (l : List Nat) (t : Bt.T) (W : World) : Prop where
  nt : NT W t
  wf : Bt.wf t
  flat : Bt.flat t = l
  lev : Bt.levels t = Bt.fewest l.length
  nd : (Bt.blocks t).Nodup
  new : ∀ g ∈ Bt.blocks t, s ≤ g
theorem Laid.stays {s s' : Nat} {l : List Nat} {t : Bt.T} {W W' : World} (h : Laid s l t W) (hb : ∀ g ∈ Bt.blocks t, W'.heap[g]? = W.heap[g]?) (hs : ∀ g ∈ Bt.blocks t, s' ≤ g) : Laid s' l t W' :=
  ⟨nt_stays h.nt hb, h.wf, h.flat, h.lev, h.nd, hs⟩
/-- a node while it is laid -/
structure LL (w : World) (g : Nat) (l : List Nat) (i m : Nat) (ts : Nat → Bt.T) (sv : Value) (W : World) : Prop where
  below : Below w.heap.size w W
  gw : w.heap.size ≤ g
  node : W.heap[g]? = some (.cells #[sv, Bt.ptr (Bt.top (ts 0)), Bt.ptr (Bt.top (ts 1)), Bt.ptr (Bt.top (ts 2)), Bt.ptr (Bt.top (ts 3)), .int .i64 (l.length : Int)] 95 (0, 0))
  nil : ∀ j, i ≤ j → ts j = .nil
  part : ∀ j, j < i → Laid (g + 1) (Bt.part l j) (ts j) W
  apart : ∀ j k, j < k → k < i → ∀ x ∈ Bt.blocks (ts j), x ∉ Bt.blocks (ts k)
  row : W.ownsRow (g + 1) 71 1 sv m (Bt.ptrs (Bt.mids l m))
  rowx : ∀ r, sv.ownBlock = some r → ∀ j, j < i → r ∉ Bt.blocks (ts j)
theorem LL.start {w W : World} {g : Nat} {l : List Nat} (hb : Below w.heap.size w W) (hg : w.heap.size ≤ g) (hn : W.heap[g]? = some (.cells #[.slice none 0 0, .pointer none, .pointer none, .pointer none, .pointer none, .int .i64 (l.length : Int)] 95 (0, 0))) : LL w g l 0 0 (fun _ => .nil) (.slice none 0 0) W where
  below := hb
  gw := hg
  node := hn
  nil := fun _ _ => rfl
  part := fun j h => absurd h (by omega)
  apart := fun j k _ h => absurd h (by omega)
  row := ⟨rfl, .inl ⟨rfl, rfl⟩⟩
  rowx := fun r h => by cases h
theorem own_lt {W : World} {b ty k n : Nat} {v : Value} {L : List Value} (h : W.ownsRow b ty k v n L) {r : Nat} (hr : v.ownBlock = some r) : b ≤ r ∧ r < W.heap.size := by
  rcases h.2 with ⟨rfl, _⟩ | ⟨g, cap, cur, rfl, h2, h3, _⟩
  · cases hr
  · obtain rfl : g = r := Option.some.inj (show some g = some r from hr)
    exact ⟨h2, lt_of_row h3⟩
theorem LL.laid {w W W1 W2 : World} {g : Nat} {l : List Nat} {i m : Nat} {ts : Nat → Bt.T} {sv : Value} (h : LL w g l i m ts sv W) (hi : i < 4) {t' : Bt.T} (hb : Below W.heap.size W W1) (ht : Laid W.heap.size (Bt.part l i) t' W1) (hW2 : W2 = W1.setCell ⟨g, 1 + i, none⟩ (Bt.ptr (Bt.top t'))) : LL w g l (i + 1) m (Bt.set ts i t') sv W2 := by
  have hg : g < W.heap.size := lt_of_row h.node
  have n1 := (hb.block g hg).trans h.node
  have hoth : ∀ x, x ≠ g → W2.heap[x]? = W1.heap[x]? := fun x hx => by rw [hW2, heap_setCell_other _ _ _ _ hx]
  have hold : ∀ j, j < i → ∀ x ∈ Bt.blocks (ts j), x < W.heap.size ∧ W2.heap[x]? = W.heap[x]? := fun j hj x hx => by
    have h1 := nt_lt (h.part j hj).nt x hx
    have h2 := (h.part j hj).new x hx
    exact ⟨h1, (hoth x (by omega)).trans (hb.block x h1)⟩
  exact {
    below := by
      have b1 := h.below.trans (hb.mono h.below.size)
      refine ⟨by rw [hW2]; exact b1.os, by rw [hW2]; exact b1.tape, by rw [hW2]; exact b1.output, by rw [hW2]; simpa using b1.size, fun k hk => ?_⟩
      have := h.gw
      exact (hoth k (by omega)).trans (b1.block k hk)
    gw := h.gw
    node := by
      rcases (show i = 0 ∨ i = 1 ∨ i = 2 ∨ i = 3 by omega) with rfl | rfl | rfl | rfl <;> (rw [hW2]; refine (heap_setCell_same W1 g _ _ 95 _ n1).trans ?_; simp [Bt.set])
    nil := fun j hj => by rw [Bt.set_other (by omega)]; exact h.nil j (by omega)
    part := fun j hj => by
      by_cases q : j = i
      · subst q
        rw [Bt.set_same]
        refine ht.stays (fun x hx => hoth x ?_) (fun x hx => ?_) <;> (have := ht.new x hx; omega)
      · rw [Bt.set_other q]
        have hj' : j < i := by omega
        exact (h.part j hj').stays (fun x hx => (hold j hj' x hx).2) (h.part j hj').new
    apart := fun j k hjk hk x hx => by
      rw [Bt.set_other (by omega)] at hx
      by_cases q : k = i
      · subst q
        rw [Bt.set_same]
        intro hx2
        have := ht.new x hx2
        have := (hold j hjk x hx).1
        omega
      · rw [Bt.set_other q]
        exact h.apart j k hjk (by omega) x hx
    row := owns_stays h.row fun r hr => by
      have h1 := own_lt h.row hr
      exact (hoth r (by omega)).trans (hb.block r h1.2)
    rowx := fun r hr j hj => by
      have h1 := own_lt h.row hr
      by_cases q : j = i
      · subst q
        rw [Bt.set_same]
        intro hx2
        have := ht.new r hx2
        omega
      · rw [Bt.set_other q]
        exact h.rowx r hr j (by omega) }
theorem LL.more {w W X W3 W4 : World} {g : Nat} {l : List Nat} {i m : Nat} {ts : Nat → Bt.T} {sv sv' : Value} (h : LL w g l i m ts sv W) (hX : Below W.heap.size W X) (ho : W3.ownsRow (g + 1) 71 1 sv' (m + 1) (Bt.ptrs (Bt.mids l m) ++ [.pointer (some ⟨Bt.mid l m, 0, none⟩)])) (hg3 : X.grownBy W3 sv.ownBlock) (hat : sv'.ownBlock = sv.ownBlock ∨ sv'.ownBlock = some X.heap.size) (hW4 : W4 = W3.setCell ⟨g, 0, none⟩ sv') : LL w g l i (m + 1) ts sv' W4 := by
  have hg : g < W.heap.size := lt_of_row h.node
  have hr : ∀ k, k < W.heap.size → sv.ownBlock ≠ some k → W3.heap[k]? = W.heap[k]? := fun k hk hne => (hg3.block k (Nat.lt_of_lt_of_le hk hX.size) (fun q => hne q.symm)).trans (hX.block k hk)
  have hgr : sv.ownBlock ≠ some g := fun q => by have := (own_lt h.row q).1; omega
  have n3 := (hr g hg hgr).trans h.node
  have hoth : ∀ x, x ≠ g → W4.heap[x]? = W3.heap[x]? := fun x hx => by rw [hW4, heap_setCell_other _ _ _ _ hx]
  have hold : ∀ j, j < i → ∀ x ∈ Bt.blocks (ts j), x < W.heap.size ∧ W4.heap[x]? = W.heap[x]? := fun j hj x hx => by
    have h1 := nt_lt (h.part j hj).nt x hx
    have h2 := (h.part j hj).new x hx
    exact ⟨h1, (hoth x (by omega)).trans (hr x h1 fun q => h.rowx x q j hj hx)⟩
  exact {
    below := by
      have s1 := h.below.size
      have s2 := hX.size
      have s3 := hg3.size
      refine ⟨by rw [hW4]; exact hg3.os.trans (hX.os.trans h.below.os), by rw [hW4]; exact hg3.tape.trans (hX.tape.trans h.below.tape), by rw [hW4]; exact hg3.output.trans (hX.output.trans h.below.output), by rw [hW4]; simp; omega, fun k hk => ?_⟩
      have := h.gw
      exact (hoth k (by omega)).trans ((hr k (by omega) fun q => by have := (own_lt h.row q).1; omega).trans (h.below.block k hk))
    gw := h.gw
    node := by rw [hW4]; exact heap_setCell_same W3 g 0 _ 95 sv' n3
    nil := h.nil
    part := fun j hj => (h.part j hj).stays (fun x hx => (hold j hj x hx).2) (h.part j hj).new
    apart := h.apart
    row := by
      have e : Bt.ptrs (Bt.mids l m) ++ [Value.pointer (some ⟨Bt.mid l m, 0, none⟩)] = Bt.ptrs (Bt.mids l (m + 1)) := by rw [Bt.mids_succ, Bt.ptrs, Bt.ptrs, List.map_append]; rfl
      rw [e] at ho
      refine owns_stays ho fun r hr' => hoth r ?_
      have := (own_lt ho hr').1
      omega
    rowx := fun r hr' j hj hx => by
      rcases hat with q | q
      · rw [q] at hr'
        exact h.rowx r hr' j hj hx
      · rw [q] at hr'
        have e : X.heap.size = r := Option.some.inj hr'
        have := (hold j hj r hx).1
        have := hX.size
        omega }
theorem LL.done {w W : World} {g : Nat} {l : List Nat} {ts : Nat → Bt.T} {sv : Value} (h : LL w g l 4 3 ts sv W) (hl : 3 < l.length) : ∃ r, Laid w.heap.size l (.node g r [Bt.mid l 0, Bt.mid l 1, Bt.mid l 2] (ts 0) (ts 1) (ts 2) (ts 3)) W := by
  obtain ⟨r, cap, rfl⟩ := ownsRow_succ h.row
  have hr := own_lt h.row (r := r) rfl
  have hf := Bt.laid_flat hl (g := g) (r := r) (ts := ts) fun j hj => (h.part j hj).flat
  have gw := h.gw
  refine ⟨r, ⟨⟨cap, ?_, ?_⟩, (h.part 0 (by omega)).nt, (h.part 1 (by omega)).nt, (h.part 2 (by omega)).nt, (h.part 3 (by omega)).nt⟩, Bt.laid_wf fun j hj => (h.part j hj).wf, hf, ?_, ?_, ?_⟩
  · rw [hf]
    exact h.node
  · refine ⟨rfl, ?_⟩
    rcases h.row.2 with ⟨q, _⟩ | ⟨g', cap', cur, e, _, h4, h5⟩
    · cases q
    · exact .inr ⟨g', cap', cur, e, Nat.zero_le _, h4, h5⟩
  · exact Bt.laid_levels hl fun j hj => (h.part j hj).lev
  · have nw : ∀ j, j < 4 → ∀ x ∈ Bt.blocks (ts j), g < x ∧ x ≠ r := fun j hj x hx => ⟨(h.part j hj).new x hx, fun q => h.rowx r rfl j hj (q ▸ hx)⟩
    have ap := h.apart
    simp only [Bt.blocks, List.nodup_cons, List.nodup_append, List.mem_cons, List.mem_append]
    refine ⟨?_, ?_, ⟨⟨(h.part 0 (by omega)).nd, (h.part 1 (by omega)).nd, ?_⟩, (h.part 2 (by omega)).nd, ?_⟩, (h.part 3 (by omega)).nd, ?_⟩
    · rintro (q | ((q | q) | q) | q)
      · omega
      · have := (nw 0 (by omega) _ q).1; omega
      · have := (nw 1 (by omega) _ q).1; omega
      · have := (nw 2 (by omega) _ q).1; omega
      · have := (nw 3 (by omega) _ q).1; omega
    · rintro (((q | q) | q) | q)
      · exact (nw 0 (by omega) _ q).2 rfl
      · exact (nw 1 (by omega) _ q).2 rfl
      · exact (nw 2 (by omega) _ q).2 rfl
      · exact (nw 3 (by omega) _ q).2 rfl
    · intro a ha b hb e
      subst e
      exact ap 0 1 (by omega) (by omega) a ha hb
    · intro a ha b hb e
      subst e
      rcases ha with q | q
      · exact ap 0 2 (by omega) (by omega) a q hb
      · exact ap 1 2 (by omega) (by omega) a q hb
    · intro a ha b hb e
      subst e
      rcases ha with (q | q) | q
      · exact ap 0 3 (by omega) (by omega) a q hb
      · exact ap 1 3 (by omega) (by omega) a q hb
      · exact ap 2 3 (by omega) (by omega) a q hb
  · intro x hx
    simp only [Bt.blocks, List.mem_cons, List.mem_append] at hx
    rcases hx with rfl | rfl | ((q | q) | q) | q
    · exact gw
    · omega
    · have := (h.part 0 (by omega)).new x q; omega
    · have := (h.part 1 (by omega)).new x q; omega
    · have := (h.part 2 (by omega)).new x q; omega
    · have := (h.part 3 (by omega)).new x q; omega
end Go.Proofs.YtkigenldiinioaaGreatDoor
/- A region that draws its order, by an invariant: one obligation for each operation, whatever was carried out ahead of it. -/
namespace Go.Proofs.YtkigenldiinioaaGreatDoor
open Go.RowKit
section
variable {P : Program} {md : Region.Mode} {ops : Array Oper} {Q : Exit → Act → World → Prop}
theorem ready_open {listed : Array Bool} {i : Nat} (h : i ∈ Region.ready md ops listed) : i < ops.size ∧ listed.getD i true = false := by
  unfold Region.ready at h
  rw [List.mem_filter, List.mem_range] at h
  refine ⟨h.1, ?_⟩
  have := h.2
  simp only [Bool.and_eq_true, Bool.not_eq_true'] at this
  exact this.1
theorem getD_set (listed : Array Bool) (i j : Nat) (h : (listed.setIfInBounds i true).getD j true = false) : j ≠ i ∧ listed.getD j true = false := by
  simp only [Array.getD_eq_getD_getElem?, Array.getElem?_setIfInBounds] at h ⊢
  by_cases e : i = j
  · subst e
    rw [if_pos rfl] at h
    split at h
    · cases h
    · cases h
  · rw [if_neg e] at h
    exact ⟨fun q => e q.symm, h⟩
theorem wpAny_inv (Inv : Array Bool → Act → World → Prop) (hdone : ∀ listed a w, Inv listed a w → Region.ready md ops listed = [] → Q .normal a w)
    (hstep : ∀ listed a w i, Inv listed a w → i ∈ Region.ready md ops listed → wpOp P ops Q i (Inv (listed.setIfInBounds i true)) a w) :
    ∀ (fuel : Nat) (L : List Nat) (listed : Array Bool) (a : Act) (w : World), (∀ j, j < ops.size → listed.getD j true = false → j ∈ L) → L.length ≤ fuel → Inv listed a w → wpAny P md ops Q fuel listed a w
  | 0, L, listed, a, w, hL, hl, hI => by
    have h0 : Region.ready md ops listed = [] := by
      cases hr : Region.ready md ops listed with
      | nil => rfl
      | cons i r =>
        exfalso
        have hi : i ∈ Region.ready md ops listed := by rw [hr]; simp
        have := hL i (ready_open hi).1 (ready_open hi).2
        have hn : L = [] := List.eq_nil_of_length_eq_zero (by omega)
        rw [hn] at this
        cases this
    exact ⟨h0, hdone _ _ _ hI h0⟩
  | fuel + 1, L, listed, a, w, hL, hl, hI => by
    refine ⟨hdone _ _ _ hI, fun i hi => wpOp_mono (fun a' w' h' => ?_) (hstep _ _ _ i hI hi)⟩
    have hm := hL i (ready_open hi).1 (ready_open hi).2
    refine wpAny_inv Inv hdone hstep fuel (L.erase i) _ a' w' (fun j hj hd => ?_) ?_ h'
    · obtain ⟨h1, h2⟩ := getD_set _ _ _ hd
      exact (List.mem_erase_of_ne h1).2 (hL j hj h2)
    · rw [List.length_erase_of_mem hm]; omega
theorem wpOp_of {i : Nat} {o : Oper} {a : Act} {w : World} {K : Act → World → Prop} (ho : ops[i]? = some o) (hg : o.guard = none) (h : ∀ K' : Act → World → Prop, (∀ a w, K a w → K' a w) → o.wp P a w K' Q) : wpOp P ops Q i K a w := by
  unfold wpOp
  rw [ho]
  have hw : Region.wanted o (yielded ops a.tmps) = true := by simp [Region.wanted, hg]
  simp only [hw, if_true]
  exact .inl (h K fun _ _ q => q)
/-- one obligation for each operation -/
theorem wp_region_inv {id : Nat} {a : Act} {w : World} (hm : P.follows .mixedOrders = true) (Inv : Array Bool → Act → World → Prop) (h0 : Inv (Array.replicate ops.size false) a w.drew)
    (hdone : ∀ listed a w, Inv listed a w → Region.ready .any ops listed = [] → Q .normal a w)
    (hstep : ∀ listed a w i, Inv listed a w → i ∈ Region.ready .any ops listed → wpOp P ops Q i (Inv (listed.setIfInBounds i true)) a w) :
    (Code.region id ops true).wp P Q a w :=
  wp_region_any hm (wpAny_inv Inv hdone hstep ops.size (List.range ops.size) _ a _ (fun j hj _ => List.mem_range.2 hj) (by simp) h0)
end
end Go.Proofs.YtkigenldiinioaaGreatDoor
/- A region that draws its order, whose operations leave what others left: one obligation for each operation; a slot's value may hang on the world that its operation met. -/
namespace Go.Proofs.YtkigenldiinioaaGreatDoor
open Go.RowKit
/-- a slot anew -/
def upd (f : Nat → Value) (i : Nat) (v : Value) : Nat → Value := fun j => if j = i then v else f j
theorem upd_same (f : Nat → Value) (i : Nat) (v : Value) : upd f i v i = v := if_pos rfl
theorem upd_other {f : Nat → Value} {i j : Nat} {v : Value} (h : j ≠ i) : upd f i v j = f j := if_neg h
/-- each operation waits for earlier ones alone -/
def backB (ops : Array Oper) : Bool := (List.range ops.size).all fun i => match ops[i]? with
  | none => true
  | some o => o.after.toList.all fun e => !Region.binds .any e || decide (e.on < i)
/-- what an operation waits for -/
def waits (ops : Array Oper) (i j : Nat) : Bool := match ops[i]? with
  | none => false
  | some o => o.after.toList.any fun e => Region.binds .any e && decide (e.on = j)
theorem ready_waits {ops : Array Oper} {listed : Array Bool} {i : Nat} (h : i ∈ Region.ready .any ops listed) : ∀ j, waits ops i j = true → listed.getD j false = true := by
  unfold Region.ready at h
  rw [List.mem_filter] at h
  intro j hj
  have h2 := h.2
  simp only [Bool.and_eq_true] at h2
  unfold waits at hj
  cases ho : ops[i]? with
  | none => rw [ho] at hj; cases hj
  | some o =>
    rw [ho] at hj h2
    simp only [Option.map_some, Option.getD_some] at h2
    rw [List.any_eq_true] at hj
    obtain ⟨e, he0, h3⟩ := hj
    have he : e ∈ o.after := Array.mem_toList_iff.1 he0
    rw [Bool.and_eq_true, decide_eq_true_iff] at h3
    have h4 := (Array.all_eq_true'.1 h2.2) e he
    rw [h3.1, h3.2] at h4
    simpa using h4
theorem all_listed {ops : Array Oper} {listed : Array Bool} (hsz : listed.size = ops.size) (hb : backB ops = true) (h : Region.ready .any ops listed = []) : ∀ n i, i < n → i < ops.size → listed.getD i true = true := by
  intro n
  induction n with
  | zero => intro i hi; omega
  | succ n ih =>
    intro i hi hs
    by_cases hin : i < n
    · exact ih i hin hs
    · have hie : i = n := by omega
      subst hie
      cases hl : listed.getD i true with
      | true => rfl
      | false =>
        exfalso
        have hr : i ∈ Region.ready .any ops listed := by
          unfold Region.ready
          rw [List.mem_filter, List.mem_range]
          refine ⟨hs, ?_⟩
          rw [hl]
          have ho : ops[i]? = some ops[i] := Array.getElem?_eq_getElem hs
          rw [ho]
          simp only [Bool.not_false, Bool.true_and, Option.map_some, Option.getD_some]
          rw [Array.all_eq_true']
          intro e he
          unfold backB at hb
          have h1 := List.all_eq_true.1 hb i (List.mem_range.2 hs)
          rw [ho] at h1
          have h2 := (List.all_eq_true.1 h1) e (Array.mem_toList_iff.2 he)
          cases hbd : Region.binds .any e with
          | false => rfl
          | true =>
            rw [hbd] at h2
            have h3 : e.on < i := by simpa using h2
            have h4 := ih e.on (by omega) (by omega)
            have h5 : e.on < listed.size := by omega
            rw [Array.getD_eq_getD_getElem?, Array.getElem?_eq_getElem h5] at h4 ⊢
            simpa using h4
        rw [h] at hr
        cases hr
section
variable {P : Program} {ops : Array Oper} {Q : Exit → Act → World → Prop}
theorem wp_region_good {id : Nat} {a0 : Act} {w : World} (hm : P.follows .mixedOrders = true) (hb : backB ops = true) (F : (Nat → Value) → Act) (f0 : Nat → Value) (ha : a0 = F f0) (C : World → Prop) (S : Nat → Value → World → Prop) (T : World → World → Prop) (hC : C w.drew)
    (hstab : ∀ j v W W', S j v W → T W W' → S j v W')
    (hstep : ∀ i, i < ops.size → ∀ f W, C W → (∀ j, waits ops i j = true → S j (f j) W) → wpOp P ops Q i (fun a' W' => ∃ v, a' = F (upd f i v) ∧ C W' ∧ T W W' ∧ S i v W') (F f) W)
    (hdone : ∀ f W, C W → (∀ j, j < ops.size → S j (f j) W) → Q .normal (F f) W) : (Code.region id ops true).wp P Q a0 w := by
  refine wp_region_inv hm (fun listed a W => listed.size = ops.size ∧ ∃ f, a = F f ∧ C W ∧ ∀ j, j < ops.size → listed.getD j false = true → S j (f j) W) ?_ ?_ ?_
  · exact ⟨by simp, f0, ha, hC, fun j hj h => by simp [Array.getD_eq_getD_getElem?, hj] at h⟩
  · rintro listed a W ⟨hsz, f, rfl, hW, hS⟩ hr
    refine hdone f W hW fun j hj => hS j hj ?_
    have h1 := all_listed hsz hb hr (j + 1) j (by omega) hj
    have h2 : j < listed.size := by omega
    rw [Array.getD_eq_getD_getElem?, Array.getElem?_eq_getElem h2] at h1 ⊢
    simpa using h1
  · rintro listed a W i ⟨hsz, f, rfl, hW, hS⟩ hi
    have his := (ready_open hi).1
    refine wpOp_mono ?_ (hstep i his f W hW fun j hj => ?_)
    · rintro a' W' ⟨v, rfl, h1, h2, h3⟩
      refine ⟨by simp [hsz], upd f i v, rfl, h1, fun j hj hl => ?_⟩
      by_cases e : j = i
      · subst e
        rw [upd_same]
        exact h3
      · rw [upd_other e]
        refine hstab j _ W W' (hS j hj ?_) h2
        rw [Array.getD_eq_getD_getElem?, Array.getElem?_setIfInBounds, if_neg (fun q => e q.symm)] at hl
        rw [Array.getD_eq_getD_getElem?]
        exact hl
    · have h1 := ready_waits hi j hj
      refine hS j ?_ h1
      have h2 : j < listed.size := by
        rcases Nat.lt_or_ge j listed.size with h | h
        · exact h
        · rw [Array.getD_eq_getD_getElem?, Array.getElem?_eq_none h] at h1; cases h1
      omega
/-- an operation that is carried out -/
theorem wpOp_yes {i : Nat} {o : Oper} {a : Act} {w : World} {K : Act → World → Prop} (ho : ops[i]? = some o) (hw : Region.wanted o (yielded ops a.tmps) = true) (h : ∀ K' : Act → World → Prop, (∀ a w, K a w → K' a w) → o.wp P a w K' Q) : wpOp P ops Q i K a w := by
  unfold wpOp
  rw [ho]
  simp only [hw, if_true]
  exact .inl (h K fun _ _ q => q)
/-- one that is not -/
theorem wpOp_no {i : Nat} {o : Oper} {a : Act} {w : World} {K : Act → World → Prop} (ho : ops[i]? = some o) (hw : Region.wanted o (yielded ops a.tmps) = false) (h : K (a.put o.dst undef) w) : wpOp P ops Q i K a w := by
  unfold wpOp
  rw [ho]
  simp only [hw]
  exact h
end
end Go.Proofs.YtkigenldiinioaaGreatDoor
/- A region that draws its order, one obligation for each operation, where what an operation left may end with a later one. -/
namespace Go.Proofs.YtkigenldiinioaaGreatDoor
open Go.RowKit
/-- what comes ahead of an operation in every order -/
def preB (ops : Array Oper) (pre : Nat → List Nat) : Bool := (List.range ops.size).all fun i => (pre i).all fun p => waits ops i p || (List.range i).any fun m => waits ops i m && (pre m).contains p
section
variable {P : Program} {ops : Array Oper} {Q : Exit → Act → World → Prop}
theorem wp_region_ord {id : Nat} {a0 : Act} {w : World} (hm : P.follows .mixedOrders = true) (hb : backB ops = true) (pre brk : Nat → List Nat) (hp : preB ops pre = true) (F : (Nat → Value) → Act) (f0 : Nat → Value) (ha : a0 = F f0) (C : World → Prop) (S : Nat → Value → World → Prop) (T : Nat → World → World → Prop) (hC : C w.drew)
    (hstab : ∀ i j v W W', i < ops.size → j < ops.size → j ≠ i → i ∉ pre j → i ∉ brk j → (∀ p ∈ pre i, p ∉ brk j) → C W → S j v W → T i W W' → S j v W')
    (hstep : ∀ i, i < ops.size → ∀ f W, C W → (∀ j, waits ops i j = true → (∀ b ∈ brk j, b = i) → S j (f j) W) → wpOp P ops Q i (fun a' W' => ∃ v, a' = F (upd f i v) ∧ C W' ∧ T i W W' ∧ S i v W') (F f) W)
    (hdone : ∀ f W, C W → (∀ j, j < ops.size → brk j = [] → S j (f j) W) → Q .normal (F f) W) : (Code.region id ops true).wp P Q a0 w := by
  have hpre : ∀ i, i < ops.size → ∀ p ∈ pre i, waits ops i p = true ∨ ∃ m, m < i ∧ waits ops i m = true ∧ p ∈ pre m := by
    intro i hi p hpi
    have h1 := List.all_eq_true.1 (List.all_eq_true.1 hp i (List.mem_range.2 hi)) p hpi
    rw [Bool.or_eq_true] at h1
    rcases h1 with h1 | h1
    · exact .inl h1
    · rw [List.any_eq_true] at h1
      obtain ⟨m, hm, h2⟩ := h1
      rw [Bool.and_eq_true] at h2
      exact .inr ⟨m, List.mem_range.1 hm, h2.1, by simpa using h2.2⟩
  refine wp_region_inv hm (fun listed a W => listed.size = ops.size ∧ (∀ j, listed.getD j false = true → ∀ p ∈ pre j, listed.getD p false = true) ∧ ∃ f, a = F f ∧ C W ∧ ∀ j, j < ops.size → listed.getD j false = true → (∀ b ∈ brk j, listed.getD b false = false) → S j (f j) W) ?_ ?_ ?_
  · refine ⟨by simp, fun j h => ?_, f0, ha, hC, fun j hj h => ?_⟩
    · simp [Array.getD_eq_getD_getElem?, Array.getElem?_replicate] at h
      split at h <;> cases h
    · simp [Array.getD_eq_getD_getElem?, hj] at h
  · rintro listed a W ⟨hsz, _, f, rfl, hW, hS⟩ hr
    refine hdone f W hW fun j hj hbk => hS j hj ?_ (fun b hbb => by rw [hbk] at hbb; cases hbb)
    have h1 := all_listed hsz hb hr (j + 1) j (by omega) hj
    have h2 : j < listed.size := by omega
    rw [Array.getD_eq_getD_getElem?, Array.getElem?_eq_getElem h2] at h1 ⊢
    simpa using h1
  · rintro listed a W i ⟨hsz, hcl, f, rfl, hW, hS⟩ hi
    obtain ⟨his, hio⟩ := ready_open hi
    have hif : listed.getD i false = false := by
      have h2 : i < listed.size := by omega
      rw [Array.getD_eq_getD_getElem?, Array.getElem?_eq_getElem h2] at hio ⊢
      simpa using hio
    have hset : ∀ j, j ≠ i → (listed.setIfInBounds i true).getD j false = listed.getD j false := fun j e => by
      rw [Array.getD_eq_getD_getElem?, Array.getElem?_setIfInBounds, if_neg (fun q => e q.symm), Array.getD_eq_getD_getElem?]
    have hall : ∀ p ∈ pre i, listed.getD p false = true := fun p hpi => by
      rcases hpre i his p hpi with h | ⟨m, _, h, hm⟩
      · exact ready_waits hi p h
      · exact hcl m (ready_waits hi m h) p hm
    have hlt : ∀ j, listed.getD j false = true → j < ops.size := fun j h => by
      rcases Nat.lt_or_ge j listed.size with h2 | h2
      · omega
      · rw [Array.getD_eq_getD_getElem?, Array.getElem?_eq_none h2] at h; cases h
    refine wpOp_mono ?_ (hstep i his f W hW fun j hj hbk => ?_)
    · rintro a' W' ⟨v, rfl, h1, h2, h3⟩
      refine ⟨by simp [hsz], fun j hl p hpj => ?_, upd f i v, rfl, h1, fun j hj hl hbk => ?_⟩
      · have hp1 : listed.getD p false = true := by
          by_cases e : j = i
          · subst e; exact hall p hpj
          · rw [hset j e] at hl; exact hcl j hl p hpj
        by_cases e : p = i
        · subst e; rw [hif] at hp1; cases hp1
        · rw [hset p e]; exact hp1
      · by_cases e : j = i
        · subst e
          rw [upd_same]
          exact h3
        · rw [upd_other e]
          rw [hset j e] at hl
          have hbk2 : ∀ b ∈ brk j, b ≠ i ∧ listed.getD b false = false := fun b hb2 => by
            have h4 := hbk b hb2
            by_cases eb : b = i
            · subst eb
              rw [Array.getD_eq_getD_getElem?, Array.getElem?_setIfInBounds, if_pos rfl, if_pos (by omega)] at h4
              cases h4
            · exact ⟨eb, by rw [hset b eb] at h4; exact h4⟩
          refine hstab i j _ W W' his hj e (fun q => ?_) (fun q => (hbk2 i q).1 rfl) (fun p hpi q => ?_) hW (hS j hj hl fun b hb2 => (hbk2 b hb2).2) h2
          · have := hcl j hl i q; rw [hif] at this; cases this
          · have := hall p hpi; rw [(hbk2 p q).2] at this; cases this
    · have h1 := ready_waits hi j hj
      exact hS j (hlt j h1) h1 fun b hb2 => by rw [hbk b hb2]; exact hif
end
end Go.Proofs.YtkigenldiinioaaGreatDoor
/- A region that draws its order, by an invariant over what is done and what the slots hold: one obligation for each operation. -/
namespace Go.Proofs.YtkigenldiinioaaGreatDoor
open Go.RowKit
/-- one more is done -/
def updB (L : Nat → Bool) (i : Nat) : Nat → Bool := fun j => if j = i then true else L j
theorem updB_same (L : Nat → Bool) (i : Nat) : updB L i i = true := if_pos rfl
theorem updB_other {L : Nat → Bool} {i j : Nat} (h : j ≠ i) : updB L i j = L j := if_neg h
section
variable {P : Program} {ops : Array Oper} {Q : Exit → Act → World → Prop}
theorem wp_region_ph {id : Nat} {a0 : Act} {w : World} (hm : P.follows .mixedOrders = true) (hb : backB ops = true) (pre : Nat → List Nat) (hp : preB ops pre = true) (F : (Nat → Value) → Act) (f0 : Nat → Value) (ha : a0 = F f0) (I : (Nat → Bool) → (Nat → Value) → World → Prop) (h0 : I (fun _ => false) f0 w.drew)
    (hstep : ∀ i, i < ops.size → ∀ L f W, L i = false → (∀ j, waits ops i j = true → L j = true) → (∀ j, i ∈ pre j → L j = false) → I L f W → wpOp P ops Q i (fun a' W' => ∃ v, a' = F (upd f i v) ∧ I (updB L i) (upd f i v) W') (F f) W)
    (hdone : ∀ L f W, (∀ j, j < ops.size → L j = true) → I L f W → Q .normal (F f) W) : (Code.region id ops true).wp P Q a0 w := by
  have hpre : ∀ i, i < ops.size → ∀ p ∈ pre i, waits ops i p = true ∨ ∃ m, m < i ∧ waits ops i m = true ∧ p ∈ pre m := by
    intro i hi p hpi
    have h1 := List.all_eq_true.1 (List.all_eq_true.1 hp i (List.mem_range.2 hi)) p hpi
    rw [Bool.or_eq_true] at h1
    rcases h1 with h1 | h1
    · exact .inl h1
    · rw [List.any_eq_true] at h1
      obtain ⟨m, hm, h2⟩ := h1
      rw [Bool.and_eq_true] at h2
      exact .inr ⟨m, List.mem_range.1 hm, h2.1, by simpa using h2.2⟩
  refine wp_region_inv hm (fun listed a W => listed.size = ops.size ∧ (∀ j, listed.getD j false = true → ∀ p ∈ pre j, listed.getD p false = true) ∧ ∃ f, a = F f ∧ I (fun j => listed.getD j false) f W) ?_ ?_ ?_
  · refine ⟨by simp, fun j h => ?_, f0, ha, ?_⟩
    · simp [Array.getD_eq_getD_getElem?, Array.getElem?_replicate] at h
      split at h <;> cases h
    · have e : (fun j => (Array.replicate ops.size false).getD j false) = fun _ => false := by
        funext j
        simp [Array.getD_eq_getD_getElem?, Array.getElem?_replicate]
        split <;> rfl
      rw [e]
      exact h0
  · rintro listed a W ⟨hsz, _, f, rfl, hI⟩ hr
    refine hdone _ f W (fun j hj => ?_) hI
    have h1 := all_listed hsz hb hr (j + 1) j (by omega) hj
    have h2 : j < listed.size := by omega
    rw [Array.getD_eq_getD_getElem?, Array.getElem?_eq_getElem h2] at h1 ⊢
    simpa using h1
  · rintro listed a W i ⟨hsz, hcl, f, rfl, hI⟩ hi
    obtain ⟨his, hio⟩ := ready_open hi
    have hif : listed.getD i false = false := by
      have h2 : i < listed.size := by omega
      rw [Array.getD_eq_getD_getElem?, Array.getElem?_eq_getElem h2] at hio ⊢
      simpa using hio
    have hset : ∀ j, j ≠ i → (listed.setIfInBounds i true).getD j false = listed.getD j false := fun j e => by
      rw [Array.getD_eq_getD_getElem?, Array.getElem?_setIfInBounds, if_neg (fun q => e q.symm), Array.getD_eq_getD_getElem?]
    have hself : (listed.setIfInBounds i true).getD i false = true := by
      rw [Array.getD_eq_getD_getElem?, Array.getElem?_setIfInBounds, if_pos rfl, if_pos (by omega)]; rfl
    have hall : ∀ p ∈ pre i, listed.getD p false = true := fun p hpi => by
      rcases hpre i his p hpi with h | ⟨m, _, h, hm⟩
      · exact ready_waits hi p h
      · exact hcl m (ready_waits hi m h) p hm
    have hno : ∀ j, i ∈ pre j → listed.getD j false = false := fun j hj => by
      cases h : listed.getD j false with
      | false => rfl
      | true => have := hcl j h i hj; rw [hif] at this; cases this
    refine wpOp_mono ?_ (hstep i his _ f W hif (ready_waits hi) hno hI)
    rintro a' W' ⟨v, rfl, h1⟩
    have e : (fun j => (listed.setIfInBounds i true).getD j false) = updB (fun j => listed.getD j false) i := by
      funext j
      by_cases q : j = i
      · subst q; rw [hself, updB_same]
      · rw [hset j q, updB_other q]
    refine ⟨by simp [hsz], fun j hl p hpj => ?_, upd f i v, rfl, by rw [e]; exact h1⟩
    have hp1 : listed.getD p false = true := by
      by_cases q : j = i
      · subst q; exact hall p hpj
      · rw [hset j q] at hl; exact hcl j hl p hpj
    by_cases q : p = i
    · subst q; exact hself
    · rw [hset p q]; exact hp1
end
end Go.Proofs.YtkigenldiinioaaGreatDoor
/- A region that draws its order, with something new, a call and a store in it: what lies ahead of each and between. -/
namespace Go.Proofs.YtkigenldiinioaaGreatDoor
open Go.RowKit
/-- the state: by what is done -/
structure ZK (Z : Nat → Value) (b c s : Nat) (P0 P1 : World → Prop) (Mid : Value → World → Prop) (Post : World → Prop) (L : Nat → Bool) (f : Nat → Value) (W : World) : Prop where
  vals : ∀ j, j ≠ c → j ≠ s → L j = true → f j = Z j
  a0 : L b = false → L c = false ∧ L s = false ∧ P0 W
  a1 : L b = true → L c = false → L s = false ∧ P1 W
  m : L c = true → L s = false → Mid (f c) W
  p : L s = true → Post W
section
variable {Z : Nat → Value} {b c s : Nat} {P0 P1 : World → Prop} {Mid : Value → World → Prop} {Post : World → Prop} {L : Nat → Bool} {f : Nat → Value} {W : World}
theorem ZK.start (h : P0 W) : ZK Z b c s P0 P1 Mid Post (fun _ => false) f W :=
  ⟨fun _ _ _ h => (by cases h), fun _ => ⟨rfl, rfl, h⟩, fun h => (by cases h), fun h => (by cases h), fun h => (by cases h)⟩
theorem ZK.pure (h : ZK Z b c s P0 P1 Mid Post L f W) {i : Nat} {v : Value} (hb : i ≠ b) (hc : i ≠ c) (hs : i ≠ s) (hv : v = Z i) : ZK Z b c s P0 P1 Mid Post (updB L i) (upd f i v) W where
  vals := fun j q1 q2 hL => by
    by_cases e : j = i
    · subst e; rw [upd_same]; exact hv
    · rw [updB_other e] at hL; rw [upd_other e]; exact h.vals j q1 q2 hL
  a0 := fun q => by
    rw [updB_other (fun e => hb e.symm)] at q
    rw [updB_other (fun e => hc e.symm), updB_other (fun e => hs e.symm)]
    exact h.a0 q
  a1 := fun q1 q2 => by
    rw [updB_other (fun e => hb e.symm)] at q1
    rw [updB_other (fun e => hc e.symm)] at q2
    rw [updB_other (fun e => hs e.symm)]
    exact h.a1 q1 q2
  m := fun q1 q2 => by
    rw [updB_other (fun e => hc e.symm)] at q1
    rw [updB_other (fun e => hs e.symm)] at q2
    rw [upd_other (fun e => hc e.symm)]
    exact h.m q1 q2
  p := fun q => by
    rw [updB_other (fun e => hs e.symm)] at q
    exact h.p q
theorem ZK.early (h : ZK Z b c s P0 P1 Mid Post L f W) (hc : L c = false) : P0 W ∨ P1 W := by
  cases hb : L b with
  | false => exact .inl (h.a0 hb).2.2
  | true => exact .inr (h.a1 hb hc).2
theorem ZK.first (h : ZK Z b c s P0 P1 Mid Post L f W) {v : Value} {W' : World} (hbc : b ≠ c) (hbs : b ≠ s) (hL : L b = false) (hv : v = Z b) (h1 : P1 W') : ZK Z b c s P0 P1 Mid Post (updB L b) (upd f b v) W' where
  vals := fun j q1 q2 hL => by
    by_cases e : j = b
    · subst e; rw [upd_same]; exact hv
    · rw [updB_other e] at hL; rw [upd_other e]; exact h.vals j q1 q2 hL
  a0 := fun q => by rw [updB_same] at q; cases q
  a1 := fun _ _ => ⟨by rw [updB_other (fun e => hbs e.symm)]; exact (h.a0 hL).2.1, h1⟩
  m := fun q _ => by rw [updB_other (fun e => hbc e.symm), (h.a0 hL).1] at q; cases q
  p := fun q => by rw [updB_other (fun e => hbs e.symm), (h.a0 hL).2.1] at q; cases q
theorem ZK.call (h : ZK Z b c s P0 P1 Mid Post L f W) {v : Value} {W' : World} (hbc : b ≠ c) (hcs : c ≠ s) (hLb : L b = true) (hLc : L c = false) (hM : Mid v W') : ZK Z b c s P0 P1 Mid Post (updB L c) (upd f c v) W' where
  vals := fun j q1 q2 hL => by
    rw [updB_other q1] at hL; rw [upd_other q1]; exact h.vals j q1 q2 hL
  a0 := fun q => by rw [updB_other hbc, hLb] at q; cases q
  a1 := fun _ q => by rw [updB_same] at q; cases q
  m := fun _ _ => by rw [upd_same]; exact hM
  p := fun q => by rw [updB_other (fun e => hcs e.symm), (h.a1 hLb hLc).1] at q; cases q
theorem ZK.store (h : ZK Z b c s P0 P1 Mid Post L f W) {v : Value} {W' : World} (hbs : b ≠ s) (hcs : c ≠ s) (hLb : L b = true) (hLc : L c = true) (hP : Post W') : ZK Z b c s P0 P1 Mid Post (updB L s) (upd f s v) W' where
  vals := fun j q1 q2 hL => by
    rw [updB_other q2] at hL; rw [upd_other q2]; exact h.vals j q1 q2 hL
  a0 := fun q => by rw [updB_other hbs, hLb] at q; cases q
  a1 := fun _ q => by rw [updB_other hcs, hLc] at q; cases q
  m := fun _ q => by rw [updB_same] at q; cases q
  p := fun _ => hP
end
/-- an append onto an owned row, as one operation -/
theorem oper_append_own {P : Program} {Q : Exit → Act → World → Prop} {w : World} {o : Oper} {a : Act} {K : Act → World → Prop} (s x : Operand) (t : TypeId)
    (ho : o.op = .call { callee := .builtin .append, args := #[s, x], argTypes := #[t, t] })
    (base : Nat) (e : TypeId) (i : TypeInfo) (z : Value) (size bytes : Nat) (ht : P.underlying t = some (.slice e)) (hi : P.info? e = some i) (hz : i.zero = some z)
    (hsize : i.size = size) (hby : i.bytes = bytes) (hzs : z.cells.size = size) (hsz : 0 < size)
    (v : Value) (n : Nat) (xs : List Value) (hs : a.eval s = v) (hown : w.ownsRow base e size v n xs)
    (ad : Addr) (m c : Nat) (news : List Value) (hx : a.eval x = .slice (some ad) m c) (hl : news.length = m * size) (hnews : ∀ j u, news[j]? = some u → w.cell? (ad.add j) = some u) (h1 : ∀ u ∈ news, u.oneCell' = true)
    (h63 : n + m ≤ maxLen) (hbytes : (n + m) * bytes ≤ 140737488355328) (hbase : base ≤ w.heap.size)
    (h : ∀ v' w', w'.ownsRow base e size v' (n + m) (xs ++ news) → w.grownBy w' v.ownBlock → (v'.ownBlock = v.ownBlock ∨ v'.ownBlock = some w.heap.size) → K (a.put o.dst v') w') : o.wp P a w K Q := by
  obtain ⟨v', w', hr, h2, h3, h4, h5⟩ := run_append_own_at (P := P) w base t o.type e i z size bytes ht hi hz hsize hby hzs hsz v n xs hown ad m c news hl hnews h1 h63 hbytes hbase
  unfold Oper.wp
  simp [execOp, ho, resolve, invoke, builtin, hs, hx, hr, Result.andThen]
  exact h v' w' h2 h3 h5
end Go.Proofs.YtkigenldiinioaaGreatDoor
