/- Several texts, joined: CellA, BtRa, RgPhI -/
import Derived.Test.YtkigenldiinioaaGreatDoorQ10M
import Derived.Test.YtkigenldiinioaaGreatDoorQ17M
import Derived.Test.YtkigenldiinioaaGreatDoorQ13M
import Derived.Test.YtkigenldiinioaaGreatDoorQ18M
import Derived.OrdersIn
/- Rows lie in blocks of cells. -/
namespace Go.Proofs.YtkigenldiinioaaGreatDoor
open Go.RowKit
open Vl (V)
/-- a block of cells lies there -/
def CellsAt (W : World) (g : Nat) : Prop := ∃ cs t fr, W.heap[g]? = some (.cells cs t fr)
theorem CellsAt.of_cell {W : World} {g o : Nat} {v : Value} (h : W.cell? ⟨g, o, none⟩ = some v) : CellsAt W g := by
  unfold World.cell? at h
  unfold CellsAt
  cases hg : W.heap[g]? with
  | none => simp [hg] at h
  | some ob =>
    cases ob with
    | cells cs t fr => exact ⟨cs, t, fr, rfl⟩
    | _ => simp [hg] at h
theorem CellsAt.keep {W W' : World} {g : Nat} (h : CellsAt W g) (hb : W'.heap[g]? = W.heap[g]?) : CellsAt W' g := by
  obtain ⟨cs, t, fr, e⟩ := h
  exact ⟨cs, t, fr, hb.trans e⟩
mutual
/-- rows lie in blocks of cells -/
theorem repA_cells {W : World} {A : Nat → Prop} : ∀ (t : V) (v : Value), RepA W A t v → RepA W (fun g => A g ∧ CellsAt W g) t v
  | ⟨k, b, n, s, l, f⟩, v, h => by
    rw [RepA] at h ⊢
    obtain ⟨ao, lc, fo, fc, h1, h2, h3, h4, h5, h6, h7, h8⟩ := h
    refine ⟨ao, lc, fo, fc, h1, h2, h3, h4, h5, h6, fun hp => ?_, fun hp => ?_⟩
    · obtain ⟨g, o, e, hg, hr, hz⟩ := h7 hp
      refine ⟨g, o, e, ⟨hg, ?_⟩, repLA_cells l o hr, hz⟩
      cases l with
      | nil => simp at hp
      | cons x r =>
        rw [RepLA] at hr
        obtain ⟨⟨c0, c1, c2, c3, c4, c5, h6', _⟩, _⟩ := hr
        exact CellsAt.of_cell h6'.1
    · obtain ⟨g, o, e, hg, hr, hz⟩ := h8 hp
      refine ⟨g, o, e, ⟨hg, ?_⟩, repFA_cells f o hr, hz⟩
      cases f with
      | nil => simp at hp
      | cons x r =>
        obtain ⟨m, x⟩ := x
        rw [RepFA] at hr
        exact CellsAt.of_cell hr.1.1
theorem repLA_cells {W : World} {A : Nat → Prop} {g : Nat} : ∀ (l : List V) (o : Nat), RepLA W A g o l → RepLA W (fun g => A g ∧ CellsAt W g) g o l
  | [], _, _ => by rw [RepLA]; trivial
  | x :: r, o, h => by
    rw [RepLA] at h ⊢
    obtain ⟨⟨c0, c1, c2, c3, c4, c5, h1, h2⟩, h3⟩ := h
    exact ⟨⟨c0, c1, c2, c3, c4, c5, h1, repA_cells x _ h2⟩, repLA_cells r _ h3⟩
theorem repFA_cells {W : World} {A : Nat → Prop} {g : Nat} : ∀ (l : List (ByteArray × V)) (o : Nat), RepFA W A g o l → RepFA W (fun g => A g ∧ CellsAt W g) g o l
  | [], _, _ => by rw [RepFA]; trivial
  | (m, x) :: r, o, h => by
    rw [RepFA] at h ⊢
    obtain ⟨⟨h0, hm, c0, c1, c2, c3, c4, c5, h1, h2⟩, h3⟩ := h
    exact ⟨⟨h0, hm, c0, c1, c2, c3, c4, c5, h1, repA_cells x _ h2⟩, repFA_cells r _ h3⟩
end
end Go.Proofs.YtkigenldiinioaaGreatDoor
/- What Range hands out: entries in memory of their own, in a row that grows. -/
namespace Go.Proofs.YtkigenldiinioaaGreatDoor
open Go.RowKit Go.Shelf
open Vl (V)
/-- blocks of cells behind a border, but not the row itself -/
def RA (B : Nat) (v : Value) (W : World) (g : Nat) : Prop := (B + 1 ≤ g ∧ g < W.heap.size ∧ v.ownBlock ≠ some g) ∧ CellsAt W g
/-- an entry's seven cells -/
def EntC (W : World) (A : Nat → Prop) (k : V) (l : List Nat) (c : List Value) : Prop :=
  ∃ k0 k1 k2 k3 k4 k5 i cap, c = [k0, k1, k2, k3, k4, k5, .slice (some ⟨i, 0, none⟩) l.length cap] ∧ RepA W A k (.agg #[k0, k1, k2, k3, k4, k5]) ∧ A i ∧ IdsAt W (.slice (some ⟨i, 0, none⟩) l.length cap) l
theorem EntC.stays {W W' : World} {A A' : Nat → Prop} {k : V} {l : List Nat} {c : List Value} (h : EntC W A k l c) (hb : ∀ g, A g → W'.heap[g]? = W.heap[g]?) (hA : ∀ g, A g → A' g) : EntC W' A' k l c := by
  obtain ⟨k0, k1, k2, k3, k4, k5, i, cap, h1, h2, h3, h4⟩ := h
  refine ⟨k0, k1, k2, k3, k4, k5, i, cap, h1, repA_stays hb hA _ _ h2, hA i h3, owns_stays h4 fun g hg => ?_⟩
  obtain rfl : g = i := by injection hg with hg; exact hg.symm
  exact hb g h3
theorem EntC.cells {W : World} {A : Nat → Prop} {k : V} {l : List Nat} {c : List Value} (h : EntC W A k l c) : EntC W (fun g => A g ∧ CellsAt W g) k l c := by
  obtain ⟨k0, k1, k2, k3, k4, k5, i, cap, h1, h2, h3, h4⟩ := h
  refine ⟨k0, k1, k2, k3, k4, k5, i, cap, h1, repA_cells _ _ h2, ⟨h3, ?_⟩, h4⟩
  rcases h4.2 with ⟨h5, _⟩ | ⟨g', cap2, cur, h5, _, h6, _⟩
  · cases h5
  · cases h5; exact ⟨_, _, _, h6⟩
/-- what has been handed out so far -/
structure RI (w : World) (B : Nat) (key : Nat → V) (ids : Nat → List Nat) (es : List Nat) (v : Value) (W : World) : Prop where
  below : Below w.heap.size w W
  box : W.heap[B]? = some (.cells #[v] 22 (0, 0))
  ents : ∃ cs : List (List Value), cs.length = es.length ∧ W.ownsRow (B + 1) 49 7 v es.length cs.flatten ∧ ∀ (j e : Nat) (c : List Value), es[j]? = some e → cs[j]? = some c → EntC W (RA B v W) (key e) (ids e) c
theorem RI.start {w W : World} {B : Nat} {key : Nat → V} {ids : Nat → List Nat} (hb : Below w.heap.size w W) (hx : W.heap[B]? = some (.cells #[.slice none 0 0] 22 (0, 0))) : RI w B key ids [] (.slice none 0 0) W :=
  ⟨hb, hx, [], rfl, ⟨rfl, .inl ⟨rfl, rfl⟩⟩, fun j e c h => by simp at h⟩
theorem RI.own {β : Type} {w : World} {B C : Nat} {key : Nat → V} {ids : Nat → List Nat} (f : β → List Nat) (hC : w.heap.size ≤ C) : OwnFrom C (fun s W => ∃ v, RI w B key ids (f s) v W) := by
  rintro s W W' row ⟨v, h⟩ hg hr
  have cel : ∀ g, CellsAt W g → W'.heap[g]? = W.heap[g]? := fun g ⟨cs, t, fr, h0⟩ => by
    refine hg.block g (lt_of_row h0) fun e => ?_
    obtain ⟨_, o, h2, h3⟩ := hr g e.symm
    rw [h0] at h2
    injection h2 with h2
    subst h2
    cases h3
  obtain ⟨cs, h1, h2, h3⟩ := h.ents
  refine ⟨v, h.below.grown hg h.below.size (fun k e => Nat.le_trans hC (hr k e).1), (cel _ ⟨_, _, _, h.box⟩).trans h.box, cs, h1, owns_stays h2 fun g hg' => ?_, fun j e c he hc => (h3 j e c he hc).stays (fun g q => cel g q.2) fun g q => ⟨⟨q.1.1, Nat.lt_of_lt_of_le q.1.2.1 hg.size, q.1.2.2⟩, q.2.keep (cel g q.2)⟩⟩
  rcases h2.2 with ⟨rfl, _⟩ | ⟨g', cap, cur, rfl, _, h5, _⟩
  · cases hg'
  · cases hg'; exact cel _ ⟨_, _, _, h5⟩
/-- one more is handed out -/
theorem RI.step {w W0 W W' : World} {B H C : Nat} {key : Nat → V} {ids : Nat → List Nat} {es : List Nat} {v v' : Value} {e : Nat} {c : List Value} {cs : List (List Value)} (h : RI w B key ids es v W0) (hB : w.heap.size ≤ B) (hH : H ≤ B) (hC : B + 1 ≤ C) (hs0 : B + 1 ≤ W0.heap.size)
    (h1 : cs.length = es.length) (h2 : W0.ownsRow (B + 1) 49 7 v es.length cs.flatten) (h3 : ∀ (j e : Nat) (c : List Value), es[j]? = some e → cs[j]? = some c → EntC W0 (RA B v W0) (key e) (ids e) c)
    (hW : Below W0.heap.size W0 W) (hE : EntC W (fun g => W0.heap.size ≤ g ∧ g < W.heap.size) (key e) (ids e) c) (ho : W'.ownsRow (B + 1) 49 7 v' (es.length + 1) (cs.flatten ++ c)) (hg : W.grownBy W' v.ownBlock) (hv : v'.ownBlock = v.ownBlock ∨ v'.ownBlock = some W.heap.size) :
    W'.heap[B]? = some (.cells #[v] 22 (0, 0)) ∧ KeepsFrom C W0 (W'.setCell ⟨B, 0, none⟩ v') ∧ Kq H W0 (W'.setCell ⟨B, 0, none⟩ v') ∧ RI w B key ids (es ++ [e]) v' (W'.setCell ⟨B, 0, none⟩ v') := by
  have hown : ∀ k, v.ownBlock = some k → B + 1 ≤ k ∧ k < W0.heap.size ∧ ∃ cur, W0.heap[k]? = some (.cells cur 49 (0, 0)) := fun k hk => by
    rcases h2.2 with ⟨rfl, _⟩ | ⟨g, cap, cur, rfl, q2, q3, _⟩
    · cases hk
    · cases hk; exact ⟨q2, lt_of_row q3, cur, q3⟩
  have s1 := hW.size
  have s2 := hg.size
  have hbl := lt_of_row h.box
  have hbx1 : W.heap[B]? = some (.cells #[v] 22 (0, 0)) := (hW.block _ hbl).trans h.box
  have hbx : W'.heap[B]? = some (.cells #[v] 22 (0, 0)) := (hg.block _ (lt_of_row hbx1) fun q => by have := (hown _ q.symm).1; omega).trans hbx1
  have blk : ∀ k, k < W.heap.size → k ≠ B → v.ownBlock ≠ some k → (W'.setCell ⟨B, 0, none⟩ v').heap[k]? = W.heap[k]? := fun k p1 p2 p3 => by
    rw [heap_setCell_other _ _ _ _ p2]
    exact hg.block k p1 fun q => p3 q.symm
  have hss : (W'.setCell ⟨B, 0, none⟩ v').heap.size = W'.heap.size := by simp
  refine ⟨hbx, ⟨by rw [hss]; omega, fun k o hk h0 ho' => ?_⟩, ⟨?_, fun k ks ty fr h0 ht => ?_⟩, ⟨?_, heap_setCell_same W' B 0 _ 22 v' hbx, cs ++ [c], by simp [h1], ?_, fun j f d hf hd => ?_⟩⟩
  · have hk2 := lt_of_row h0
    rw [blk k (by omega) (by omega) fun q => ?_, hW.block k hk2, h0]
    obtain ⟨_, _, cur, q2⟩ := hown k q
    rw [h0] at q2
    injection q2 with q2
    subst q2
    cases ho'
  · have g3 : Below H W0 W' := (hW.mono (by omega)).grown hg (by omega) (fun k q => by have := (hown k q).1; omega)
    exact g3.setCell (p := ⟨B, 0, none⟩) (by show H ≤ B; omega) _
  · have hk2 := lt_of_row h0
    rw [blk k (by omega) (fun q => ?_) fun q => ?_, hW.block k hk2]
    · rw [q, h.box] at h0
      simp only [Option.some.injEq, Obj.cells.injEq] at h0
      exact ht (by rw [← h0.2.1]; decide)
    · obtain ⟨_, _, cur, q2⟩ := hown k q
      rw [h0] at q2
      simp only [Option.some.injEq, Obj.cells.injEq] at q2
      exact ht (by rw [q2.2.1]; decide)
  · have g3 : Below w.heap.size w W' := (h.below.trans (hW.mono h.below.size)).grown hg (Nat.le_trans h.below.size s1) (fun k q => by have := (hown k q).1; omega)
    exact g3.setCell (p := ⟨B, 0, none⟩) (by show w.heap.size ≤ B; omega) _
  · rw [List.flatten_append, List.flatten_singleton, List.length_append, List.length_singleton]
    refine owns_stays ho fun g hg' => ?_
    rcases ho.2 with ⟨rfl, _⟩ | ⟨g2, cap, cur, rfl, q2, q3, _⟩
    · cases hg'
    · cases hg'
      exact heap_setCell_other _ _ _ _ (show g2 ≠ B by omega)
  · rcases Nat.lt_or_ge j es.length with q | q
    · rw [List.getElem?_append_left q] at hf
      rw [List.getElem?_append_left (by omega)] at hd
      refine (h3 j f d hf hd).stays (fun g p => ?_) fun g p => ?_
      · exact (blk g (by have := p.1.2.1; omega) (by have := p.1.1; omega) p.1.2.2).trans (hW.block g p.1.2.1)
      · have pb := p.1.1
        have pl := p.1.2.1
        refine ⟨⟨pb, by rw [hss]; omega, ?_⟩, p.2.keep ((blk g (by omega) (by omega) p.1.2.2).trans (hW.block g pl))⟩
        rcases hv with q2 | q2
        · rw [q2]; exact p.1.2.2
        · rw [q2]; intro q3; injection q3 with q3; omega
    · have hj : j = es.length := by
        have := (List.getElem?_eq_some_iff.1 hf).1
        simp at this
        omega
      subst hj
      rw [List.getElem?_append_right (Nat.le_refl _), Nat.sub_self] at hf
      rw [List.getElem?_append_right (by omega), h1, Nat.sub_self] at hd
      simp at hf hd
      subst hf hd
      refine hE.cells.stays (fun g p => ?_) fun g p => ?_
      · exact blk g p.1.2 (by have := p.1.1; omega) fun q2 => by have := (hown g q2).2.1; have := p.1.1; omega
      · have pl := p.1.1
        have pu := p.1.2
        have hne : v.ownBlock ≠ some g := fun q2 => by have := (hown g q2).2.1; omega
        refine ⟨⟨by omega, by rw [hss]; omega, ?_⟩, p.2.keep (blk g pu (by omega) hne)⟩
        rcases hv with q2 | q2
        · rw [q2]; exact hne
        · rw [q2]; intro q3; injection q3 with q3; omega
theorem aent_info : (Tryz.prog.info? 49).map (fun i => (i.size, i.bytes)) = some (7, 104) := by kernel_rfl
end Go.Proofs.YtkigenldiinioaaGreatDoor
/- The same region law within a round of a loop over an iterator. -/
namespace Go.Proofs.YtkigenldiinioaaGreatDoor
open Go.RowKit
section
variable {F : Fence} {nF : Nat} {P : Program} {ops : Array Oper} {Q : Exit → Act → World → Prop}
/-- the same where a fence is kept -/
theorem wpAnyIn_inv {md : Region.Mode} (Inv : Array Bool → Act → World → Prop) (hdone : ∀ listed a w, Inv listed a w → Region.ready md ops listed = [] → Q .normal a w)
    (hstep : ∀ listed a w i, Inv listed a w → i ∈ Region.ready md ops listed → wpOpIn F nF P ops Q i (Inv (listed.setIfInBounds i true)) a w) :
    ∀ (fuel : Nat) (L : List Nat) (listed : Array Bool) (a : Act) (w : World), (∀ j, j < ops.size → listed.getD j true = false → j ∈ L) → L.length ≤ fuel → Inv listed a w → wpAnyIn F nF P md ops Q fuel listed a w
  | 0, L, listed, a, w, hL, hl, hI => by
    have h0 : Region.ready md ops listed = [] := by
      cases hr : Region.ready md ops listed with
      | nil => rfl
      | cons i r =>
        exfalso
        have hi : i ∈ Region.ready md ops listed := by rw [hr]; simp
        have := hL i (ready_open hi).1 (ready_open hi).2
        have hn : L = [] := List.eq_nil_of_length_eq_zero (by omega)
        rw [hn] at this
        cases this
    exact ⟨h0, hdone _ _ _ hI h0⟩
  | fuel + 1, L, listed, a, w, hL, hl, hI => by
    refine ⟨hdone _ _ _ hI, fun i hi => wpOpIn_mono (fun a' w' h' => ?_) (hstep _ _ _ i hI hi)⟩
    have hm := hL i (ready_open hi).1 (ready_open hi).2
    refine wpAnyIn_inv Inv hdone hstep fuel (L.erase i) _ a' w' (fun j hj hd => ?_) ?_ h'
    · obtain ⟨h1, h2⟩ := getD_set _ _ _ hd
      exact (List.mem_erase_of_ne h1).2 (hL j hj h2)
    · rw [List.length_erase_of_mem hm]; omega
theorem wpOpIn_of {i : Nat} {o : Oper} {a : Act} {w : World} {K : Act → World → Prop} (ho : ops[i]? = some o) (hg : o.guard = none) (h : ∀ K' : Act → World → Prop, (∀ a w, K a w → K' a w) → o.wpIn F nF P a w K' Q) : wpOpIn F nF P ops Q i K a w := by
  unfold wpOpIn
  rw [ho]
  have hw : Region.wanted o (yielded ops a.tmps) = true := by simp [Region.wanted, hg]
  simp only [hw, if_true]
  exact h K fun _ _ q => q
theorem wpIn_region_inv {id : Nat} {a : Act} {w : World} (hm : P.follows .mixedOrders = true) (Inv : Array Bool → Act → World → Prop) (h0 : Inv (Array.replicate ops.size false) a w.drew)
    (hdone : ∀ listed a w, Inv listed a w → Region.ready .any ops listed = [] → Q .normal a w)
    (hstep : ∀ listed a w i, Inv listed a w → i ∈ Region.ready .any ops listed → wpOpIn F nF P ops Q i (Inv (listed.setIfInBounds i true)) a w) :
    (Code.region id ops true).wpIn F nF P Q a w :=
  wpIn_region_any hm (wpAnyIn_inv Inv hdone hstep ops.size (List.range ops.size) _ a _ (fun j hj _ => List.mem_range.2 hj) (by simp) h0)
theorem wpIn_region_ph {id : Nat} {a0 : Act} {w : World} (hm : P.follows .mixedOrders = true) (hb : backB ops = true) (pre : Nat → List Nat) (hp : preB ops pre = true) (G : (Nat → Value) → Act) (f0 : Nat → Value) (ha : a0 = G f0) (I : (Nat → Bool) → (Nat → Value) → World → Prop) (h0 : I (fun _ => false) f0 w.drew)
    (hstep : ∀ i, i < ops.size → ∀ L f W, L i = false → (∀ j, waits ops i j = true → L j = true) → (∀ j, i ∈ pre j → L j = false) → I L f W → wpOpIn F nF P ops Q i (fun a' W' => ∃ v, a' = G (upd f i v) ∧ I (updB L i) (upd f i v) W') (G f) W)
    (hdone : ∀ L f W, (∀ j, j < ops.size → L j = true) → I L f W → Q .normal (G f) W) : (Code.region id ops true).wpIn F nF P Q a0 w := by
  have hpre : ∀ i, i < ops.size → ∀ p ∈ pre i, waits ops i p = true ∨ ∃ m, m < i ∧ waits ops i m = true ∧ p ∈ pre m := by
    intro i hi p hpi
    have h1 := List.all_eq_true.1 (List.all_eq_true.1 hp i (List.mem_range.2 hi)) p hpi
    rw [Bool.or_eq_true] at h1
    rcases h1 with h1 | h1
    · exact .inl h1
    · rw [List.any_eq_true] at h1
      obtain ⟨m, hm, h2⟩ := h1
      rw [Bool.and_eq_true] at h2
      exact .inr ⟨m, List.mem_range.1 hm, h2.1, by simpa using h2.2⟩
  refine wpIn_region_inv hm (fun listed a W => listed.size = ops.size ∧ (∀ j, listed.getD j false = true → ∀ p ∈ pre j, listed.getD p false = true) ∧ ∃ f, a = G f ∧ I (fun j => listed.getD j false) f W) ?_ ?_ ?_
  · refine ⟨by simp, fun j h => ?_, f0, ha, ?_⟩
    · simp [Array.getD_eq_getD_getElem?, Array.getElem?_replicate] at h
      split at h <;> cases h
    · have e : (fun j => (Array.replicate ops.size false).getD j false) = fun _ => false := by
        funext j
        simp [Array.getD_eq_getD_getElem?, Array.getElem?_replicate]
        split <;> rfl
      rw [e]
      exact h0
  · rintro listed a W ⟨hsz, _, f, rfl, hI⟩ hr
    refine hdone _ f W (fun j hj => ?_) hI
    have h1 := all_listed hsz hb hr (j + 1) j (by omega) hj
    have h2 : j < listed.size := by omega
    rw [Array.getD_eq_getD_getElem?, Array.getElem?_eq_getElem h2] at h1 ⊢
    simpa using h1
  · rintro listed a W i ⟨hsz, hcl, f, rfl, hI⟩ hi
    obtain ⟨his, hio⟩ := ready_open hi
    have hif : listed.getD i false = false := by
      have h2 : i < listed.size := by omega
      rw [Array.getD_eq_getD_getElem?, Array.getElem?_eq_getElem h2] at hio ⊢
      simpa using hio
    have hset : ∀ j, j ≠ i → (listed.setIfInBounds i true).getD j false = listed.getD j false := fun j e => by
      rw [Array.getD_eq_getD_getElem?, Array.getElem?_setIfInBounds, if_neg (fun q => e q.symm), Array.getD_eq_getD_getElem?]
    have hself : (listed.setIfInBounds i true).getD i false = true := by
      rw [Array.getD_eq_getD_getElem?, Array.getElem?_setIfInBounds, if_pos rfl, if_pos (by omega)]; rfl
    have hall : ∀ p ∈ pre i, listed.getD p false = true := fun p hpi => by
      rcases hpre i his p hpi with h | ⟨m, _, h, hm⟩
      · exact ready_waits hi p h
      · exact hcl m (ready_waits hi m h) p hm
    have hno : ∀ j, i ∈ pre j → listed.getD j false = false := fun j hj => by
      cases h : listed.getD j false with
      | false => rfl
      | true => have := hcl j h i hj; rw [hif] at this; cases this
    refine wpOpIn_mono ?_ (hstep i his _ f W hif (ready_waits hi) hno hI)
    rintro a' W' ⟨v, rfl, h1⟩
    have e : (fun j => (listed.setIfInBounds i true).getD j false) = updB (fun j => listed.getD j false) i := by
      funext j
      by_cases q : j = i
      · subst q; rw [hself, updB_same]
      · rw [hset j q, updB_other q]
    refine ⟨by simp [hsz], fun j hl p hpj => ?_, upd f i v, rfl, by rw [e]; exact h1⟩
    have hp1 : listed.getD p false = true := by
      by_cases q : j = i
      · subst q; exact hall p hpj
      · rw [hset j q] at hl; exact hcl j hl p hpj
    by_cases q : p = i
    · subst q; exact hself
    · rw [hset p q]; exact hp1
end
end Go.Proofs.YtkigenldiinioaaGreatDoor
