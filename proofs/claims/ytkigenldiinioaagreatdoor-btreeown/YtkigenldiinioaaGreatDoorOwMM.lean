/- BtreeOwn: memory that its asker spoils, told apart from a tree's. -/
import Derived.Test.YtkigenldiinioaaGreatDoorRgEM
import Derived.Test.YtkigenldiinioaaGreatDoorShWM
import Derived.Test.YtkigenldiinioaaGreatDoorQ33M
namespace Go.Proofs.YtkigenldiinioaaGreatDoor
open Go.RowKit Go.Shelf
open Vl (V)
/-- nothing but blocks of a kind has turned, and these have as many cells as they had -/
structure SQ (X : Nat → Prop) (W0 W : World) : Prop where
  kept : Kept X W0 W
  has : ∀ g r v, W0.cell? ⟨g, r, none⟩ = some v → ∃ v', W.cell? ⟨g, r, none⟩ = some v'
  frozen : ∀ g r, g < W0.heap.size → W.frozen? ⟨g, r, none⟩ = W0.frozen? ⟨g, r, none⟩
theorem SQ.refl (X : Nat → Prop) (W : World) : SQ X W W := ⟨Kept.of_below (Below.refl _ _), fun _ _ v h => ⟨v, h⟩, fun _ _ _ => rfl⟩
theorem SQ.call {X : Nat → Prop} {W0 W W' : World} (h : SQ X W0 W) (hb : Below W.heap.size W W') : SQ X W0 W' := by
  refine ⟨h.kept.trans (G := fun _ => False) ⟨hb.os, hb.tape, hb.output, hb.size, fun k hk _ => hb.block k hk⟩ (fun _ _ q => q.elim), fun g r v hv => ?_, fun g r hg => ?_⟩
  · obtain ⟨v', h'⟩ := h.has g r v hv
    exact ⟨v', (hb.cell (p := ⟨g, r, none⟩) (Bn.lt_of_cell h')).trans h'⟩
  · exact (World.frozen?_of_block (w := W) (a := ⟨g, r, none⟩) (hb.block g (Nat.lt_of_lt_of_le hg h.kept.size))).trans (h.frozen g r hg)
theorem SQ.set {X : Nat → Prop} {W0 W : World} {g r : Nat} {v : Value} (h : SQ X W0 W) (hc : W0.cell? ⟨g, r, none⟩ = some v) (hX : X g) (u : Value) : SQ X W0 (W.setCell ⟨g, r, none⟩ u) := by
  obtain ⟨v', hv'⟩ := h.has g r v hc
  refine ⟨⟨h.kept.os, h.kept.tape, h.kept.output, by simpa using h.kept.size, fun k hk hx => ?_⟩, fun k q x hx => ?_, fun k q hk => (World.frozen?_setCell _ _ _ _).trans (h.frozen k q hk)⟩
  · rw [heap_setCell_other _ _ _ _ (show k ≠ g from fun e => hx (e ▸ hX))]
    exact h.kept.block k hk hx
  · by_cases e : (⟨g, r, none⟩ : Addr) = ⟨k, q, none⟩
    · cases e
      exact ⟨u, World.cell?_setCell_same _ _ _ hv'⟩
    · rw [World.cell?_setCell_other _ _ _ _ e]
      exact h.has k q x hx
theorem SQ.sets {X : Nat → Prop} {W0 : World} {g : Nat} (hX : X g) : ∀ (us : List Value) (r : Nat) (W : World), SQ X W0 W → (∀ j, j < us.length → ∃ v, W0.cell? ⟨g, r + j, none⟩ = some v) → SQ X W0 (W.setCells g r us)
  | [], _, _, h, _ => h
  | u :: us, r, W, h, hc => by
    rw [World.setCells]
    obtain ⟨v, hv⟩ := hc 0 (by simp)
    refine SQ.sets hX us (r + 1) _ (h.set hv hX u) fun j hj => ?_
    obtain ⟨v, hv⟩ := hc (j + 1) (by simp; omega)
    exact ⟨v, by rw [← hv]; congr 2; omega⟩
section
variable {w w' : World} {F O X : Nat → Prop} {tb : Nat} {t : Bt.T} {key : Nat → V} {ids : Nat → List Nat} {ir : Nat → Nat} {n : Nat} {L : Bt.KL}
/-- new blocks that are no key's -/
theorem TA.widen (h : TA w F tb t key ids ir n) (hb : Below w.heap.size w w') (hX : ∀ g, X g → w.heap.size ≤ g ∧ g < w'.heap.size) : TA w' (fun g => F g ∨ X g) tb t key ids ir n where
  box := (hb.block _ (lt_of_row h.box)).trans h.box
  lt := fun g hg => hg.elim (fun q => Nat.lt_of_lt_of_le (h.lt g q) hb.size) fun q => (hX g q).2
  fbox := .inl h.fbox
  nt := nt_stays h.nt fun g hg => hb.block g (h.lt g (h.fnt g hg))
  fnt := fun g hg => .inl (h.fnt g hg)
  nd := h.nd
  ent := fun e he => ⟨.inl (h.ent e he).1, .inl (h.ent e he).2.1, (h.ent e he).2.2.stays (hb.block _ (h.lt _ (h.ent e he).1)) (hb.block _ (h.lt _ (h.ent e he).2.1)) fun g hg hf => ⟨hb.block g hg, Nat.lt_of_lt_of_le hg hb.size, fun q => q.elim hf fun q2 => by have := (hX g q2).1; omega⟩⟩
  inj := h.inj
  wf := h.wf
  rises := h.rises
  lev := h.lev
  small := h.small
  asc := h.asc
  sum := h.sum
  le := h.le
theorem TSt.widen (h : TSt w F O tb L) (hb : Below w.heap.size w w') (hX : ∀ g, X g → w.heap.size ≤ g ∧ g < w'.heap.size) : TSt w' (fun g => F g ∨ X g) O tb L := by
  obtain ⟨t, key, ids, ir, n, h1, h2, h3, h4⟩ := h
  exact ⟨t, key, ids, ir, n, h1.widen hb hX, h2, h3, fun g hg => .inl (h4 g hg)⟩
/-- blocks that are no part of the tree turn -/
theorem TSt.spoilt (h : TSt w F O tb L) (hk : Kept X w w') (hX : ∀ g, X g → F g ∧ ¬ O g) : TSt w' F O tb L := by
  obtain ⟨t, key, ids, ir, n, h1, h2, h3, h4⟩ := h
  have hO : ∀ g, OB tb t ir g → w'.heap[g]? = w.heap[g]? := fun g hg => hk.block g (h1.lt g (h4 g (h3 g hg))) fun q => (hX g q).2 (h3 g hg)
  refine ⟨t, key, ids, ir, n, { h1 with
    box := (hO _ (.inl rfl)).trans h1.box
    lt := fun g hg => Nat.lt_of_lt_of_le (h1.lt g hg) hk.size
    nt := nt_stays h1.nt fun g hg => hO g (.inr (.inl hg))
    ent := fun e he => ⟨(h1.ent e he).1, (h1.ent e he).2.1, (h1.ent e he).2.2.stays (hO _ (.inr (.inr ⟨e, he, .inl rfl⟩))) (hO _ (.inr (.inr ⟨e, he, .inr rfl⟩))) fun g hg hf => ⟨hk.block g hg fun q => hf (hX g q).1, Nat.lt_of_lt_of_le hg hk.size, hf⟩⟩ }, h2, h3, h4⟩
theorem TSt.ltF (h : TSt w F O tb L) : ∀ g, F g → g < w.heap.size := by
  obtain ⟨t, key, ids, ir, n, h1, _⟩ := h
  exact h1.lt
end
/-- a tree, and a list beside it; blocks that are neither's, kept out of it -/
def TX (W : World) (X : Nat → Prop) (tb : Nat) (a : Option Addr) (Mt Me : Bt.KL) : Prop := ∃ F O, TSt W F O tb Mt ∧ EntsA W (fun g => g < W.heap.size ∧ ¬ F g) a Me ∧ ∀ g, X g → F g ∧ ¬ O g
theorem TX.spoilt {W W' : World} {X : Nat → Prop} {tb : Nat} {a : Option Addr} {M N : Bt.KL} (h : TX W X tb a M N) (hk : Kept X W W') : TX W' X tb a M N := by
  obtain ⟨F, O, h1, h2, h3⟩ := h
  exact ⟨F, O, h1.spoilt hk h3, h2.stays (fun g hg => hk.block g hg.1 fun q => hg.2 (h3 g q).1) (fun g hg => ⟨Nat.lt_of_lt_of_le hg.1 hk.size, hg.2⟩), h3⟩
theorem TX.widen {W W' : World} {X Y : Nat → Prop} {tb : Nat} {a : Option Addr} {M N : Bt.KL} (h : TX W X tb a M N) (hb : Below W.heap.size W W') (hY : ∀ g, Y g → W.heap.size ≤ g ∧ g < W'.heap.size) : TX W' Y tb a M N := by
  obtain ⟨F, O, h1, h2, h3⟩ := h
  refine ⟨_, O, h1.widen hb hY, h2.stays (fun g hg => hb.block g hg.1) (fun g hg => ⟨Nat.lt_of_lt_of_le hg.1 hb.size, fun q => q.elim hg.2 fun q2 => by have := (hY g q2).1; have := hg.1; omega⟩), fun g hg => ⟨.inr hg, fun q => ?_⟩⟩
  have := h1.ltF g (h1.own_in g q)
  have := (hY g hg).1
  omega
theorem TX.ex {W : World} {X : Nat → Prop} {tb : Nat} {a : Option Addr} {M N : Bt.KL} (h : TX W X tb a M N) : ∃ F O, TSt W F O tb M := by
  obtain ⟨F, O, h1, _⟩ := h
  exact ⟨F, O, h1⟩
theorem TX.at {W : World} {X : Nat → Prop} {tb : Nat} {a : Option Addr} {M N : Bt.KL} (h : TX W X tb a M N) (hl : Bt.LW N) : EntsAt W a N := by
  obtain ⟨F, O, h1, h2, _⟩ := h
  exact h2.at (fun g hg => hg.1) fun p hp => by have := hl.few hp; omega
/-- Put of what was copied -/
theorem own_put {w2 w3 w5 : World} {tb : Nat} {L : Bt.KL} {a : Option Addr} {hi : Nat} {x : V} {v : Value} (h : FS w2 tb L L a (fun _ _ => False) w3) (hU : Bn.HasU w5) (hb : Below w3.heap.size w3 w5) (hhi : hi ≤ w5.heap.size) (hv : Rep w5 w5.heap.size x v) (id : Nat) :
    Calls Tryz.prog 24 #[.pointer (some ⟨tb, 0, none⟩), v, .int .u64 (id : Int)] w5 fun ex w' => ex = .returned (.int .i64 (Bt.perr x id L : Int)) ∧ TX w' (fun g => w3.heap.size ≤ g ∧ g < hi) tb a (if Bt.perr x id L = 0 then Bt.lput x id L else L) L ∧ Below w2.heap.size w5 w' ∧ ∀ g, w3.heap.size ≤ g → g < w5.heap.size → w'.heap[g]? = w5.heap[g]? := by
  obtain ⟨F, O, h1, h2, h3⟩ := h.ex
  have hX : ∀ g, (w3.heap.size ≤ g ∧ g < hi) → w3.heap.size ≤ g ∧ g < w5.heap.size := fun g hg => ⟨hg.1, by omega⟩
  have t5 := h1.widen hb hX
  refine (put_a t5 hU hv id).mono ?_
  rintro ex w' ⟨rfl, F', O', k1, k2⟩
  have oF : ∀ g, O g → F g := h1.own_in
  have oL : ∀ g, O g → g < w3.heap.size := fun g hg => h1.ltF g (oF g hg)
  refine ⟨rfl, ⟨F', O', k1, h2.stays (fun g hg => (k2.kept.block g (Nat.lt_of_lt_of_le hg.1 hb.size) fun q => hg.2 (oF g q)).trans (hb.block g hg.1)) (fun g hg => ⟨Nat.lt_of_lt_of_le (Nat.lt_of_lt_of_le hg.1 hb.size) k2.kept.size, fun q => ?_⟩), fun g hg => ⟨k2.up g (.inr hg), fun q => ?_⟩⟩, k2.kept.below (fun g hg => (h3 g (oF g hg)).1) (Nat.le_trans h.below.size hb.size), fun g g1 g2 => k2.kept.block g g2 fun q => by have := oL g q; omega⟩
  · rcases k2.new g q with (q2 | q2) | q2
    · exact hg.2 q2
    · have := hg.1; omega
    · have := hg.1; have := hb.size; omega
  · rcases k2.onew g q with q2 | q2
    · have := oL g q2; omega
    · omega
/-- the list's -/
theorem own_rput {W : World} {X : Nat → Prop} {tb : Nat} {a : Option Addr} {M L : Bt.KL} {x : V} {v : Value} (ca : Nat) (h : TX W X tb a M L) (hL : Bt.LW L) (hv : Rep W W.heap.size x v) (id : Nat) :
    Calls Tryz.prog 27 #[.slice a L.length ca, v, .int .u64 (id : Int)] W fun ex w' => ∃ a' n c, ex = .returned (.tuple #[.slice a' n c, .int .i64 (Bt.perr x id L : Int)]) ∧ n = (if Bt.perr x id L = 0 then Bt.lput x id L else L).length ∧ TX w' X tb a' M (if Bt.perr x id L = 0 then Bt.lput x id L else L) ∧ Below W.heap.size W w' := by
  obtain ⟨F, O, h1, h2, h3⟩ := h
  refine (rput_c L a ca W (fun g => g < W.heap.size ∧ ¬ F g) x v id hL (fun g hg => hg.1) h2 hv).mono ?_
  rintro ex w' ⟨a', n, c, rfl, hn, hA, hb⟩
  refine ⟨a', n, c, rfl, hn, ⟨F, O, h1.stays hb, hA.stays (fun _ _ => rfl) (fun g hg => ?_), h3⟩, hb⟩
  rcases hg with q | q
  · exact ⟨Nat.lt_of_lt_of_le q.1 hb.size, q.2⟩
  · exact ⟨q.2, fun q2 => by have := h1.ltF g q2; omega⟩
/-- a row of so many cells in new memory that may be spoilt -/
def Spare (W : World) (X : Nat → Prop) (k : Nat) (v : Value) : Prop := ∃ ao n c, v = .slice ao n c ∧ n ≤ maxLen ∧ (0 < n → ∃ g o, ao = some ⟨g, o, none⟩ ∧ X g ∧ (∀ r, W.frozen? ⟨g, r, none⟩ = false) ∧ ∀ m, m < n * k → ∃ u, W.cell? ⟨g, o + m, none⟩ = some u)
theorem Spare.list {W : World} {X : Nat → Prop} {k : Nat} {b : Bool} {n : Int} {s : ByteArray} {l : List V} {f : List (ByteArray × V)} {c0 c1 c2 c3 c4 c5 : Value} (h : RepA W X ⟨k, b, n, s, l, f⟩ (.agg #[c0, c1, c2, c3, c4, c5])) : Spare W X 6 c4 := by
  rw [RepA] at h
  obtain ⟨ao, lc, fo, fc, h1, h2, h3, h4, h5, h6, h7, h8⟩ := h
  simp only [Value.agg.injEq, Array.mk.injEq, List.cons.injEq, and_true] at h1
  obtain ⟨rfl, rfl, rfl, rfl, rfl, rfl⟩ := h1
  refine ⟨ao, _, lc, rfl, h5, fun hp => ?_⟩
  obtain ⟨g, o, e, hg, hr, hz⟩ := h7 hp
  refine ⟨g, o, e, hg, hz, fun m hm => ?_⟩
  obtain ⟨d0, d1, d2, d3, d4, d5, ⟨q0, q1, q2, q3, q4, q5⟩, _⟩ := repLA_at l o hr (m / 6) _ (List.getElem?_eq_getElem (by omega))
  have e1 : o + m = o + m / 6 * 6 + m % 6 := by omega
  rw [e1]
  have h6 : m % 6 < 6 := Nat.mod_lt _ (by omega)
  generalize m % 6 = r at h6 ⊢
  match r, h6 with
  | 0, _ => exact ⟨_, q0⟩
  | 1, _ => exact ⟨_, q1⟩
  | 2, _ => exact ⟨_, q2⟩
  | 3, _ => exact ⟨_, q3⟩
  | 4, _ => exact ⟨_, q4⟩
  | 5, _ => exact ⟨_, q5⟩
theorem Spare.fields {W : World} {X : Nat → Prop} {k : Nat} {b : Bool} {n : Int} {s : ByteArray} {l : List V} {f : List (ByteArray × V)} {c0 c1 c2 c3 c4 c5 : Value} (h : RepA W X ⟨k, b, n, s, l, f⟩ (.agg #[c0, c1, c2, c3, c4, c5])) : Spare W X 7 c5 := by
  rw [RepA] at h
  obtain ⟨ao, lc, fo, fc, h1, h2, h3, h4, h5, h6, h7, h8⟩ := h
  simp only [Value.agg.injEq, Array.mk.injEq, List.cons.injEq, and_true] at h1
  obtain ⟨rfl, rfl, rfl, rfl, rfl, rfl⟩ := h1
  refine ⟨fo, _, fc, rfl, h6, fun hp => ?_⟩
  obtain ⟨g, o, e, hg, hr, hz⟩ := h8 hp
  refine ⟨g, o, e, hg, hz, fun m hm => ?_⟩
  obtain ⟨⟨mm, xx⟩, hx⟩ : ∃ p, f[m / 7]? = some p := ⟨_, List.getElem?_eq_getElem (by omega)⟩
  obtain ⟨p0, _, d0, d1, d2, d3, d4, d5, ⟨q0, q1, q2, q3, q4, q5⟩, _⟩ := repFA_at f o hr (m / 7) mm xx hx
  have e1 : o + m = o + m / 7 * 7 + m % 7 := by omega
  rw [e1]
  have h6 : m % 7 < 7 := Nat.mod_lt _ (by omega)
  generalize m % 7 = r at h6 ⊢
  match r, h6 with
  | 0, _ => exact ⟨_, p0⟩
  | 1, _ => exact ⟨_, q0⟩
  | 2, _ => exact ⟨_, q1⟩
  | 3, _ => exact ⟨_, q2⟩
  | 4, _ => exact ⟨_, q3⟩
  | 5, _ => exact ⟨_, q4⟩
  | 6, _ => exact ⟨_, q5⟩
theorem Spare.slice {W : World} {X : Nat → Prop} {k n c : Nat} {ao : Option Addr} (h : Spare W X k (.slice ao n c)) : n ≤ maxLen ∧ (0 < n → ∃ g o, ao = some ⟨g, o, none⟩ ∧ X g ∧ (∀ r, W.frozen? ⟨g, r, none⟩ = false) ∧ ∀ m, m < n * k → ∃ u, W.cell? ⟨g, o + m, none⟩ = some u) := by
  obtain ⟨ao', n', c', e, h1, h2⟩ := h
  cases e
  exact ⟨h1, h2⟩
theorem Spare.form {W : World} {X : Nat → Prop} {k : Nat} {v : Value} (h : Spare W X k v) : ∃ ao n c, v = .slice ao n c := by
  obtain ⟨ao', n', c', e, _⟩ := h
  exact ⟨_, _, _, e⟩
/-- entries in a row of their own, whose parts may be spoilt -/
def YE (W : World) (X : Nat → Prop) (a : Option Addr) (n : Nat) : Prop := ∀ j, j < n → ∃ g k0 k1 k2 k3 k4 k5 y, a = some ⟨g, 0, none⟩ ∧ ¬ X g ∧ W.cell? ⟨g, j * 7, none⟩ = some k0 ∧ W.cell? ⟨g, j * 7 + 1, none⟩ = some k1 ∧ W.cell? ⟨g, j * 7 + 2, none⟩ = some k2 ∧ W.cell? ⟨g, j * 7 + 3, none⟩ = some k3 ∧ W.cell? ⟨g, j * 7 + 4, none⟩ = some k4 ∧ W.cell? ⟨g, j * 7 + 5, none⟩ = some k5 ∧ W.cell? ⟨g, j * 7 + 6, none⟩ = some y ∧ Spare W X 6 k4 ∧ Spare W X 1 y
theorem RI.ye {w W : World} {B : Nat} {key : Nat → V} {ids : Nat → List Nat} {es : List Nat} {v : Value} (h : RI w B key ids es v W) (hB : w.heap.size ≤ B) (hm : ∀ e ∈ es, (ids e).length ≤ maxLen) : ∃ a c X, v = .slice a es.length c ∧ YE W X a es.length ∧ ∀ g, X g → w.heap.size ≤ g ∧ g < W.heap.size := by
  obtain ⟨cs, h1, h2, h3⟩ := h.ents
  rcases h2.2 with ⟨rfl, h0⟩ | ⟨g, cap, cur, rfl, hBg, hcr, _, _, _, htk⟩
  · exact ⟨none, 0, fun _ => False, by rw [h0], fun j hj => by omega, fun _ q => q.elim⟩
  · refine ⟨_, cap, fun k => RA B (.slice (some ⟨g, 0, none⟩) es.length cap) W k, rfl, fun j hj => ?_, fun k q => ⟨by have := q.1.1; omega, q.1.2.1⟩⟩
    obtain ⟨e, hq⟩ : ∃ e, es[j]? = some e := ⟨_, List.getElem?_eq_getElem hj⟩
    obtain ⟨c, hc⟩ : ∃ c, cs[j]? = some c := ⟨_, List.getElem?_eq_getElem (by omega)⟩
    obtain ⟨k0, k1, k2, k3, k4, k5, i, cp, rfl, hr, hRA, hi⟩ := h3 j e c hq hc
    have h7 : ∀ c ∈ cs, c.length = 7 := fun c hc => by
      obtain ⟨m, hm⟩ := List.getElem?_of_mem hc
      have hml := (List.getElem?_eq_some_iff.1 hm).1
      exact (h3 m _ c (List.getElem?_eq_getElem (by omega)) hm).len
    have cell : ∀ r u, ([k0, k1, k2, k3, k4, k5, .slice (some ⟨i, 0, none⟩) (ids e).length cp] : List Value)[r]? = some u → W.cell? ⟨g, j * 7 + r, none⟩ = some u := fun r u hr => by
      have hr7 : r < 7 := (List.getElem?_eq_some_iff.1 hr).1
      refine cells_at hcr _ _ ?_
      have h8 := flat7 h7 hc hr7
      rw [hr, ← htk, List.getElem?_take_of_lt (by omega), Array.getElem?_toList] at h8
      exact h8
    obtain ⟨_, hil, hic⟩ := ids_cells hi
    refine ⟨g, k0, k1, k2, k3, k4, k5, _, rfl, fun q => q.1.2.2 rfl, cell 0 _ rfl, cell 1 _ rfl, cell 2 _ rfl, cell 3 _ rfl, cell 4 _ rfl, cell 5 _ rfl, cell 6 _ rfl, ?_, ?_⟩
    · generalize key e = x at hr
      obtain ⟨q0, q1, q2, q3, q4, q5⟩ := x
      exact Spare.list hr
    · refine ⟨some ⟨i, 0, none⟩, _, cp, rfl, hm e (List.mem_of_getElem? hq), fun _ => ⟨i, 0, rfl, hRA, own_free hi, fun m hm => ?_⟩⟩
      obtain ⟨x, hx⟩ : ∃ x, (ids e)[m]? = some x := ⟨_, List.getElem?_eq_getElem (by omega)⟩
      exact ⟨_, hic m x hx⟩
/-- all that a tree has, asked for, in memory that may be spoilt -/
theorem range_y {w : World} {F O : Nat → Prop} {tb : Nat} {L : Bt.KL} (h : TSt w F O tb L) (hU : Bn.HasU w) (BN : Value) (hBN : ∀ W H, Bnd W H none BN) : Calls Tryz.prog 11 #[.pointer (some ⟨tb, 0, none⟩), BN, BN] w fun ex w' => ∃ a c X, ex = .returned (.tuple #[.slice a L.length c, .int .i64 0]) ∧ YE w' X a L.length ∧ (∀ g, X g → w.heap.size ≤ g ∧ g < w'.heap.size) ∧ Below w.heap.size w w' := by
  obtain ⟨t, key, ids, ir, n, hT, hL, _, _⟩ := h
  refine (range_ok hT hU none none _ _ (hBN _ _) (hBN _ _) (fun p hp => by cases hp) (fun p hp => by cases hp)).mono ?_
  rintro ex w' ⟨v, B, rfl, hB, hR⟩
  rw [Bt.wl_flat hT.wf hT.rises] at hR
  have e0 : ((Bt.flat t).filter fun e => Bt.inR none none (key e)) = Bt.flat t := List.filter_eq_self.2 fun _ _ => rfl
  rw [e0] at hR
  obtain ⟨a, c, X, rfl, h1, h2⟩ := hR.ye hB fun e he => by have := hT.few he; have := hT.le; unfold maxLen; omega
  have e1 : (Bt.flat t).length = L.length := by rw [hL, Bt.cont, List.length_map]
  rw [e1] at h1 ⊢
  exact ⟨a, c, X, rfl, h1, h2, hR.below⟩
end Go.Proofs.YtkigenldiinioaaGreatDoor
