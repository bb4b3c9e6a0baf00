/- Several texts, joined: JnCm, JnCa, JnCh -/
import Derived.Test.YtggnfejjcgbebaaGreatDoorQKM
import Derived.Test.YtggnfejjcgbebaaGreatDoorXEM
import Derived.Test.YtggnfejjcgbebaaGreatDoorJIM
import Derived.Test.YtggnfejjcgbebaaGreatDoorXGM
/- Blocks that are read out of bytes, once and again: plain mathematics. -/
namespace Go.Proofs.YtggnfejjcgbebaaGreatDoor
open Go.RowKit
open Vl (V)
namespace Jn
theorem snoc_inj {α : Type} {a b : List α} {x y : α} (h : a ++ [x] = b ++ [y]) : a = b ∧ x = y := by
  have := List.append_inj' h rfl
  exact ⟨this.1, by simpa using this.2⟩
/-- the same texts are the same blocks -/
theorem Took.same {ts : List ByteArray} {bs : List B} (h : Took ts bs) : ∀ {bs' : List B}, Took ts bs' → bs = bs' := by
  induction h with
  | none =>
    intro bs' h'
    have := h'.len
    simp at this
    exact (List.eq_nil_of_length_eq_zero this.symm).symm
  | more h1 h2 h3 h4 h5 ih =>
    intro bs' h'
    generalize he : (_ ++ [_] : List ByteArray) = l at h'
    cases h' with
    | none => simp at he
    | more k1 k2 k3 k4 k5 =>
      obtain ⟨e1, e2⟩ := snoc_inj he
      subst e1
      rw [ih k1, btext_inj h2 k2 h3 k3 e2]
/-- the first of them -/
theorem Took.cut {ts : List ByteArray} {bs : List B} (h : Took ts bs) : ∀ {pre : List ByteArray} {x : ByteArray}, pre ++ [x] <+: ts → ∃ bs' b, Took pre bs' ∧ berr b = 0 ∧ rngB b ∧ btext b = x ∧ b.seq = bs'.length + 1 ∧ b.prev = prevOf bs' := by
  induction h with
  | none =>
    intro pre x hp
    have := hp.length_le
    simp at this
  | more h1 h2 h3 h4 h5 ih =>
    intro pre x hp
    rcases List.prefix_concat_iff.1 hp with h | h
    · obtain ⟨e1, e2⟩ := snoc_inj h
      subst e1
      exact ⟨_, _, h1, h2, h3, e2.symm, h4, h5⟩
    · exact ih h
/-- what is read of the bytes of frames that were read -/
theorem again {ts ts2 : List ByteArray} {bs bs2 : List B} (h : Took ts bs) (h2 : Took ts2 bs2) (hp : ts2 <+: ts) (he : ts2 = ts ∨ ∃ x, ts2 ++ [x] <+: ts ∧ Ends bs2 x) : ts2 = ts ∧ bs2 = bs := by
  rcases he with rfl | ⟨x, hx, hE⟩
  · exact ⟨rfl, h2.same h⟩
  · exfalso
    obtain ⟨bs', b, k1, k2, k3, k4, k5, k6⟩ := h.cut hx
    have e := k1.same h2
    subst e
    exact hE b k2 k3 k4 k5 k6
theorem Took.at {ts : List ByteArray} {bs : List B} (h : Took ts bs) : ∀ (i : Nat) (b : B), bs[i]? = some b → berr b = 0 ∧ rngB b ∧ b.seq = i + 1 ∧ b.prev = prevOf (bs.take i) := by
  induction h with
  | none => intro i b hb; simp at hb
  | @more ts bs b0 h1 h2 h3 h4 h5 ih =>
    intro i b hb
    by_cases hi : i < bs.length
    · rw [List.getElem?_append_left hi] at hb
      obtain ⟨k1, k2, k3, k4⟩ := ih i b hb
      exact ⟨k1, k2, k3, by rw [k4, List.take_append_of_le_length (by omega)]⟩
    · rw [List.getElem?_append_right (by omega)] at hb
      have h0 : i - bs.length = 0 := by
        have := (List.getElem?_eq_some_iff.1 hb).1
        simpa using this
      rw [h0] at hb
      simp only [List.getElem?_cons_zero, Option.some.injEq] at hb
      subst hb
      have hie : i = bs.length := by omega
      subst hie
      exact ⟨h2, h3, h4, by rw [h5, List.take_left]⟩
end Jn
end Go.Proofs.YtggnfejjcgbebaaGreatDoor
/- Blocks in a row, as they are looked at; the document's SameAll of blocks that are the same. -/
namespace Go.Proofs.YtggnfejjcgbebaaGreatDoor
open Go.RowKit
open Vl (V)
attribute [local go_sem ↓] Go.wp_at_zero Go.wp_at_succ
/-- a block in a row -/
structure BAt (W : World) (g j : Nat) (b : Jn.B) (sa : Option Addr) (sn sc : Nat) (ra : Option Addr) (rn rc : Nat) : Prop where
  c0 : W.cell? ⟨g, j * 5, none⟩ = some (.int .u64 (b.seq : Int))
  c1 : W.cell? ⟨g, j * 5 + 1, none⟩ = some (.string b.prev)
  c2 : W.cell? ⟨g, j * 5 + 2, none⟩ = some (.string b.root)
  c3 : W.cell? ⟨g, j * 5 + 3, none⟩ = some (.slice sa sn sc)
  c4 : W.cell? ⟨g, j * 5 + 4, none⟩ = some (.slice ra rn rc)
  bk : Bk W W.heap.size b sa sn sc ra rn rc
theorem BAt.call {W W' : World} {g j : Nat} {b : Jn.B} {sa : Option Addr} {sn sc : Nat} {ra : Option Addr} {rn rc : Nat} (h : BAt W g j b sa sn sc ra rn rc) (hg : g < W.heap.size) (hb : Below W.heap.size W W') : BAt W' g j b sa sn sc ra rn rc :=
  ⟨(hb.cell (p := ⟨g, _, none⟩) hg).trans h.c0, (hb.cell (p := ⟨g, _, none⟩) hg).trans h.c1, (hb.cell (p := ⟨g, _, none⟩) hg).trans h.c2, (hb.cell (p := ⟨g, _, none⟩) hg).trans h.c3, (hb.cell (p := ⟨g, _, none⟩) hg).trans h.c4, h.bk.stays hb hb.size⟩
/-- blocks in a row -/
def BV (W : World) (v : Value) (bs : List Jn.B) : Prop := ∃ a c, v = .slice a bs.length c ∧ (0 < bs.length → ∃ g, a = some ⟨g, 0, none⟩ ∧ g < W.heap.size ∧ ∀ j b, bs[j]? = some b → ∃ sa sn sc ra rn rc, BAt W g j b sa sn sc ra rn rc)
theorem BV.call {W W' : World} {v : Value} {bs : List Jn.B} (h : BV W v bs) (hb : Below W.heap.size W W') : BV W' v bs := by
  obtain ⟨a, c, e, h1⟩ := h
  refine ⟨a, c, e, fun hp => ?_⟩
  obtain ⟨g, e2, hg, hc⟩ := h1 hp
  refine ⟨g, e2, Nat.lt_of_lt_of_le hg hb.size, fun j b hj => ?_⟩
  obtain ⟨sa, sn, sc, ra, rn, rc, h2⟩ := hc j b hj
  exact ⟨sa, sn, sc, ra, rn, rc, h2.call hg hb⟩
theorem own_cellsJ {W : World} {B n size : Nat} {t : TypeId} {v : Value} {L : List Value} (hn : 0 < n) (h : W.ownsRow B t size v n L) : ∃ g cap, v = .slice (some ⟨g, 0, none⟩) n cap ∧ g < W.heap.size ∧ ∀ (j : Nat) (u : Value), L[j]? = some u → W.cell? ⟨g, j, none⟩ = some u := by
  have hL := h.1
  rcases h.2 with ⟨_, h1⟩ | ⟨g, cap, cur, rfl, hb, hrow, _, _, _, htk⟩
  · omega
  · refine ⟨g, cap, rfl, (Array.getElem?_eq_some_iff.1 hrow).1, fun j u hu => ?_⟩
    rw [cell_of_row _ _ _ _ _ _ hrow]
    have hj : j < n * size := by have := (List.getElem?_eq_some_iff.1 hu).1; omega
    rw [← htk, List.getElem?_take_of_lt (by omega), Array.getElem?_toList] at hu
    exact hu
theorem BV.of {W : World} {n₀ : Nat} {lv : Value} {bs : List Jn.B} (h : BlkRow W n₀ lv bs) : BV W lv bs := by
  obtain ⟨cs, ho, hl, hc⟩ := h
  obtain ⟨a, c, e⟩ := own_slc ho
  refine ⟨a, c, e, fun hp => ?_⟩
  obtain ⟨g, cap, e2, hg, hcell⟩ := own_cellsJ hp ho
  rw [e] at e2
  injection e2 with e2 _ _
  refine ⟨g, e2, hg, fun j b hj => ?_⟩
  obtain ⟨sv, rv, A, k1, k2, _⟩ := hc j b hj
  obtain ⟨sa, sc, es⟩ := own_slc k2.row3
  obtain ⟨cs4, k4, _⟩ := k2.row4
  obtain ⟨ra, rc, er⟩ := own_slc k4
  subst es er
  refine ⟨sa, _, sc, ra, _, rc, hcell _ _ (k1 0 _ rfl), hcell _ _ (k1 1 _ rfl), hcell _ _ (k1 2 _ rfl), hcell _ _ (k1 3 _ rfl), hcell _ _ (k1 4 _ rfl), k2.bkn.bk⟩
theorem arJ {j m : Nat} (h : j < m) : m - (((j : Int) + 1)).toNat < m - ((j : Int)).toNat := by omega
end Go.Proofs.YtggnfejjcgbebaaGreatDoor
/- JournalChained, walked: what is read of any bytes is in a row. -/
namespace Go.Proofs.YtggnfejjcgbebaaGreatDoor
open Go.RowKit
open Vl (V)
attribute [local go_sem ↓] Go.wp_at_zero Go.wp_at_succ
/-- texts so far, in a row of new memory -/
structure TX (w0 W : World) (l : List (List UInt8)) (v : Value) : Prop where
  below : Below w0.heap.size w0 W
  row : W.ownsRow w0.heap.size 9 1 v l.length (scs l)
theorem TX.call {w0 W W' : World} {l : List (List UInt8)} {v : Value} (h : TX w0 W l v) (hb : Below W.heap.size W W') : TX w0 W' l v :=
  ⟨h.below.trans (hb.mono h.below.size), own_call h.row hb⟩
theorem TX.next {w0 W W1 : World} {o : Obj} {l : List (List UInt8)} {v v' : Value} {x : List UInt8} (h : TX w0 W l v) (hg : (W.alloc o).grownBy W1 v.ownBlock) (hn : W1.ownsRow w0.heap.size 9 1 v' (l.length + 1) (scs l ++ [.string (bs x)])) : TX w0 W1 (l ++ [x]) v' := by
  have hs := h.below.size
  refine ⟨?_, ?_⟩
  · exact (h.below.alloc (by omega) o).grown hg (by simp; omega) (fun k hk => (own_in h.row k hk).1)
  · rw [List.length_append]
    have e : scs (l ++ [x]) = scs l ++ [.string (bs x)] := by simp [scs, encS]
    rw [e]
    exact hn
theorem Jn.rtext_size (r : Jn.R) : (Jn.rtext r).size ≤ 16384 := by
  rw [Jn.rtext]
  split
  · exact Jn.wtext_size _
  · exact Nat.zero_le _
theorem arW {k : Nat} (h : (k : Int) + 1 ≤ 9223372036854775807) : wrap64 ((k : Int) + 1) = (k : Int) + 1 := by unfold wrap64; omega
end Go.Proofs.YtggnfejjcgbebaaGreatDoor
