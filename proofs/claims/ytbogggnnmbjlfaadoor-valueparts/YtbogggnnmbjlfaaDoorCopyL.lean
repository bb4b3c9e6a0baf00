/- Parts that are appended one by one: their cells in a row, and what they are; what an append leaves of them. -/
import Derived.Test.YtbogggnnmbjlfaaDoorPutG
import Derived.Deep.AppendLies
namespace Go.Proofs.YtbogggnnmbjlfaaDoor
open Go.RowKit
open Vl (V)
/-- the cells of values, six each -/
def EL (W : World) (A : Nat → Prop) : List V → List Value → Prop
  | [], cs => cs = []
  | x :: r, cs => ∃ c0 c1 c2 c3 c4 c5 cs', cs = c0 :: c1 :: c2 :: c3 :: c4 :: c5 :: cs' ∧ RepA W A x (.agg #[c0, c1, c2, c3, c4, c5]) ∧ EL W A r cs'
/-- the cells of fields, seven each -/
def EF (W : World) (A : Nat → Prop) : List (ByteArray × V) → List Value → Prop
  | [], cs => cs = []
  | (m, x) :: r, cs => ∃ c0 c1 c2 c3 c4 c5 cs', cs = .string m :: c0 :: c1 :: c2 :: c3 :: c4 :: c5 :: cs' ∧ m.size ≤ maxLen ∧ RepA W A x (.agg #[c0, c1, c2, c3, c4, c5]) ∧ EF W A r cs'
section
variable {W W' : World} {A B : Nat → Prop}
theorem EL.stays (hb : ∀ g, A g → W'.heap[g]? = W.heap[g]?) (hK : ∀ g, A g → B g) : ∀ (l : List V) (cs : List Value), EL W A l cs → EL W' B l cs
  | [], _, h => h
  | x :: r, cs, h => by
    obtain ⟨c0, c1, c2, c3, c4, c5, cs', e, h1, h2⟩ := h
    exact ⟨c0, c1, c2, c3, c4, c5, cs', e, repA_stays hb hK x _ h1, EL.stays hb hK r cs' h2⟩
theorem EF.stays (hb : ∀ g, A g → W'.heap[g]? = W.heap[g]?) (hK : ∀ g, A g → B g) : ∀ (l : List (ByteArray × V)) (cs : List Value), EF W A l cs → EF W' B l cs
  | [], _, h => h
  | (m, x) :: r, cs, h => by
    obtain ⟨c0, c1, c2, c3, c4, c5, cs', e, h0, h1, h2⟩ := h
    exact ⟨c0, c1, c2, c3, c4, c5, cs', e, h0, repA_stays hb hK x _ h1, EF.stays hb hK r cs' h2⟩
theorem EL.snoc {x : V} {c0 c1 c2 c3 c4 c5 : Value} (hx : RepA W A x (.agg #[c0, c1, c2, c3, c4, c5])) : ∀ (l : List V) (cs : List Value), EL W A l cs → EL W A (l ++ [x]) (cs ++ [c0, c1, c2, c3, c4, c5])
  | [], cs, h => by
    have h' : cs = [] := h
    subst h'
    exact ⟨c0, c1, c2, c3, c4, c5, [], rfl, hx, rfl⟩
  | y :: r, cs, h => by
    obtain ⟨d0, d1, d2, d3, d4, d5, cs', rfl, h1, h2⟩ := h
    exact ⟨d0, d1, d2, d3, d4, d5, cs' ++ [c0, c1, c2, c3, c4, c5], rfl, h1, EL.snoc hx r cs' h2⟩
theorem EF.snoc {m : ByteArray} (hm : m.size ≤ maxLen) {x : V} {c0 c1 c2 c3 c4 c5 : Value} (hx : RepA W A x (.agg #[c0, c1, c2, c3, c4, c5])) : ∀ (l : List (ByteArray × V)) (cs : List Value), EF W A l cs → EF W A (l ++ [(m, x)]) (cs ++ [.string m, c0, c1, c2, c3, c4, c5])
  | [], cs, h => by
    have h' : cs = [] := h
    subst h'
    exact ⟨c0, c1, c2, c3, c4, c5, [], rfl, hm, hx, rfl⟩
  | (n, y) :: r, cs, h => by
    obtain ⟨d0, d1, d2, d3, d4, d5, cs', rfl, h0, h1, h2⟩ := h
    exact ⟨d0, d1, d2, d3, d4, d5, cs' ++ [.string m, c0, c1, c2, c3, c4, c5], rfl, h0, h1, EF.snoc hm hx r cs' h2⟩
/-- they lie where their cells do -/
theorem EL.lies {g : Nat} : ∀ (l : List V) (cs : List Value) (o : Nat), EL W A l cs → (∀ j u, cs[j]? = some u → W.cell? ⟨g, o + j, none⟩ = some u) → RepLA W A g o l
  | [], _, _, _, _ => by rw [RepLA]; trivial
  | x :: r, cs, o, h, hc => by
    obtain ⟨c0, c1, c2, c3, c4, c5, cs', rfl, h1, h2⟩ := h
    rw [RepLA]
    refine ⟨⟨c0, c1, c2, c3, c4, c5, ⟨hc 0 _ rfl, hc 1 _ rfl, hc 2 _ rfl, hc 3 _ rfl, hc 4 _ rfl, hc 5 _ rfl⟩, h1⟩, EL.lies r cs' (o + 6) h2 fun j u hu => ?_⟩
    have := hc (j + 6) u (by simpa using hu)
    rwa [show o + (j + 6) = o + 6 + j by omega] at this
theorem EF.lies {g : Nat} : ∀ (l : List (ByteArray × V)) (cs : List Value) (o : Nat), EF W A l cs → (∀ j u, cs[j]? = some u → W.cell? ⟨g, o + j, none⟩ = some u) → RepFA W A g o l
  | [], _, _, _, _ => by rw [RepFA]; trivial
  | (m, x) :: r, cs, o, h, hc => by
    obtain ⟨c0, c1, c2, c3, c4, c5, cs', rfl, h0, h1, h2⟩ := h
    rw [RepFA]
    refine ⟨⟨hc 0 _ rfl, h0, c0, c1, c2, c3, c4, c5, ⟨hc 1 _ rfl, hc 2 _ rfl, hc 3 _ rfl, hc 4 _ rfl, hc 5 _ rfl, hc 6 _ rfl⟩, h1⟩, EF.lies r cs' (o + 7) h2 fun j u hu => ?_⟩
    have := hc (j + 7) u (by simpa using hu)
    rwa [show o + (j + 7) = o + 7 + j by omega] at this
/-- the cells of a row that is owned -/
theorem own_row {W : World} {B n size : Nat} {t : TypeId} {v : Value} {L : List Value} (hn : 0 < n) (h : W.ownsRow B t size v n L) : ∃ g cap, v = .slice (some ⟨g, 0, none⟩) n cap ∧ B ≤ g ∧ g < W.heap.size ∧ v.ownBlock = some g ∧ ∀ (j : Nat) (u : Value), L[j]? = some u → W.cell? ⟨g, j, none⟩ = some u := by
  have hL := h.1
  rcases h.2 with ⟨_, h1⟩ | ⟨g, cap, cur, rfl, hb, hrow, _, _, _, htk⟩
  · omega
  · refine ⟨g, cap, rfl, hb, (Array.getElem?_eq_some_iff.1 hrow).1, rfl, fun j u hu => ?_⟩
    rw [cell_of_row _ _ _ _ _ _ hrow]
    have hj : j < n * size := by have := (List.getElem?_eq_some_iff.1 hu).1; omega
    rw [← htk, List.getElem?_take_of_lt (by omega), Array.getElem?_toList] at hu
    exact hu
end
end Go.Proofs.YtbogggnnmbjlfaaDoor
namespace Go.Proofs.YtbogggnnmbjlfaaDoor
open Go.RowKit
open Vl (V)
theorem answer_own {w wc : World} {t : V} {c0 c1 c2 c3 c4 c5 : Value} (hZ : Z6 wc (w.heap.size + 1)) (hB : Below w.heap.size w wc)
    (hrep : RepA wc (fun g => w.heap.size + 1 < g ∧ g < wc.heap.size) t (.agg #[c0, c1, c2, c3, c4, c5])) :
    (wc.setCells (w.heap.size + 1) 0 [c0, c1, c2, c3, c4, c5]).heap[w.heap.size + 1]? = some (.cells #[c0, c1, c2, c3, c4, c5] 26 (0, 0)) ∧
    Below w.heap.size w (wc.setCells (w.heap.size + 1) 0 [c0, c1, c2, c3, c4, c5]) ∧
    RepA (wc.setCells (w.heap.size + 1) 0 [c0, c1, c2, c3, c4, c5]) (fun g => w.heap.size ≤ g ∧ g < (wc.setCells (w.heap.size + 1) 0 [c0, c1, c2, c3, c4, c5]).heap.size) t (.agg #[c0, c1, c2, c3, c4, c5]) := by
  refine ⟨Z6.put hZ _ _ _ _ _ _, below_setCells (by omega) _ _ hB, ?_⟩
  rw [size_setCells']
  exact repA_stays (fun k hk => heap_setCells_ne _ k (by omega) _ _ _) (fun k hk => ⟨by omega, hk.2⟩) _ _ hrep
theorem own_call {W W' : World} {B n size : Nat} {t : TypeId} {v : Value} {L : List Value} (h : W.ownsRow B t size v n L) (hb : Below W.heap.size W W') : W'.ownsRow B t size v n L := by
  refine ⟨h.1, ?_⟩
  rcases h.2 with h1 | ⟨g, cap, cur, e, h2, h3, h4⟩
  · exact Or.inl h1
  · exact Or.inr ⟨g, cap, cur, e, h2, (hb.block g (Array.getElem?_eq_some_iff.1 h3).1).trans h3, h4⟩
theorem own_set {W : World} {B n size p o : Nat} {u : Value} {t : TypeId} {v : Value} {L : List Value} (h : W.ownsRow B t size v n L) (hp : some p ≠ v.ownBlock) : (W.setCell ⟨p, o, none⟩ u).ownsRow B t size v n L := by
  refine ⟨h.1, ?_⟩
  rcases h.2 with h1 | ⟨g, cap, cur, rfl, h2, h3, h4⟩
  · exact Or.inl h1
  · exact Or.inr ⟨g, cap, cur, rfl, h2, (heap_setCell_other _ _ _ _ (fun e => hp (by rw [e]; rfl))).trans h3, h4⟩
/-- Copy's own variables, j parts of the list copied -/
structure CS (w W : World) (l : List V) (j : Nat) (v0 v1 v2 v3 v4 v5 lv : Value) : Prop where
  below : Below w.heap.size w W
  arg : Row6 W w.heap.size v0 v1 v2 v3 v4 v5
  res : Z6 W (w.heap.size + 1)
  out : Row6 W (w.heap.size + 1 + 1) v0 v1 v2 v3 lv (.slice none 0 0)
  parts : ∃ cs, W.ownsRow (w.heap.size + 3) 26 6 lv j cs ∧ EL W (fun g => w.heap.size + 3 ≤ g ∧ some g ≠ lv.ownBlock ∧ g < W.heap.size) (l.take j) cs
section
variable {w W W' : World} {l : List V} {j : Nat} {v0 v1 v2 v3 v4 v5 lv : Value}
theorem CS.call (h : CS w W l j v0 v1 v2 v3 v4 v5 lv) (hb : Below W.heap.size W W') : CS w W' l j v0 v1 v2 v3 v4 v5 lv := by
  obtain ⟨cs, h1, h2⟩ := h.parts
  exact ⟨h.below.trans (hb.mono h.below.size), h.arg.call hb, h.res.call hb, h.out.call hb, cs, own_call h1 hb, EL.stays (fun g hg => hb.block g hg.2.2) (fun g hg => ⟨hg.1, hg.2.1, Nat.lt_of_lt_of_le hg.2.2 hb.size⟩) _ _ h2⟩
/-- one part more -/
theorem CS.next {w3 w4 w5 : World} (h : CS w W l j v0 v1 v2 v3 v4 v5 lv) {x : V} (hx : l[j]? = some x) {cs : List Value} (ho : W.ownsRow (w.heap.size + 3) 26 6 lv j cs) (he : EL W (fun g => w.heap.size + 3 ≤ g ∧ some g ≠ lv.ownBlock ∧ g < W.heap.size) (l.take j) cs)
    (h3 : Below W.heap.size W w3) {d0 d1 d2 d3 d4 d5 : Value} (hr : RepA w3 (fun g => W.heap.size ≤ g ∧ g < w3.heap.size) x (.agg #[d0, d1, d2, d3, d4, d5])) (h4 : Below w3.heap.size w3 w4) (hg : w4.grownBy w5 lv.ownBlock)
    {g cap : Nat} (hn : w5.ownsRow (w.heap.size + 3) 26 6 (.slice (some ⟨g, 0, none⟩) (j + 1) cap) (j + 1) (cs ++ [d0, d1, d2, d3, d4, d5])) (hat : lv.ownBlock = some g ∨ g = w4.heap.size) :
    (Row6 w5 (w.heap.size + 1 + 1) v0 v1 v2 v3 lv (.slice none 0 0)) ∧ CS w (w5.setCell ⟨w.heap.size + 1 + 1, 4, none⟩ (.slice (some ⟨g, 0, none⟩) (j + 1) cap)) l (j + 1) v0 v1 v2 v3 v4 v5 (.slice (some ⟨g, 0, none⟩) (j + 1) cap) := by
  have hlv : ∀ k, lv.ownBlock = some k → w.heap.size + 3 ≤ k ∧ k < W.heap.size := ho.lt
  have hs := h3.size
  have hs4 := h4.size
  have hs5 := hg.size
  have hgb : w.heap.size + 3 ≤ g ∧ ∀ k, k < W.heap.size → some k ≠ lv.ownBlock → k ≠ g := by
    rcases hat with e | e
    · exact ⟨(hlv g e).1, fun k hk hne e2 => hne (by rw [e2, e])⟩
    · exact ⟨by have := h.out.1; omega, fun k hk _ => by omega⟩
  have hgn : ∀ k, W.heap.size ≤ k → k < w4.heap.size → k ≠ g := fun k h1 h2 e => by
    rcases hat with e2 | e2
    · have := (hlv g e2).2; omega
    · omega
  -- blocks that stay
  have st : ∀ k, k < W.heap.size → some k ≠ lv.ownBlock → w5.heap[k]? = W.heap[k]? := fun k hk hne => (hg.block k (by omega) hne).trans ((h4.block k (by omega)).trans (h3.block k hk))
  have sn : ∀ k, W.heap.size ≤ k → k < w3.heap.size → w5.heap[k]? = w3.heap[k]? := fun k hk hk2 => (hg.block k (by omega) (fun e => by have := (hlv k e.symm).2; omega)).trans (h4.block k hk2)
  have o0 := h.arg.1
  have o1 := h.res.1
  have o2 := h.out.1
  have nb : ∀ k, k < w.heap.size + 3 → some k ≠ lv.ownBlock := fun k hk e => by have := (hlv k e.symm).1; omega
  have hout : Row6 w5 (w.heap.size + 1 + 1) v0 v1 v2 v3 lv (.slice none 0 0) := ⟨by omega, (st _ o2 (nb _ (by omega))).trans h.out.2⟩
  have hset : ∀ k, k ≠ w.heap.size + 1 + 1 → (w5.setCell ⟨w.heap.size + 1 + 1, 4, none⟩ (.slice (some ⟨g, 0, none⟩) (j + 1) cap)).heap[k]? = w5.heap[k]? := fun k hk => heap_setCell_other _ _ _ _ hk
  have hsz : (w5.setCell ⟨w.heap.size + 1 + 1, 4, none⟩ (.slice (some ⟨g, 0, none⟩) (j + 1) cap)).heap.size = w5.heap.size := by simp
  have hbel : Below w.heap.size w w5 := (h.below.trans (h3.mono h.below.size)).trans ((h4.mono (by have := h.below.size; omega))) |>.grown hg (by have := h.below.size; omega) (fun k hk => by have := (hlv k hk).1; omega)
  refine ⟨hout, hbel.setCell (p := ⟨w.heap.size + 1 + 1, 4, none⟩) (by show w.heap.size ≤ w.heap.size + 1 + 1; omega) _, ⟨by rw [hsz]; omega, (hset _ (by omega)).trans ((st _ o0 (nb _ (by omega))).trans h.arg.2)⟩, ⟨by rw [hsz]; omega, (hset _ (by omega)).trans ((st _ o1 (nb _ (by omega))).trans h.res.2)⟩, hout.set4, cs ++ [d0, d1, d2, d3, d4, d5], own_set hn (fun e => by simp [Value.ownBlock] at e; omega), ?_⟩
  have ht : l.take (j + 1) = l.take j ++ [x] := by rw [List.take_add_one, hx]; rfl
  rw [ht]
  refine EL.snoc ?_ _ _ ?_
  · refine repA_stays (fun k hk => ?_) (fun k hk => ?_) x _ hr
    · exact (hset k (by omega)).trans (sn k hk.1 hk.2)
    · exact ⟨by omega, fun e => hgn k hk.1 (by omega) (by simpa [Value.ownBlock] using e), by rw [hsz]; omega⟩
  · refine EL.stays (fun k hk => ?_) (fun k hk => ?_) _ _ he
    · exact (hset k (by omega)).trans (st k hk.2.2 hk.2.1)
    · exact ⟨hk.1, fun e => hgb.2 k hk.2.2 hk.2.1 (by simpa [Value.ownBlock] using e), by rw [hsz]; omega⟩
theorem CS.start (w : World) (l : List V) (v0 v1 v2 v3 v4 v5 : Value) :
    CS w (((w.alloc (.cells #[v0, v1, v2, v3, v4, v5] 26)).alloc (.cells #[.int .u8 0, .bool false, .int .i64 0, .string ⟨#[]⟩, .slice none 0 0, .slice none 0 0] 26)).alloc (.cells #[v0, v1, v2, v3, .slice none 0 0, .slice none 0 0] 26)) l 0 v0 v1 v2 v3 v4 v5 (.slice none 0 0) := by
  obtain ⟨w1, hw1⟩ : ∃ w1, w1 = w.alloc (.cells #[v0, v1, v2, v3, v4, v5] 26) := ⟨_, rfl⟩
  obtain ⟨w2, hw2⟩ : ∃ w2, w2 = w1.alloc (.cells #[.int .u8 0, .bool false, .int .i64 0, .string ⟨#[]⟩, .slice none 0 0, .slice none 0 0] 26) := ⟨_, rfl⟩
  have s1 : w1.heap.size = w.heap.size + 1 := by rw [hw1]; simp
  have s2 : w2.heap.size = w.heap.size + 1 + 1 := by rw [hw2]; simp [s1]
  have b1 : Below w.heap.size w w1 := by rw [hw1]; exact below_new _ _
  have b2 : Below w1.heap.size w1 w2 := by rw [hw2]; exact below_new _ _
  have r0 : Row6 w1 w.heap.size v0 v1 v2 v3 v4 v5 := by rw [hw1]; exact ⟨by simp, heap_alloc_new w _⟩
  have r1 : Z6 w2 (w.heap.size + 1) := by
    rw [← s1, hw2]; exact ⟨by simp, heap_alloc_new w1 _⟩
  rw [← hw1, ← hw2]
  refine ⟨((b1.trans (b2.mono b1.size)).trans ((below_new w2 _).mono (by omega))), (r0.call b2).call (below_new _ _), r1.call (below_new _ _), ?_, [], World.ownsRow_nil _ _ _ _, by rw [List.take_zero]; rfl⟩
  rw [← s2]; exact ⟨by simp, heap_alloc_new w2 _⟩
end
/-- a list that lies in blocks between two bounds -/
def LL (W : World) (B M : Nat) (lv : Value) (l : List V) : Prop := ∃ ao lc, lv = .slice ao l.length lc ∧ (0 < l.length → ∃ g, ao = some ⟨g, 0, none⟩ ∧ B ≤ g ∧ g < M ∧ RepLA W (fun g => B ≤ g ∧ g < M) g 0 l)
theorem LL.stays {W W' : World} {B M : Nat} {lv : Value} {l : List V} (h : LL W B M lv l) (hb : ∀ g, B ≤ g → g < M → W'.heap[g]? = W.heap[g]?) : LL W' B M lv l := by
  obtain ⟨ao, lc, e, h1⟩ := h
  refine ⟨ao, lc, e, fun hp => ?_⟩
  obtain ⟨g, e2, h2, h3, h4⟩ := h1 hp
  exact ⟨g, e2, h2, h3, repLA_stays (fun k hk => hb k hk.1 hk.2) (fun _ hk => hk) (hb g h2 h3) l 0 h4⟩
theorem CS.done {w W : World} {l : List V} {v0 v1 v2 v3 v4 v5 lv : Value} (h : CS w W l l.length v0 v1 v2 v3 v4 v5 lv) : LL W (w.heap.size + 3) W.heap.size lv l := by
  obtain ⟨cs, h1, h2⟩ := h.parts
  rw [List.take_length] at h2
  by_cases hp : 0 < l.length
  · obtain ⟨g, cap, rfl, hb, hl, ho, hc⟩ := own_row hp h1
    exact ⟨some ⟨g, 0, none⟩, cap, rfl, fun _ => ⟨g, rfl, hb, hl, EL.lies l cs 0 (EL.stays (fun _ _ => rfl) (fun k hk => ⟨hk.1, hk.2.2⟩) l cs h2) (fun j u hu => by rw [Nat.zero_add]; exact hc j u hu)⟩⟩
  · rcases h1.2 with ⟨e, _⟩ | ⟨g, cap, cur, e, _⟩
    · exact ⟨none, 0, by rw [e]; simp; omega, fun h => absurd h hp⟩
    · exact ⟨some ⟨g, 0, none⟩, cap, e, fun h => absurd h hp⟩
/-- Copy's own variables, the list copied, and j fields -/
structure CT (w W : World) (M : Nat) (l : List V) (f : List (ByteArray × V)) (j : Nat) (v0 v1 v2 v3 v4 v5 lv fv : Value) : Prop where
  below : Below w.heap.size w W
  arg : Row6 W w.heap.size v0 v1 v2 v3 v4 v5
  res : Z6 W (w.heap.size + 1)
  out : Row6 W (w.heap.size + 1 + 1) v0 v1 v2 v3 lv fv
  late : w.heap.size + 3 ≤ M
  le : M ≤ W.heap.size
  li : LL W (w.heap.size + 3) M lv l
  parts : ∃ cs, W.ownsRow M 39 7 fv j cs ∧ EF W (fun g => M ≤ g ∧ some g ≠ fv.ownBlock ∧ g < W.heap.size) (f.take j) cs
section
variable {w W W' : World} {M : Nat} {l : List V} {f : List (ByteArray × V)} {j : Nat} {v0 v1 v2 v3 v4 v5 lv fv : Value}
theorem CT.call (h : CT w W M l f j v0 v1 v2 v3 v4 v5 lv fv) (hb : Below W.heap.size W W') : CT w W' M l f j v0 v1 v2 v3 v4 v5 lv fv := by
  obtain ⟨cs, h1, h2⟩ := h.parts
  have hle := h.le
  exact ⟨h.below.trans (hb.mono h.below.size), h.arg.call hb, h.res.call hb, h.out.call hb, h.late, Nat.le_trans h.le hb.size, h.li.stays (fun g _ hg => hb.block g (by omega)), cs, own_call h1 hb, EF.stays (fun g hg => hb.block g hg.2.2) (fun g hg => ⟨hg.1, hg.2.1, Nat.lt_of_lt_of_le hg.2.2 hb.size⟩) _ _ h2⟩
theorem CT.start (h : CS w W l l.length v0 v1 v2 v3 v4 v5 lv) : CT w W W.heap.size l f 0 v0 v1 v2 v3 v4 v5 lv (.slice none 0 0) :=
  ⟨h.below, h.arg, h.res, h.out, by have := h.out.1; omega, Nat.le_refl _, h.done, [], World.ownsRow_nil _ _ _ _, by rw [List.take_zero]; rfl⟩
theorem CT.next {w3 w4 w5 : World} (h : CT w W M l f j v0 v1 v2 v3 v4 v5 lv fv) {m : ByteArray} {x : V} (hx : f[j]? = some (m, x)) (hm : m.size ≤ maxLen) {cs : List Value} (ho : W.ownsRow M 39 7 fv j cs) (he : EF W (fun g => M ≤ g ∧ some g ≠ fv.ownBlock ∧ g < W.heap.size) (f.take j) cs)
    (h3 : Below W.heap.size W w3) {d0 d1 d2 d3 d4 d5 : Value} (hr : RepA w3 (fun g => W.heap.size ≤ g ∧ g < w3.heap.size) x (.agg #[d0, d1, d2, d3, d4, d5])) (h4 : Below w3.heap.size w3 w4) (hg : w4.grownBy w5 fv.ownBlock)
    {g cap : Nat} (hn : w5.ownsRow M 39 7 (.slice (some ⟨g, 0, none⟩) (j + 1) cap) (j + 1) (cs ++ [.string m, d0, d1, d2, d3, d4, d5])) (hat : fv.ownBlock = some g ∨ g = w4.heap.size) :
    (Row6 w5 (w.heap.size + 1 + 1) v0 v1 v2 v3 lv fv) ∧ CT w (w5.setCell ⟨w.heap.size + 1 + 1, 5, none⟩ (.slice (some ⟨g, 0, none⟩) (j + 1) cap)) M l f (j + 1) v0 v1 v2 v3 v4 v5 lv (.slice (some ⟨g, 0, none⟩) (j + 1) cap) := by
  have hlv : ∀ k, fv.ownBlock = some k → M ≤ k ∧ k < W.heap.size := ho.lt
  have hs := h3.size
  have hs4 := h4.size
  have hs5 := hg.size
  have hlate := h.late
  have hle := h.le
  have hgb : M ≤ g ∧ ∀ k, k < W.heap.size → some k ≠ fv.ownBlock → k ≠ g := by
    rcases hat with e | e
    · exact ⟨(hlv g e).1, fun k hk hne e2 => hne (by rw [e2, e])⟩
    · exact ⟨by omega, fun k hk _ => by omega⟩
  have hgn : ∀ k, W.heap.size ≤ k → k < w4.heap.size → k ≠ g := fun k h1 h2 e => by
    rcases hat with e2 | e2
    · have := (hlv g e2).2; omega
    · omega
  have st : ∀ k, k < W.heap.size → some k ≠ fv.ownBlock → w5.heap[k]? = W.heap[k]? := fun k hk hne => (hg.block k (by omega) hne).trans ((h4.block k (by omega)).trans (h3.block k hk))
  have sn : ∀ k, W.heap.size ≤ k → k < w3.heap.size → w5.heap[k]? = w3.heap[k]? := fun k hk hk2 => (hg.block k (by omega) (fun e => by have := (hlv k e.symm).2; omega)).trans (h4.block k hk2)
  have o0 := h.arg.1
  have o1 := h.res.1
  have o2 := h.out.1
  have nb : ∀ k, k < M → some k ≠ fv.ownBlock := fun k hk e => by have := (hlv k e.symm).1; omega
  have hout : Row6 w5 (w.heap.size + 1 + 1) v0 v1 v2 v3 lv fv := ⟨by omega, (st _ o2 (nb _ (by omega))).trans h.out.2⟩
  have hset : ∀ k, k ≠ w.heap.size + 1 + 1 → (w5.setCell ⟨w.heap.size + 1 + 1, 5, none⟩ (.slice (some ⟨g, 0, none⟩) (j + 1) cap)).heap[k]? = w5.heap[k]? := fun k hk => heap_setCell_other _ _ _ _ hk
  have hsz : (w5.setCell ⟨w.heap.size + 1 + 1, 5, none⟩ (.slice (some ⟨g, 0, none⟩) (j + 1) cap)).heap.size = w5.heap.size := by simp
  have hbel : Below w.heap.size w w5 := (h.below.trans (h3.mono h.below.size)).trans ((h4.mono (by have := h.below.size; omega))) |>.grown hg (by have := h.below.size; omega) (fun k hk => by have := (hlv k hk).1; omega)
  refine ⟨hout, hbel.setCell (p := ⟨w.heap.size + 1 + 1, 5, none⟩) (by show w.heap.size ≤ w.heap.size + 1 + 1; omega) _, ⟨by rw [hsz]; omega, (hset _ (by omega)).trans ((st _ o0 (nb _ (by omega))).trans h.arg.2)⟩, ⟨by rw [hsz]; omega, (hset _ (by omega)).trans ((st _ o1 (nb _ (by omega))).trans h.res.2)⟩, hout.set5, hlate, by rw [hsz]; omega, h.li.stays (fun k hk1 hk2 => (hset k (by omega)).trans (st k (by omega) (nb k hk2))), cs ++ [.string m, d0, d1, d2, d3, d4, d5], own_set hn (fun e => by simp [Value.ownBlock] at e; omega), ?_⟩
  have ht : f.take (j + 1) = f.take j ++ [(m, x)] := by rw [List.take_add_one, hx]; rfl
  rw [ht]
  refine EF.snoc hm ?_ _ _ ?_
  · refine repA_stays (fun k hk => ?_) (fun k hk => ?_) x _ hr
    · exact (hset k (by omega)).trans (sn k hk.1 hk.2)
    · exact ⟨by omega, fun e => hgn k hk.1 (by omega) (by simpa [Value.ownBlock] using e), by rw [hsz]; omega⟩
  · refine EF.stays (fun k hk => ?_) (fun k hk => ?_) _ _ he
    · exact (hset k (by omega)).trans (st k hk.2.2 hk.2.1)
    · exact ⟨hk.1, fun e => hgb.2 k hk.2.2 hk.2.1 (by simpa [Value.ownBlock] using e), by rw [hsz]; omega⟩
theorem CT.free {k : Nat} (h : CT w W M l f k v0 v1 v2 v3 v4 v5 lv fv) : FreeC W fv := by
  obtain ⟨cs, h1, _⟩ := h.parts
  intro a n c e r
  rcases h1.2 with ⟨e2, _⟩ | ⟨g, cap, cur, e2, _, hrow, _⟩
  · rw [e2] at e; cases e
  · rw [e2] at e; cases e
    exact row_free hrow r
/-- what was made, the fields in a row that nothing else lies in -/
def CX (W : World) (B U : Nat) : V → Value → Prop
  | ⟨k, b, n, s, l, f⟩, v => ∃ ao lc fo fc, v = .agg #[.int .u8 (k : Int), .bool b, .int .i64 n, .string s, .slice ao l.length lc, .slice fo f.length fc] ∧
      (0 < l.length → ∃ g, ao = some ⟨g, 0, none⟩ ∧ (B ≤ g ∧ g < U ∧ ∀ a, fo = some a → g ≠ a.block) ∧ RepLA W (fun g => B ≤ g ∧ g < U ∧ ∀ a, fo = some a → g ≠ a.block) g 0 l) ∧
      (0 < f.length → ∃ g, fo = some ⟨g, 0, none⟩ ∧ B ≤ g ∧ g < U ∧ (∃ C, W.heap[g]? = some (.cells C 39 (0, 0)) ∧ f.length * 7 ≤ C.size) ∧ RepFA W (fun g => B ≤ g ∧ g < U ∧ ∀ a, fo = some a → g ≠ a.block) g 0 f)
theorem CX.stays {W W' : World} {B U B' : Nat} (hBB : B' ≤ B) : ∀ {t : V} {v : Value}, CX W B U t v → (∀ g, B ≤ g → g < U → W'.heap[g]? = W.heap[g]?) → CX W' B' U t v
  | ⟨k, b, n, s, l, f⟩, v, h, hb => by
    obtain ⟨ao, lc, fo, fc, e, h2, h3⟩ := h
    refine ⟨ao, lc, fo, fc, e, fun hp => ?_, fun hp => ?_⟩
    · obtain ⟨g, e2, h4, h5⟩ := h2 hp
      exact ⟨g, e2, ⟨by omega, h4.2⟩, repLA_stays (fun k hk => hb k hk.1 hk.2.1) (fun k hk => ⟨by omega, hk.2⟩) (hb g h4.1 h4.2.1) l 0 h5⟩
    · obtain ⟨g, e2, h4, h5, ⟨C, hC1, hC2⟩, h6⟩ := h3 hp
      exact ⟨g, e2, by omega, h5, ⟨C, (hb g h4 h5).trans hC1, hC2⟩, repFA_stays (fun k hk => hb k hk.1 hk.2.1) (fun k hk => ⟨by omega, hk.2⟩) (hb g h4 h5) f 0 h6⟩
theorem CT.cx {k : Nat} {b : Bool} {n : Int} {s : ByteArray} (h : CT w W M l f f.length (.int .u8 (k : Int)) (.bool b) (.int .i64 n) (.string s) v4 v5 lv fv) : CX W (w.heap.size + 3) W.heap.size ⟨k, b, n, s, l, f⟩ (.agg #[.int .u8 (k : Int), .bool b, .int .i64 n, .string s, lv, fv]) := by
  have hlate := h.late
  have hle := h.le
  obtain ⟨ao, lc, rfl, h1⟩ := h.li
  obtain ⟨cs, h2, h3⟩ := h.parts
  rw [List.take_length] at h3
  by_cases hp : 0 < f.length
  · obtain ⟨g, cap, rfl, hb, hl, ho, hc⟩ := own_row hp h2
    refine ⟨ao, lc, some ⟨g, 0, none⟩, cap, rfl, fun hq => ?_, fun _ => ⟨g, rfl, by omega, hl, ?_, ?_⟩⟩
    · obtain ⟨q, e, h5, h6, h7⟩ := h1 hq
      exact ⟨q, e, ⟨h5, by omega, fun a ea => by cases ea; show q ≠ g; omega⟩, repLA_stays (fun _ _ => rfl) (fun j hj => ⟨hj.1, by omega, fun a ea => by cases ea; show j ≠ g; omega⟩) rfl l 0 h7⟩
    · rcases h2.2 with ⟨e, _⟩ | ⟨g', cap', cur, e, _, hrow, hcap, _, hsz, _⟩
      · cases e
      · cases e
        exact ⟨cur, hrow, by rw [hsz]; exact Nat.mul_le_mul_right _ hcap⟩
    · refine EF.lies f cs 0 (EF.stays (fun _ _ => rfl) (fun j hj => ⟨by omega, hj.2.2, fun a ea => ?_⟩) f cs h3) (fun j u hu => by rw [Nat.zero_add]; exact hc j u hu)
      cases ea
      exact fun e => hj.2.1 (by rw [e]; rfl)
  · have hf0 : f.length = 0 := by omega
    obtain ⟨fo, fc, rfl, hno⟩ : ∃ fo fc, fv = .slice fo f.length fc ∧ ∀ a, fo = some a → M ≤ a.block := by
      rcases h2.2 with ⟨e, _⟩ | ⟨g, cap, cur, e, hg, _⟩
      · exact ⟨none, 0, by rw [e, hf0], fun a ea => by cases ea⟩
      · exact ⟨some ⟨g, 0, none⟩, cap, e, fun a ea => by cases ea; exact hg⟩
    refine ⟨ao, lc, fo, fc, rfl, fun hq => ?_, fun h => absurd h hp⟩
    obtain ⟨q, e, h5, h6, h7⟩ := h1 hq
    exact ⟨q, e, ⟨h5, by omega, fun a ea => by have := hno a ea; omega⟩, repLA_stays (fun _ _ => rfl) (fun j hj => ⟨hj.1, by omega, fun a ea => by have := hno a ea; omega⟩) rfl l 0 h7⟩
/-- what was made -/
theorem CT.rep {k : Nat} {b : Bool} {n : Int} {s : ByteArray} (h : CT w W M l f f.length (.int .u8 (k : Int)) (.bool b) (.int .i64 n) (.string s) v4 v5 lv fv) (hk : k < 256 ∧ (-9223372036854775808 ≤ n ∧ n < 9223372036854775808) ∧ s.size ≤ maxLen ∧ l.length ≤ maxLen ∧ f.length ≤ maxLen) :
    RepA W (fun g => w.heap.size + 1 < g ∧ g < W.heap.size) ⟨k, b, n, s, l, f⟩ (.agg #[.int .u8 (k : Int), .bool b, .int .i64 n, .string s, lv, fv]) := by
  have hlate := h.late
  have hle := h.le
  obtain ⟨ao, lc, rfl, h1⟩ := h.li
  obtain ⟨cs, h2, h3⟩ := h.parts
  rw [List.take_length] at h3
  obtain ⟨fo, fc, rfl, h4⟩ : ∃ fo fc, fv = .slice fo f.length fc ∧ (0 < f.length → ∃ g, fo = some ⟨g, 0, none⟩ ∧ M ≤ g ∧ g < W.heap.size ∧ RepFA W (fun g => M ≤ g ∧ g < W.heap.size) g 0 f) := by
    by_cases hp : 0 < f.length
    · obtain ⟨g, cap, rfl, hb, hl, ho, hc⟩ := own_row hp h2
      exact ⟨some ⟨g, 0, none⟩, cap, rfl, fun _ => ⟨g, rfl, hb, hl, EF.lies f cs 0 (EF.stays (fun _ _ => rfl) (fun k hk => ⟨hk.1, hk.2.2⟩) f cs h3) (fun j u hu => by rw [Nat.zero_add]; exact hc j u hu)⟩⟩
    · rcases h2.2 with ⟨e, _⟩ | ⟨g, cap, cur, e, _⟩
      · exact ⟨none, 0, by rw [e]; simp; omega, fun h => absurd h hp⟩
      · exact ⟨some ⟨g, 0, none⟩, cap, e, fun h => absurd h hp⟩
  rw [RepA]
  refine ⟨ao, lc, fo, fc, rfl, hk.1, hk.2.1, hk.2.2.1, hk.2.2.2.1, hk.2.2.2.2, fun hp => ?_, fun hp => ?_⟩
  · obtain ⟨g, e, h5, h6, h7⟩ := h1 hp
    exact ⟨g, 0, e, ⟨by omega, by omega⟩, repLA_stays (fun _ _ => rfl) (fun q hq => ⟨by omega, by omega⟩) rfl l 0 h7⟩
  · obtain ⟨g, e, h5, h6, h7⟩ := h4 hp
    exact ⟨g, 0, e, ⟨by omega, by omega⟩, repFA_stays (fun _ _ => rfl) (fun q hq => ⟨by omega, by omega⟩) rfl f 0 h7⟩
end
end Go.Proofs.YtbogggnnmbjlfaaDoor
