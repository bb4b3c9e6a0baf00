/- Several texts, joined: CpL, CpA -/
import Derived.Test.YtggnfejjcgbebaaGreatDoorJNM
import Derived.Deep.CutRange
import Derived.Deep.CutBlock
import Derived.Deep.RegionLaw
import Derived.Deep.AppendLies
/- What the document's Copy keeps as it goes: parts appended one by one. -/
namespace Go.Proofs.YtggnfejjcgbebaaGreatDoor
open Go.RowKit
open Vl (V)
namespace Vl
mutual
/-- texts and lists that are not too long for a machine -/
def small : V → Prop
  | ⟨_, _, _, s, l, f⟩ => s.size ≤ 140737488351232 ∧ l.length ≤ 1759218604390 ∧ f.length ≤ 1466015503668 ∧ smallL l ∧ smallF f
def smallL : List V → Prop
  | [] => True
  | x :: r => small x ∧ smallL r
def smallF : List (ByteArray × V) → Prop
  | [] => True
  | (m, x) :: r => m.size ≤ 140737488351232 ∧ small x ∧ smallF r
end
theorem smallL_mem : ∀ (l : List V) (x : V), smallL l → x ∈ l → small x
  | [], _, _, h => by cases h
  | y :: r, x, hs, h => by
    rw [smallL] at hs
    cases List.mem_cons.1 h with
    | inl e => rw [e]; exact hs.1
    | inr e => exact smallL_mem r x hs.2 e
theorem smallF_mem : ∀ (l : List (ByteArray × V)) (x : ByteArray × V), smallF l → x ∈ l → x.1.size ≤ 140737488351232 ∧ small x.2
  | [], _, _, h => by cases h
  | (m, y) :: r, x, hs, h => by
    rw [smallF] at hs
    cases List.mem_cons.1 h with
    | inl e => rw [e]; exact ⟨hs.1, hs.2.1⟩
    | inr e => exact smallF_mem r x hs.2.2 e
end Vl
/-- seven cells in a block of their own -/
def Row7 (w : World) (g : Nat) (v0 v1 v2 v3 v4 v5 v6 : Value) : Prop := g < w.heap.size ∧ w.heap[g]? = some (.cells #[v0, v1, v2, v3, v4, v5, v6] 147 (0, 0))
theorem Row7.call {w w' : World} {g : Nat} {v0 v1 v2 v3 v4 v5 v6 : Value} (h : Row7 w g v0 v1 v2 v3 v4 v5 v6) (hb : Below w.heap.size w w') : Row7 w' g v0 v1 v2 v3 v4 v5 v6 :=
  ⟨Nat.lt_of_lt_of_le h.1 hb.size, (hb.block _ h.1).trans h.2⟩
theorem Row7.cells {w : World} {g : Nat} {v0 v1 v2 v3 v4 v5 v6 : Value} (h : Row7 w g v0 v1 v2 v3 v4 v5 v6) : w.cell? ⟨g, 0, none⟩ = some v0 ∧ w.cell? ⟨g, 1, none⟩ = some v1 ∧ w.cell? ⟨g, 2, none⟩ = some v2 ∧ w.cell? ⟨g, 3, none⟩ = some v3 ∧ w.cell? ⟨g, 4, none⟩ = some v4 ∧ w.cell? ⟨g, 5, none⟩ = some v5 ∧ w.cell? ⟨g, 6, none⟩ = some v6 := by
  refine ⟨?_, ?_, ?_, ?_, ?_, ?_, ?_⟩ <;> (rw [cell_of_row _ _ _ _ _ _ h.2]; rfl)
theorem Row7.free {w : World} {g : Nat} {v0 v1 v2 v3 v4 v5 v6 : Value} (h : Row7 w g v0 v1 v2 v3 v4 v5 v6) (r : Nat) : w.frozen? ⟨g, r, none⟩ = false := row_freeV h.2 r
theorem answer_own {w wc : World} {t : V} {c0 c1 c2 c3 c4 c5 : Value} (hZ : Z6 wc (w.heap.size + 1)) (hB : Below w.heap.size w wc)
    (hrep : RepA wc (fun g => w.heap.size + 1 < g ∧ g < wc.heap.size) t (.agg #[c0, c1, c2, c3, c4, c5])) :
    (wc.setCells (w.heap.size + 1) 0 [c0, c1, c2, c3, c4, c5]).heap[w.heap.size + 1]? = some (.cells #[c0, c1, c2, c3, c4, c5] 32 (0, 0)) ∧
    Below w.heap.size w (wc.setCells (w.heap.size + 1) 0 [c0, c1, c2, c3, c4, c5]) ∧
    RepA (wc.setCells (w.heap.size + 1) 0 [c0, c1, c2, c3, c4, c5]) (fun g => w.heap.size ≤ g ∧ g < (wc.setCells (w.heap.size + 1) 0 [c0, c1, c2, c3, c4, c5]).heap.size) t (.agg #[c0, c1, c2, c3, c4, c5]) := by
  refine ⟨Z6.put hZ _ _ _ _ _ _, below_setCellsV (by omega) _ _ hB, ?_⟩
  rw [size_setCellsV']
  exact repA_stays (fun k hk => heap_setCells_neV _ k (by omega) _ _ _) (fun k hk => ⟨by omega, hk.2⟩) _ _ hrep
/-- Copy's own variables, j parts of the list copied -/
structure CS (w W : World) (l : List V) (j : Nat) (v0 v1 v2 v3 v4 v5 lv : Value) : Prop where
  below : Below w.heap.size w W
  arg : Row6 W w.heap.size v0 v1 v2 v3 v4 v5
  res : Z6 W (w.heap.size + 1)
  out : Row6 W (w.heap.size + 1 + 1) v0 v1 v2 v3 lv (.slice none 0 0)
  parts : ∃ cs, W.ownsRow (w.heap.size + 3) 32 6 lv j cs ∧ EL W (fun g => w.heap.size + 3 ≤ g ∧ some g ≠ lv.ownBlock ∧ g < W.heap.size) (l.take j) cs
section
variable {w W W' : World} {l : List V} {j : Nat} {v0 v1 v2 v3 v4 v5 lv : Value}
theorem CS.call (h : CS w W l j v0 v1 v2 v3 v4 v5 lv) (hb : Below W.heap.size W W') : CS w W' l j v0 v1 v2 v3 v4 v5 lv := by
  obtain ⟨cs, h1, h2⟩ := h.parts
  exact ⟨h.below.trans (hb.mono h.below.size), h.arg.call hb, h.res.call hb, h.out.call hb, cs, own_call h1 hb, EL.stays (fun g hg => hb.block g hg.2.2) (fun g hg => ⟨hg.1, hg.2.1, Nat.lt_of_lt_of_le hg.2.2 hb.size⟩) _ _ h2⟩
/-- one part more -/
theorem CS.next {w3 w4 w5 : World} (h : CS w W l j v0 v1 v2 v3 v4 v5 lv) {x : V} (hx : l[j]? = some x) {cs : List Value} (ho : W.ownsRow (w.heap.size + 3) 32 6 lv j cs) (he : EL W (fun g => w.heap.size + 3 ≤ g ∧ some g ≠ lv.ownBlock ∧ g < W.heap.size) (l.take j) cs)
    (h3 : Below W.heap.size W w3) {d0 d1 d2 d3 d4 d5 : Value} (hr : RepA w3 (fun g => W.heap.size ≤ g ∧ g < w3.heap.size) x (.agg #[d0, d1, d2, d3, d4, d5])) (h4 : Below w3.heap.size w3 w4) (hg : w4.grownBy w5 lv.ownBlock)
    {g cap : Nat} (hn : w5.ownsRow (w.heap.size + 3) 32 6 (.slice (some ⟨g, 0, none⟩) (j + 1) cap) (j + 1) (cs ++ [d0, d1, d2, d3, d4, d5])) (hat : lv.ownBlock = some g ∨ g = w4.heap.size) :
    (Row6 w5 (w.heap.size + 1 + 1) v0 v1 v2 v3 lv (.slice none 0 0)) ∧ CS w (w5.setCell ⟨w.heap.size + 1 + 1, 4, none⟩ (.slice (some ⟨g, 0, none⟩) (j + 1) cap)) l (j + 1) v0 v1 v2 v3 v4 v5 (.slice (some ⟨g, 0, none⟩) (j + 1) cap) := by
  have hlv : ∀ k, lv.ownBlock = some k → w.heap.size + 3 ≤ k ∧ k < W.heap.size := ho.lt
  have hs := h3.size
  have hs4 := h4.size
  have hs5 := hg.size
  have hgb : w.heap.size + 3 ≤ g ∧ ∀ k, k < W.heap.size → some k ≠ lv.ownBlock → k ≠ g := by
    rcases hat with e | e
    · exact ⟨(hlv g e).1, fun k hk hne e2 => hne (by rw [e2, e])⟩
    · exact ⟨by have := h.out.1; omega, fun k hk _ => by omega⟩
  have hgn : ∀ k, W.heap.size ≤ k → k < w4.heap.size → k ≠ g := fun k h1 h2 e => by
    rcases hat with e2 | e2
    · have := (hlv g e2).2; omega
    · omega
  -- blocks that stay
  have st : ∀ k, k < W.heap.size → some k ≠ lv.ownBlock → w5.heap[k]? = W.heap[k]? := fun k hk hne => (hg.block k (by omega) hne).trans ((h4.block k (by omega)).trans (h3.block k hk))
  have sn : ∀ k, W.heap.size ≤ k → k < w3.heap.size → w5.heap[k]? = w3.heap[k]? := fun k hk hk2 => (hg.block k (by omega) (fun e => by have := (hlv k e.symm).2; omega)).trans (h4.block k hk2)
  have o0 := h.arg.1
  have o1 := h.res.1
  have o2 := h.out.1
  have nb : ∀ k, k < w.heap.size + 3 → some k ≠ lv.ownBlock := fun k hk e => by have := (hlv k e.symm).1; omega
  have hout : Row6 w5 (w.heap.size + 1 + 1) v0 v1 v2 v3 lv (.slice none 0 0) := ⟨by omega, (st _ o2 (nb _ (by omega))).trans h.out.2⟩
  have hset : ∀ k, k ≠ w.heap.size + 1 + 1 → (w5.setCell ⟨w.heap.size + 1 + 1, 4, none⟩ (.slice (some ⟨g, 0, none⟩) (j + 1) cap)).heap[k]? = w5.heap[k]? := fun k hk => heap_setCell_other _ _ _ _ hk
  have hsz : (w5.setCell ⟨w.heap.size + 1 + 1, 4, none⟩ (.slice (some ⟨g, 0, none⟩) (j + 1) cap)).heap.size = w5.heap.size := by simp
  have hbel : Below w.heap.size w w5 := (h.below.trans (h3.mono h.below.size)).trans ((h4.mono (by have := h.below.size; omega))) |>.grown hg (by have := h.below.size; omega) (fun k hk => by have := (hlv k hk).1; omega)
  refine ⟨hout, hbel.setCell (p := ⟨w.heap.size + 1 + 1, 4, none⟩) (by show w.heap.size ≤ w.heap.size + 1 + 1; omega) _, ⟨by rw [hsz]; omega, (hset _ (by omega)).trans ((st _ o0 (nb _ (by omega))).trans h.arg.2)⟩, ⟨by rw [hsz]; omega, (hset _ (by omega)).trans ((st _ o1 (nb _ (by omega))).trans h.res.2)⟩, hout.set4, cs ++ [d0, d1, d2, d3, d4, d5], own_set hn (fun e => by simp [Value.ownBlock] at e; omega), ?_⟩
  have ht : l.take (j + 1) = l.take j ++ [x] := by rw [List.take_add_one, hx]; rfl
  rw [ht]
  refine EL.snoc ?_ _ _ ?_
  · refine repA_stays (fun k hk => ?_) (fun k hk => ?_) x _ hr
    · exact (hset k (by omega)).trans (sn k hk.1 hk.2)
    · exact ⟨by omega, fun e => hgn k hk.1 (by omega) (by simpa [Value.ownBlock] using e), by rw [hsz]; omega⟩
  · refine EL.stays (fun k hk => ?_) (fun k hk => ?_) _ _ he
    · exact (hset k (by omega)).trans (st k hk.2.2 hk.2.1)
    · exact ⟨hk.1, fun e => hgb.2 k hk.2.2 hk.2.1 (by simpa [Value.ownBlock] using e), by rw [hsz]; omega⟩
theorem CS.start (w : World) (l : List V) (v0 v1 v2 v3 v4 v5 : Value) :
    CS w (((w.alloc (.cells #[v0, v1, v2, v3, v4, v5] 32)).alloc (.cells #[.int .u8 0, .bool false, .int .i64 0, .string ⟨#[]⟩, .slice none 0 0, .slice none 0 0] 32)).alloc (.cells #[v0, v1, v2, v3, .slice none 0 0, .slice none 0 0] 32)) l 0 v0 v1 v2 v3 v4 v5 (.slice none 0 0) := by
  obtain ⟨w1, hw1⟩ : ∃ w1, w1 = w.alloc (.cells #[v0, v1, v2, v3, v4, v5] 32) := ⟨_, rfl⟩
  obtain ⟨w2, hw2⟩ : ∃ w2, w2 = w1.alloc (.cells #[.int .u8 0, .bool false, .int .i64 0, .string ⟨#[]⟩, .slice none 0 0, .slice none 0 0] 32) := ⟨_, rfl⟩
  have s1 : w1.heap.size = w.heap.size + 1 := by rw [hw1]; simp
  have s2 : w2.heap.size = w.heap.size + 1 + 1 := by rw [hw2]; simp [s1]
  have b1 : Below w.heap.size w w1 := by rw [hw1]; exact below_new _ _
  have b2 : Below w1.heap.size w1 w2 := by rw [hw2]; exact below_new _ _
  have r0 : Row6 w1 w.heap.size v0 v1 v2 v3 v4 v5 := by rw [hw1]; exact ⟨by simp, heap_alloc_new w _⟩
  have r1 : Z6 w2 (w.heap.size + 1) := by
    rw [← s1, hw2]; exact ⟨by simp, heap_alloc_new w1 _⟩
  rw [← hw1, ← hw2]
  refine ⟨((b1.trans (b2.mono b1.size)).trans ((below_new w2 _).mono (by omega))), (r0.call b2).call (below_new _ _), r1.call (below_new _ _), ?_, [], World.ownsRow_nil _ _ _ _, by rw [List.take_zero]; rfl⟩
  rw [← s2]; exact ⟨by simp, heap_alloc_new w2 _⟩
end
/-- a list that lies in blocks between two bounds -/
def LL (W : World) (B M : Nat) (lv : Value) (l : List V) : Prop := ∃ ao lc, lv = .slice ao l.length lc ∧ (0 < l.length → ∃ g, ao = some ⟨g, 0, none⟩ ∧ B ≤ g ∧ g < M ∧ RepLA W (fun g => B ≤ g ∧ g < M) g 0 l)
theorem LL.stays {W W' : World} {B M : Nat} {lv : Value} {l : List V} (h : LL W B M lv l) (hb : ∀ g, B ≤ g → g < M → W'.heap[g]? = W.heap[g]?) : LL W' B M lv l := by
  obtain ⟨ao, lc, e, h1⟩ := h
  refine ⟨ao, lc, e, fun hp => ?_⟩
  obtain ⟨g, e2, h2, h3, h4⟩ := h1 hp
  exact ⟨g, e2, h2, h3, repLA_stays (fun k hk => hb k hk.1 hk.2) (fun _ hk => hk) (hb g h2 h3) l 0 h4⟩
theorem CS.done {w W : World} {l : List V} {v0 v1 v2 v3 v4 v5 lv : Value} (h : CS w W l l.length v0 v1 v2 v3 v4 v5 lv) : LL W (w.heap.size + 3) W.heap.size lv l := by
  obtain ⟨cs, h1, h2⟩ := h.parts
  rw [List.take_length] at h2
  by_cases hp : 0 < l.length
  · obtain ⟨g, cap, rfl, hb, hl, ho, hc⟩ := own_row hp h1
    exact ⟨some ⟨g, 0, none⟩, cap, rfl, fun _ => ⟨g, rfl, hb, hl, EL.lies l cs 0 (EL.stays (fun _ _ => rfl) (fun k hk => ⟨hk.1, hk.2.2⟩) l cs h2) (fun j u hu => by rw [Nat.zero_add]; exact hc j u hu)⟩⟩
  · rcases h1.2 with ⟨e, _⟩ | ⟨g, cap, cur, e, _⟩
    · exact ⟨none, 0, by rw [e]; simp; omega, fun h => absurd h hp⟩
    · exact ⟨some ⟨g, 0, none⟩, cap, e, fun h => absurd h hp⟩
/-- Copy's own variables, the list copied, and j fields -/
structure CT (w W : World) (M : Nat) (l : List V) (f : List (ByteArray × V)) (j : Nat) (v0 v1 v2 v3 v4 v5 lv fv : Value) : Prop where
  below : Below w.heap.size w W
  arg : Row6 W w.heap.size v0 v1 v2 v3 v4 v5
  res : Z6 W (w.heap.size + 1)
  out : Row6 W (w.heap.size + 1 + 1) v0 v1 v2 v3 lv fv
  late : w.heap.size + 3 ≤ M
  le : M ≤ W.heap.size
  li : LL W (w.heap.size + 3) M lv l
  parts : ∃ cs, W.ownsRow M 147 7 fv j cs ∧ EF W (fun g => M ≤ g ∧ some g ≠ fv.ownBlock ∧ g < W.heap.size) (f.take j) cs
section
variable {w W W' : World} {M : Nat} {l : List V} {f : List (ByteArray × V)} {j : Nat} {v0 v1 v2 v3 v4 v5 lv fv : Value}
theorem CT.call (h : CT w W M l f j v0 v1 v2 v3 v4 v5 lv fv) (hb : Below W.heap.size W W') : CT w W' M l f j v0 v1 v2 v3 v4 v5 lv fv := by
  obtain ⟨cs, h1, h2⟩ := h.parts
  have hle := h.le
  exact ⟨h.below.trans (hb.mono h.below.size), h.arg.call hb, h.res.call hb, h.out.call hb, h.late, Nat.le_trans h.le hb.size, h.li.stays (fun g _ hg => hb.block g (by omega)), cs, own_call h1 hb, EF.stays (fun g hg => hb.block g hg.2.2) (fun g hg => ⟨hg.1, hg.2.1, Nat.lt_of_lt_of_le hg.2.2 hb.size⟩) _ _ h2⟩
theorem CT.start (h : CS w W l l.length v0 v1 v2 v3 v4 v5 lv) : CT w W W.heap.size l f 0 v0 v1 v2 v3 v4 v5 lv (.slice none 0 0) :=
  ⟨h.below, h.arg, h.res, h.out, by have := h.out.1; omega, Nat.le_refl _, h.done, [], World.ownsRow_nil _ _ _ _, by rw [List.take_zero]; rfl⟩
theorem CT.next {w3 w4 w5 : World} (h : CT w W M l f j v0 v1 v2 v3 v4 v5 lv fv) {m : ByteArray} {x : V} (hx : f[j]? = some (m, x)) (hm : m.size ≤ maxLen) {cs : List Value} (ho : W.ownsRow M 147 7 fv j cs) (he : EF W (fun g => M ≤ g ∧ some g ≠ fv.ownBlock ∧ g < W.heap.size) (f.take j) cs)
    (h3 : Below W.heap.size W w3) {d0 d1 d2 d3 d4 d5 : Value} (hr : RepA w3 (fun g => W.heap.size ≤ g ∧ g < w3.heap.size) x (.agg #[d0, d1, d2, d3, d4, d5])) (h4 : Below w3.heap.size w3 w4) (hg : w4.grownBy w5 fv.ownBlock)
    {g cap : Nat} (hn : w5.ownsRow M 147 7 (.slice (some ⟨g, 0, none⟩) (j + 1) cap) (j + 1) (cs ++ [.string m, d0, d1, d2, d3, d4, d5])) (hat : fv.ownBlock = some g ∨ g = w4.heap.size) :
    (Row6 w5 (w.heap.size + 1 + 1) v0 v1 v2 v3 lv fv) ∧ CT w (w5.setCell ⟨w.heap.size + 1 + 1, 5, none⟩ (.slice (some ⟨g, 0, none⟩) (j + 1) cap)) M l f (j + 1) v0 v1 v2 v3 v4 v5 lv (.slice (some ⟨g, 0, none⟩) (j + 1) cap) := by
  have hlv : ∀ k, fv.ownBlock = some k → M ≤ k ∧ k < W.heap.size := ho.lt
  have hs := h3.size
  have hs4 := h4.size
  have hs5 := hg.size
  have hlate := h.late
  have hle := h.le
  have hgb : M ≤ g ∧ ∀ k, k < W.heap.size → some k ≠ fv.ownBlock → k ≠ g := by
    rcases hat with e | e
    · exact ⟨(hlv g e).1, fun k hk hne e2 => hne (by rw [e2, e])⟩
    · exact ⟨by omega, fun k hk _ => by omega⟩
  have hgn : ∀ k, W.heap.size ≤ k → k < w4.heap.size → k ≠ g := fun k h1 h2 e => by
    rcases hat with e2 | e2
    · have := (hlv g e2).2; omega
    · omega
  have st : ∀ k, k < W.heap.size → some k ≠ fv.ownBlock → w5.heap[k]? = W.heap[k]? := fun k hk hne => (hg.block k (by omega) hne).trans ((h4.block k (by omega)).trans (h3.block k hk))
  have sn : ∀ k, W.heap.size ≤ k → k < w3.heap.size → w5.heap[k]? = w3.heap[k]? := fun k hk hk2 => (hg.block k (by omega) (fun e => by have := (hlv k e.symm).2; omega)).trans (h4.block k hk2)
  have o0 := h.arg.1
  have o1 := h.res.1
  have o2 := h.out.1
  have nb : ∀ k, k < M → some k ≠ fv.ownBlock := fun k hk e => by have := (hlv k e.symm).1; omega
  have hout : Row6 w5 (w.heap.size + 1 + 1) v0 v1 v2 v3 lv fv := ⟨by omega, (st _ o2 (nb _ (by omega))).trans h.out.2⟩
  have hset : ∀ k, k ≠ w.heap.size + 1 + 1 → (w5.setCell ⟨w.heap.size + 1 + 1, 5, none⟩ (.slice (some ⟨g, 0, none⟩) (j + 1) cap)).heap[k]? = w5.heap[k]? := fun k hk => heap_setCell_other _ _ _ _ hk
  have hsz : (w5.setCell ⟨w.heap.size + 1 + 1, 5, none⟩ (.slice (some ⟨g, 0, none⟩) (j + 1) cap)).heap.size = w5.heap.size := by simp
  have hbel : Below w.heap.size w w5 := (h.below.trans (h3.mono h.below.size)).trans ((h4.mono (by have := h.below.size; omega))) |>.grown hg (by have := h.below.size; omega) (fun k hk => by have := (hlv k hk).1; omega)
  refine ⟨hout, hbel.setCell (p := ⟨w.heap.size + 1 + 1, 5, none⟩) (by show w.heap.size ≤ w.heap.size + 1 + 1; omega) _, ⟨by rw [hsz]; omega, (hset _ (by omega)).trans ((st _ o0 (nb _ (by omega))).trans h.arg.2)⟩, ⟨by rw [hsz]; omega, (hset _ (by omega)).trans ((st _ o1 (nb _ (by omega))).trans h.res.2)⟩, hout.set5, hlate, by rw [hsz]; omega, h.li.stays (fun k hk1 hk2 => (hset k (by omega)).trans (st k (by omega) (nb k hk2))), cs ++ [.string m, d0, d1, d2, d3, d4, d5], own_set hn (fun e => by simp [Value.ownBlock] at e; omega), ?_⟩
  have ht : f.take (j + 1) = f.take j ++ [(m, x)] := by rw [List.take_add_one, hx]; rfl
  rw [ht]
  refine EF.snoc hm ?_ _ _ ?_
  · refine repA_stays (fun k hk => ?_) (fun k hk => ?_) x _ hr
    · exact (hset k (by omega)).trans (sn k hk.1 hk.2)
    · exact ⟨by omega, fun e => hgn k hk.1 (by omega) (by simpa [Value.ownBlock] using e), by rw [hsz]; omega⟩
  · refine EF.stays (fun k hk => ?_) (fun k hk => ?_) _ _ he
    · exact (hset k (by omega)).trans (st k hk.2.2 hk.2.1)
    · exact ⟨hk.1, fun e => hgb.2 k hk.2.2 hk.2.1 (by simpa [Value.ownBlock] using e), by rw [hsz]; omega⟩
/-- what was made, the fields in a row that nothing else lies in -/
def CX (W : World) (B U : Nat) : V → Value → Prop
  | ⟨k, b, n, s, l, f⟩, v => ∃ ao lc fo fc, v = .agg #[.int .u8 (k : Int), .bool b, .int .i64 n, .string s, .slice ao l.length lc, .slice fo f.length fc] ∧
      (0 < l.length → ∃ g, ao = some ⟨g, 0, none⟩ ∧ (B ≤ g ∧ g < U ∧ ∀ a, fo = some a → g ≠ a.block) ∧ RepLA W (fun g => B ≤ g ∧ g < U ∧ ∀ a, fo = some a → g ≠ a.block) g 0 l) ∧
      (0 < f.length → ∃ g, fo = some ⟨g, 0, none⟩ ∧ B ≤ g ∧ g < U ∧ (∃ C, W.heap[g]? = some (.cells C 147 (0, 0)) ∧ f.length * 7 ≤ C.size) ∧ RepFA W (fun g => B ≤ g ∧ g < U ∧ ∀ a, fo = some a → g ≠ a.block) g 0 f)
theorem CX.stays {W W' : World} {B U B' : Nat} (hBB : B' ≤ B) : ∀ {t : V} {v : Value}, CX W B U t v → (∀ g, B ≤ g → g < U → W'.heap[g]? = W.heap[g]?) → CX W' B' U t v
  | ⟨k, b, n, s, l, f⟩, v, h, hb => by
    obtain ⟨ao, lc, fo, fc, e, h2, h3⟩ := h
    refine ⟨ao, lc, fo, fc, e, fun hp => ?_, fun hp => ?_⟩
    · obtain ⟨g, e2, h4, h5⟩ := h2 hp
      exact ⟨g, e2, ⟨by omega, h4.2⟩, repLA_stays (fun k hk => hb k hk.1 hk.2.1) (fun k hk => ⟨by omega, hk.2⟩) (hb g h4.1 h4.2.1) l 0 h5⟩
    · obtain ⟨g, e2, h4, h5, ⟨C, hC1, hC2⟩, h6⟩ := h3 hp
      exact ⟨g, e2, by omega, h5, ⟨C, (hb g h4 h5).trans hC1, hC2⟩, repFA_stays (fun k hk => hb k hk.1 hk.2.1) (fun k hk => ⟨by omega, hk.2⟩) (hb g h4 h5) f 0 h6⟩
theorem CT.cx {k : Nat} {b : Bool} {n : Int} {s : ByteArray} (h : CT w W M l f f.length (.int .u8 (k : Int)) (.bool b) (.int .i64 n) (.string s) v4 v5 lv fv) : CX W (w.heap.size + 3) W.heap.size ⟨k, b, n, s, l, f⟩ (.agg #[.int .u8 (k : Int), .bool b, .int .i64 n, .string s, lv, fv]) := by
  have hlate := h.late
  have hle := h.le
  obtain ⟨ao, lc, rfl, h1⟩ := h.li
  obtain ⟨cs, h2, h3⟩ := h.parts
  rw [List.take_length] at h3
  by_cases hp : 0 < f.length
  · obtain ⟨g, cap, rfl, hb, hl, ho, hc⟩ := own_row hp h2
    refine ⟨ao, lc, some ⟨g, 0, none⟩, cap, rfl, fun hq => ?_, fun _ => ⟨g, rfl, by omega, hl, ?_, ?_⟩⟩
    · obtain ⟨q, e, h5, h6, h7⟩ := h1 hq
      exact ⟨q, e, ⟨h5, by omega, fun a ea => by cases ea; show q ≠ g; omega⟩, repLA_stays (fun _ _ => rfl) (fun j hj => ⟨hj.1, by omega, fun a ea => by cases ea; show j ≠ g; omega⟩) rfl l 0 h7⟩
    · rcases h2.2 with ⟨e, _⟩ | ⟨g', cap', cur, e, _, hrow, hcap, _, hsz, _⟩
      · cases e
      · cases e
        exact ⟨cur, hrow, by rw [hsz]; exact Nat.mul_le_mul_right _ hcap⟩
    · refine EF.lies f cs 0 (EF.stays (fun _ _ => rfl) (fun j hj => ⟨by omega, hj.2.2, fun a ea => ?_⟩) f cs h3) (fun j u hu => by rw [Nat.zero_add]; exact hc j u hu)
      cases ea
      exact fun e => hj.2.1 (by rw [e]; rfl)
  · have hf0 : f.length = 0 := by omega
    obtain ⟨fo, fc, rfl, hno⟩ : ∃ fo fc, fv = .slice fo f.length fc ∧ ∀ a, fo = some a → M ≤ a.block := by
      rcases h2.2 with ⟨e, _⟩ | ⟨g, cap, cur, e, hg, _⟩
      · exact ⟨none, 0, by rw [e, hf0], fun a ea => by cases ea⟩
      · exact ⟨some ⟨g, 0, none⟩, cap, e, fun a ea => by cases ea; exact hg⟩
    refine ⟨ao, lc, fo, fc, rfl, fun hq => ?_, fun h => absurd h hp⟩
    obtain ⟨q, e, h5, h6, h7⟩ := h1 hq
    exact ⟨q, e, ⟨h5, by omega, fun a ea => by have := hno a ea; omega⟩, repLA_stays (fun _ _ => rfl) (fun j hj => ⟨hj.1, by omega, fun a ea => by have := hno a ea; omega⟩) rfl l 0 h7⟩
/-- what was made -/
theorem CT.rep {k : Nat} {b : Bool} {n : Int} {s : ByteArray} (h : CT w W M l f f.length (.int .u8 (k : Int)) (.bool b) (.int .i64 n) (.string s) v4 v5 lv fv) (hk : k < 256 ∧ (-9223372036854775808 ≤ n ∧ n < 9223372036854775808) ∧ s.size ≤ maxLen ∧ l.length ≤ maxLen ∧ f.length ≤ maxLen) :
    RepA W (fun g => w.heap.size + 1 < g ∧ g < W.heap.size) ⟨k, b, n, s, l, f⟩ (.agg #[.int .u8 (k : Int), .bool b, .int .i64 n, .string s, lv, fv]) := by
  have hlate := h.late
  have hle := h.le
  obtain ⟨ao, lc, rfl, h1⟩ := h.li
  obtain ⟨cs, h2, h3⟩ := h.parts
  rw [List.take_length] at h3
  obtain ⟨fo, fc, rfl, h4⟩ : ∃ fo fc, fv = .slice fo f.length fc ∧ (0 < f.length → ∃ g, fo = some ⟨g, 0, none⟩ ∧ M ≤ g ∧ g < W.heap.size ∧ RepFA W (fun g => M ≤ g ∧ g < W.heap.size) g 0 f ∧ ∀ r, W.frozen? ⟨g, r, none⟩ = false) := by
    by_cases hp : 0 < f.length
    · obtain ⟨g, cap, rfl, hb, hl, ho, hc⟩ := own_row hp h2
      exact ⟨some ⟨g, 0, none⟩, cap, rfl, fun _ => ⟨g, rfl, hb, hl, EF.lies f cs 0 (EF.stays (fun _ _ => rfl) (fun k hk => ⟨hk.1, hk.2.2⟩) f cs h3) (fun j u hu => by rw [Nat.zero_add]; exact hc j u hu), own_free h2⟩⟩
    · rcases h2.2 with ⟨e, _⟩ | ⟨g, cap, cur, e, _⟩
      · exact ⟨none, 0, by rw [e]; simp; omega, fun h => absurd h hp⟩
      · exact ⟨some ⟨g, 0, none⟩, cap, e, fun h => absurd h hp⟩
  rw [RepA]
  refine ⟨ao, lc, fo, fc, rfl, hk.1, hk.2.1, hk.2.2.1, hk.2.2.2.1, hk.2.2.2.2, fun hp => ?_, fun hp => ?_⟩
  · obtain ⟨g, e, h5, h6, h7⟩ := h1 hp
    exact ⟨g, 0, e, ⟨by omega, by omega⟩, repLA_stays (fun _ _ => rfl) (fun q hq => ⟨by omega, by omega⟩) rfl l 0 h7⟩
  · obtain ⟨g, e, h5, h6, h7, h8⟩ := h4 hp
    exact ⟨g, 0, e, ⟨by omega, by omega⟩, repFA_stays (fun _ _ => rfl) (fun q hq => ⟨by omega, by omega⟩) rfl f 0 h7, h8⟩
end
end Go.Proofs.YtggnfejjcgbebaaGreatDoor
/- The document's Copy, whatever the value. -/
namespace Go.Proofs.YtggnfejjcgbebaaGreatDoor
open Go.RowKit
open Vl (V)
set_option maxHeartbeats 8000000 in
set_option maxRecDepth 100000 in
theorem copy9_one (k : Nat) (b : Bool) (n : Int) (s : ByteArray) (l : List V) (f : List (ByteArray × V)) (hl : l.length ≤ 1759218604390) (hf : f.length ≤ 1466015503668) (hk : k < 256 ∧ (-9223372036854775808 ≤ n ∧ n < 9223372036854775808) ∧ s.size ≤ maxLen ∧ l.length ≤ maxLen ∧ f.length ≤ maxLen) (w : World) (H : Nat) (hH : H ≤ w.heap.size) (ao : Option Addr) (lc : Nat) (fo : Option Addr) (fc : Nat) (hA : 0 < l.length → ∃ g o, ao = some ⟨g, o, none⟩ ∧ g < H ∧ RepL w H g o l) (hAF : 0 < f.length → ∃ g o, fo = some ⟨g, o, none⟩ ∧ g < H ∧ RepF w H g o f)
    (E : ∀ x ∈ l, ∀ (W : World) (va : Value), H ≤ W.heap.size → Rep W H x va → Calls Tryz.prog 101 #[va] W fun e w' => ∃ v', e = .returned v' ∧ Below W.heap.size W w' ∧ RepA w' (fun g => W.heap.size ≤ g ∧ g < w'.heap.size) x v')
    (EFF : ∀ x ∈ f, ∀ (W : World) (va : Value), H ≤ W.heap.size → Rep W H x.2 va → Calls Tryz.prog 101 #[va] W fun e w' => ∃ v', e = .returned v' ∧ Below W.heap.size W w' ∧ RepA w' (fun g => W.heap.size ≤ g ∧ g < w'.heap.size) x.2 v') :
    Calls Tryz.prog 101 #[.agg #[.int .u8 (k : Int), .bool b, .int .i64 n, .string s, .slice ao l.length lc, .slice fo f.length fc]] w fun e w' => ∃ v', e = .returned v' ∧ Below w.heap.size w w' ∧ RepA w' (fun g => w.heap.size ≤ g ∧ g < w'.heap.size) ⟨k, b, n, s, l, f⟩ v' ∧ CX w' w.heap.size w'.heap.size ⟨k, b, n, s, l, f⟩ v' := by
  obtain ⟨na, hna⟩ : ∃ n, n = l.length := ⟨_, rfl⟩
  obtain ⟨nf, hnf⟩ : ∃ n, n = f.length := ⟨_, rfl⟩
  have HNA : Hid (na = l.length) := hna
  have HA : Hid (0 < l.length → ∃ g o, ao = some ⟨g, o, none⟩ ∧ g < H ∧ RepL w H g o l) := hA
  have HE : Hid (∀ x ∈ l, ∀ (W : World) (va : Value), H ≤ W.heap.size → Rep W H x va → Calls Tryz.prog 101 #[va] W fun e w' => ∃ v', e = .returned v' ∧ Below W.heap.size W w' ∧ RepA w' (fun g => W.heap.size ≤ g ∧ g < w'.heap.size) x v') := E
  have HEF : Hid (∀ x ∈ f, ∀ (W : World) (va : Value), H ≤ W.heap.size → Rep W H x.2 va → Calls Tryz.prog 101 #[va] W fun e w' => ∃ v', e = .returned v' ∧ Below W.heap.size W w' ∧ RepA w' (fun g => W.heap.size ≤ g ∧ g < w'.heap.size) x.2 v') := EFF
  have HAF : Hid (0 < f.length → ∃ g o, fo = some ⟨g, o, none⟩ ∧ g < H ∧ RepF w H g o f) := hAF
  have HNF : Hid (nf = f.length) := hnf
  have HKK : Hid (k < 256 ∧ (-9223372036854775808 ≤ n ∧ n < 9223372036854775808) ∧ s.size ≤ maxLen ∧ l.length ≤ maxLen ∧ f.length ≤ maxLen) := hk
  have HH : Hid (H ≤ w.heap.size) := hH
  rw [← hna] at hl
  rw [← hnf] at hf
  rw [← hna, ← hnf]
  obtain ⟨i0, hi, hz0, hz1, hz2⟩ := info_parts info26'
  obtain ⟨j0, hi', hz0', hz1', hz2'⟩ := info_parts info44'
  clear hA hAF E EFF hna hnf hH hk
  go_enter Tryz.func101, Tryz.ntmps101
  go_wp2
  go_loopw [14] (fun i wr => ∃ (j : Nat) (lv : Value), j ≤ na ∧ i = .int .i64 j ∧ CS w wr l j (.int .u8 (k : Int)) (.bool b) (.int .i64 n) (.string s) (.slice ao na lc) (.slice fo nf fc) lv) (fun i _ => na - (intOf i).toNat)
  case atStart => exact ⟨0, _, Nat.zero_le _, rfl, CS.start w l _ _ _ _ _ _⟩
  case round =>
    obtain ⟨j, lv, hj, rfl, hS⟩ := hrel
    have S : Hid (CS w wr l j (.int .u8 (k : Int)) (.bool b) (.int .i64 n) (.string s) (.slice ao na lc) (.slice fo nf fc) lv) := hS
    clear hS
    by_cases hlt : j < na
    · have ha : j < l.length := by rw [← HNA.out]; exact hlt
      obtain ⟨g, o, rfl, hg, hr⟩ := HA.out (by omega)
      obtain ⟨x, hx⟩ : ∃ x, l[j]? = some x := ⟨_, List.getElem?_eq_getElem ha⟩
      obtain ⟨c0, c1, c2, c3, c4, c5, ⟨d0, d1, d2, d3, d4, d5⟩, hrx⟩ := repL_at l o (repL_stays (S.out.below.mono HH.out) (Nat.le_refl _) hg l o hr) j x hx
      obtain ⟨xk, xb, xn, xs, xa, xl, xc, ya, yl, yc, rfl, rfl, rfl, rfl, rfl, rfl⟩ := rep_form hrx
      have HX : Hid (l[j]? = some x) := hx
      have HRX : Hid (Rep wr H x (.agg #[.int .u8 (xk : Int), .bool xb, .int .i64 xn, .string xs, .slice xa xl xc, .slice ya yl yc])) := hrx
      clear hr hx hrx ha HA
      go_upto_region 6 with fail
      obtain ⟨w2, hw2⟩ : ∃ w2, w2 = wr.alloc (.cells #[.int .u8 (xk : Int), .bool xb, .int .i64 xn, .string xs, .slice xa xl xc, .slice ya yl yc] 32) := ⟨_, rfl⟩
      obtain ⟨B, hB⟩ : ∃ B, B = wr.heap.size := ⟨_, rfl⟩
      have hb2 : Below wr.heap.size wr w2 := by rw [hw2]; exact below_new _ _
      have S2 : Hid (CS w w2 l j (.int .u8 (k : Int)) (.bool b) (.int .i64 n) (.string s) (.slice (some ⟨g, o, none⟩) na lc) (.slice fo nf fc) lv) := S.out.call hb2
      have HBX : Hid (Row6 w2 B (.int .u8 (xk : Int)) (.bool xb) (.int .i64 xn) (.string xs) (.slice xa xl xc) (.slice ya yl yc)) := by
        show Row6 _ _ _ _ _ _ _ _
        rw [hw2, hB]; exact ⟨by simp, heap_alloc_new wr _⟩
      have C9 : Hid (∀ W, Below w2.heap.size w2 W → Calls Tryz.prog 101 #[.agg #[.int .u8 (xk : Int), .bool xb, .int .i64 xn, .string xs, .slice xa xl xc, .slice ya yl yc]] W fun e w' => ∃ (zk : Nat) (zb : Bool) (zn : Int) (zs : ByteArray) (za : Option Addr) (zl zc : Nat) (ta : Option Addr) (tl tc : Nat), e = .returned (.agg #[.int .u8 (zk : Int), .bool zb, .int .i64 zn, .string zs, .slice za zl zc, .slice ta tl tc]) ∧ Below W.heap.size W w' ∧ RepA w' (fun g => W.heap.size ≤ g ∧ g < w'.heap.size) x (.agg #[.int .u8 (zk : Int), .bool zb, .int .i64 zn, .string zs, .slice za zl zc, .slice ta tl tc])) := fun W hW => by
        have h1 := S.out.below.size
        have h2 := hb2.size
        have h3 := hW.size
        have h4 := HH.out
        refine (HE.out x (List.mem_of_getElem? HX.out) W _ (by omega) (rep_stays ((hb2.trans (hW.mono h2)).mono (by omega)) (Nat.le_refl _) x _ HRX.out)).mono ?_
        rintro e w' ⟨v', rfl, hb, hr⟩
        obtain ⟨zk, zb, zn, zs, za, zl, zc, ta, tl, tc, rfl⟩ := repA_form hr
        exact ⟨zk, zb, zn, zs, za, zl, zc, ta, tl, tc, rfl, hb, hr⟩
      rw [← hw2, ← hB]
      clear hw2 hB hb2 d0 d1 d2 d3 d4 d5 S HRX
      obtain ⟨cs, hown, hel⟩ := S2.out.parts
      have HOWN : Hid (w2.ownsRow (w.heap.size + 3) 32 6 lv j cs) := hown
      have HEL : Hid (EL w2 (fun g => w.heap.size + 3 ≤ g ∧ some g ≠ lv.ownBlock ∧ g < w2.heap.size) (l.take j) cs) := hel
      clear hown hel
      obtain ⟨p0, p1, p2, p3, p4, p5⟩ := S2.out.out.cells
      obtain ⟨q0, q1, q2, q3, q4, q5⟩ := HBX.out.cells
      have ltB := HBX.out.1
      have ltO := S2.out.out.1
      have fit63 : Hid (j + 1 ≤ maxLen) := by show _ ≤ _; unfold maxLen; omega
      have fit47 : Hid ((j + 1) * 80 ≤ 140737488355328) := by show _ ≤ _; omega
      go_region_law (first
        | (refine step_append_lies _ (by rfl) _ _ _ (by rfl) (w.heap.size + 3) 32 i0 _ 6 80 Tryz.underlying29 hi hz0 hz1 hz2 rfl (by omega) lv j cs (by rfl) ((own_call HOWN.out HB3.out).alloc _) ⟨w3.heap.size, 0, none⟩ 1 1 [.int .u8 (zk : Int), .bool zb, .int .i64 zn, .string zs, .slice za zl zc, .slice ta tl tc] (by rfl) (by rfl) (World.news_of_block (heap_alloc_new w3 _)) (by simp [Value.oneCell']) (by omega) fit63.out fit47.out (by simp; omega) (w3.heap.size + 1) (by simp) ?_; intro gg cap w5 hown5 hgrow hat hglt
           have N := CS.next S2.out HX.out HOWN.out HEL.out HB3.out HR3.out (by first | exact below_new _ _ | exact (below_new _ _).drew) hgrow hown5 (by simpa using hat)
           have S5 : Hid (CS w (w5.setCell ⟨w.heap.size + 1 + 1, 4, none⟩ (.slice (some ⟨gg, 0, none⟩) (j + 1) cap)) l (j + 1) (.int .u8 (k : Int)) (.bool b) (.int .i64 n) (.string s) (.slice (some ⟨g, o, none⟩) na lc) (.slice fo nf fc) (.slice (some ⟨gg, 0, none⟩) (j + 1) cap)) := N.2
           obtain ⟨t0, t1, t2, t3, t4, t5⟩ := N.1.cells
           have fz5 := N.1.free
           have lt5 := N.1.1
           clear N hown5 hgrow hat hglt)
        | (go_simp; go_at_call 101; refine (C9.out _ ?_).mono ?_; (first | exact Below.refl _ _ | exact (Below.refl _ _).drew); rintro e w3 ⟨zk, zb, zn, zs, za, zl, zc, ta, tl, tc, rfl, hb3, hr3⟩
           have HB3 : Hid (Below w2.heap.size w2 w3) := (by first | exact (Below.refl _ _).drew.trans hb3 | exact hb3)
           have HR3 : Hid (RepA w3 (fun g => w2.heap.size ≤ g ∧ g < w3.heap.size) x (.agg #[.int .u8 (zk : Int), .bool zb, .int .i64 zn, .string zs, .slice za zl zc, .slice ta tl tc])) := (by exact hr3)
           obtain ⟨r0, r1, r2, r3, r4, r5⟩ := (S2.out.call HB3.out).out.cells
           have lt3 := (S2.out.call HB3.out).out.1
           clear hb3 hr3))
      all_goals
        go_wp2
        go_roundw
        case rel => first | exact ⟨j + 1, _, by omega, by go_num, S5.out⟩ | ((repeat apply Exists.intro); exact ⟨⟨j + 1, _, by omega, by go_num, S5.out⟩, rfl⟩)
        case measure => simp [intOf]; omega
    · have hjn : j = na := by omega
      subst hjn
      have T0 : Hid (CT w wr wr.heap.size l f 0 (.int .u8 (k : Int)) (.bool b) (.int .i64 n) (.string s) (.slice ao j lc) (.slice fo nf fc) lv (.slice none 0 0)) := by
        have h1 := S.out
        refine CT.start ?_
        rw [← HNA.out]; exact h1
      obtain ⟨M, hM⟩ : ∃ M, M = wr.heap.size := ⟨_, rfl⟩
      rw [← hM] at T0
      clear hM
      obtain ⟨w0, rfl⟩ : ∃ w0, w0 = wr := ⟨_, rfl⟩
      obtain ⟨a0, a1, a2, a3, a4, a5⟩ := T0.out.arg.cells
      clear S HA HE
      go_wp2
      go_loopw [29] (fun i wr => ∃ (j2 : Nat) (fv : Value), j2 ≤ nf ∧ i = .int .i64 j2 ∧ CT w wr M l f j2 (.int .u8 (k : Int)) (.bool b) (.int .i64 n) (.string s) (.slice ao j lc) (.slice fo nf fc) lv fv) (fun i _ => nf - (intOf i).toNat)
      case atStart => exact ⟨0, _, Nat.zero_le _, rfl, T0.out⟩
      case round =>
        obtain ⟨q, fv, hq, rfl, hT⟩ := hrel
        have T : Hid (CT w wr M l f q (.int .u8 (k : Int)) (.bool b) (.int .i64 n) (.string s) (.slice ao j lc) (.slice fo nf fc) lv fv) := hT
        clear hT T0 a0 a1 a2 a3 a4 a5
        by_cases hlt2 : q < nf
        · have ha : q < f.length := by rw [← HNF.out]; exact hlt2
          obtain ⟨g, o, rfl, hg, hr⟩ := HAF.out (by omega)
          obtain ⟨⟨m, x⟩, hx⟩ : ∃ x, f[q]? = some x := ⟨_, List.getElem?_eq_getElem ha⟩
          obtain ⟨dm, hm, c0, c1, c2, c3, c4, c5, ⟨d0, d1, d2, d3, d4, d5⟩, hrx⟩ := repF_at f o (repF_stays (T.out.below.mono HH.out) (Nat.le_refl _) hg f o hr) q m x hx
          rw [show o + q * 7 + 1 + 1 = o + q * 7 + 2 by omega] at d1
          rw [show o + q * 7 + 1 + 2 = o + q * 7 + 3 by omega] at d2
          rw [show o + q * 7 + 1 + 3 = o + q * 7 + 4 by omega] at d3
          rw [show o + q * 7 + 1 + 4 = o + q * 7 + 5 by omega] at d4
          rw [show o + q * 7 + 1 + 5 = o + q * 7 + 6 by omega] at d5
          obtain ⟨xk, xb, xn, xs, xa, xl, xc, ya, yl, yc, rfl, rfl, rfl, rfl, rfl, rfl⟩ := rep_form hrx
          have HX : Hid (f[q]? = some (m, x)) := hx
          have HMS : Hid (m.size ≤ maxLen) := hm
          have HRX : Hid (Rep wr H x (.agg #[.int .u8 (xk : Int), .bool xb, .int .i64 xn, .string xs, .slice xa xl xc, .slice ya yl yc])) := hrx
          clear hr hx hrx ha hm
          go_upto_region 11 with fail
          obtain ⟨w2, hw2⟩ : ∃ w2, w2 = wr.alloc (.cells #[.string m, .int .u8 (xk : Int), .bool xb, .int .i64 xn, .string xs, .slice xa xl xc, .slice ya yl yc] 147) := ⟨_, rfl⟩
          obtain ⟨B, hB⟩ : ∃ B, B = wr.heap.size := ⟨_, rfl⟩
          have hb2 : Below wr.heap.size wr w2 := by rw [hw2]; exact below_new _ _
          have T2 : Hid (CT w w2 M l f q (.int .u8 (k : Int)) (.bool b) (.int .i64 n) (.string s) (.slice ao j lc) (.slice (some ⟨g, o, none⟩) nf fc) lv fv) := T.out.call hb2
          have HBX : Hid (Row7 w2 B (.string m) (.int .u8 (xk : Int)) (.bool xb) (.int .i64 xn) (.string xs) (.slice xa xl xc) (.slice ya yl yc)) := by
            show Row7 _ _ _ _ _ _ _ _ _
            rw [hw2, hB]; exact ⟨by simp, heap_alloc_new wr _⟩
          have C9 : Hid (∀ W, Below w2.heap.size w2 W → Calls Tryz.prog 101 #[.agg #[.int .u8 (xk : Int), .bool xb, .int .i64 xn, .string xs, .slice xa xl xc, .slice ya yl yc]] W fun e w' => ∃ (zk : Nat) (zb : Bool) (zn : Int) (zs : ByteArray) (za : Option Addr) (zl zc : Nat) (ta : Option Addr) (tl tc : Nat), e = .returned (.agg #[.int .u8 (zk : Int), .bool zb, .int .i64 zn, .string zs, .slice za zl zc, .slice ta tl tc]) ∧ Below W.heap.size W w' ∧ RepA w' (fun g => W.heap.size ≤ g ∧ g < w'.heap.size) x (.agg #[.int .u8 (zk : Int), .bool zb, .int .i64 zn, .string zs, .slice za zl zc, .slice ta tl tc])) := fun W hW => by
            have h1 := T.out.below.size
            have h2 := hb2.size
            have h3 := hW.size
            have h4 := HH.out
            refine (HEF.out (m, x) (List.mem_of_getElem? HX.out) W _ (by omega) (rep_stays ((hb2.trans (hW.mono h2)).mono (by omega)) (Nat.le_refl _) x _ HRX.out)).mono ?_
            rintro e w' ⟨v', rfl, hb, hr⟩
            obtain ⟨zk, zb, zn, zs, za, zl, zc, ta, tl, tc, rfl⟩ := repA_form hr
            exact ⟨zk, zb, zn, zs, za, zl, zc, ta, tl, tc, rfl, hb, hr⟩
          rw [← hw2, ← hB]
          clear hw2 hB hb2 dm d0 d1 d2 d3 d4 d5 T HRX
          obtain ⟨cs, hown, hel⟩ := T2.out.parts
          have HOWN : Hid (w2.ownsRow M 147 7 fv q cs) := hown
          have HEL : Hid (EF w2 (fun g => M ≤ g ∧ some g ≠ fv.ownBlock ∧ g < w2.heap.size) (f.take q) cs) := hel
          clear hown hel
          obtain ⟨p0, p1, p2, p3, p4, p5⟩ := T2.out.out.cells
          obtain ⟨q0, q1, q2, q3, q4, q5, q6⟩ := HBX.out.cells
          have ltB := HBX.out.1
          have ltO := T2.out.out.1
          have HML : Hid (M ≤ w2.heap.size) := T2.out.le
          have fit63 : Hid (q + 1 ≤ maxLen) := by show _ ≤ _; unfold maxLen; omega
          have fit47 : Hid ((q + 1) * 96 ≤ 140737488355328) := by show _ ≤ _; omega
          go_region_law (first
            | (refine step_append_lies _ (by rfl) _ _ _ (by rfl) M 147 j0 _ 7 96 Tryz.underlying30 hi' hz0' hz1' hz2' rfl (by omega) fv q cs (by rfl) ((own_call HOWN.out HB3.out).alloc _) ⟨w3.heap.size, 0, none⟩ 1 1 [.string m, .int .u8 (zk : Int), .bool zb, .int .i64 zn, .string zs, .slice za zl zc, .slice ta tl tc] (by rfl) (by rfl) (World.news_of_block (heap_alloc_new w3 _)) (by simp [Value.oneCell']) (by omega) fit63.out fit47.out (by have := HML.out; have := HB3.out.size; simp; omega) (w3.heap.size + 1) (by simp) ?_; intro gg cap w5 hown5 hgrow hat hglt
               have N := CT.next T2.out HX.out HMS.out HOWN.out HEL.out HB3.out HR3.out (by first | exact below_new _ _ | exact (below_new _ _).drew) hgrow hown5 (by simpa using hat)
               have T5 : Hid (CT w (w5.setCell ⟨w.heap.size + 1 + 1, 5, none⟩ (.slice (some ⟨gg, 0, none⟩) (q + 1) cap)) M l f (q + 1) (.int .u8 (k : Int)) (.bool b) (.int .i64 n) (.string s) (.slice ao j lc) (.slice (some ⟨g, o, none⟩) nf fc) lv (.slice (some ⟨gg, 0, none⟩) (q + 1) cap)) := N.2
               obtain ⟨t0, t1, t2, t3, t4, t5⟩ := N.1.cells
               have fz5 := N.1.free
               have lt5 := N.1.1
               clear N hown5 hgrow hat hglt)
            | (go_simp; go_at_call 101; refine (C9.out _ ?_).mono ?_; (first | exact Below.refl _ _ | exact (Below.refl _ _).drew); rintro e w3 ⟨zk, zb, zn, zs, za, zl, zc, ta, tl, tc, rfl, hb3, hr3⟩
               have HB3 : Hid (Below w2.heap.size w2 w3) := (by first | exact (Below.refl _ _).drew.trans hb3 | exact hb3)
               have HR3 : Hid (RepA w3 (fun g => w2.heap.size ≤ g ∧ g < w3.heap.size) x (.agg #[.int .u8 (zk : Int), .bool zb, .int .i64 zn, .string zs, .slice za zl zc, .slice ta tl tc])) := (by exact hr3)
               obtain ⟨r0, r1, r2, r3, r4, r5⟩ := (T2.out.call HB3.out).out.cells
               obtain ⟨y0, y1, y2, y3, y4, y5, y6⟩ := (HBX.out.call HB3.out).cells
               have lt3 := (T2.out.call HB3.out).out.1
               clear hb3 hr3))
          all_goals
            go_wp2
            go_roundw
            case rel => first | exact ⟨q + 1, _, by omega, by go_num, T5.out⟩ | ((repeat apply Exists.intro); exact ⟨⟨q + 1, _, by omega, by go_num, T5.out⟩, rfl⟩)
            case measure => simp [intOf]; omega
        · have hqn : q = nf := by omega
          subst hqn
          have HREP : Hid (RepA wr (fun g => w.heap.size + 1 < g ∧ g < wr.heap.size) ⟨k, b, n, s, l, f⟩ (.agg #[.int .u8 (k : Int), .bool b, .int .i64 n, .string s, lv, fv])) := by
            have h1 := T.out
            refine CT.rep (M := M) (v4 := .slice ao j lc) (v5 := .slice fo q fc) ?_ HKK.out
            rw [← HNF.out]; exact h1
          have hfr : CX wr (w.heap.size + 3) wr.heap.size ⟨k, b, n, s, l, f⟩ (.agg #[.int .u8 (k : Int), .bool b, .int .i64 n, .string s, lv, fv]) := by
            have h1 := T.out
            refine CT.cx (M := M) (v4 := .slice ao j lc) (v5 := .slice fo q fc) ?_
            rw [← HNF.out]; exact h1
          obtain ⟨uk, ub, un, us, ua, ul, uc', va, vl, vc', hu⟩ := repA_form HREP.out
          simp only [Value.agg.injEq, Array.mk.injEq, List.cons.injEq, and_true] at hu
          obtain ⟨_, _, _, _, rfl, rfl⟩ := hu
          obtain ⟨p0, p1, p2, p3, p4, p5⟩ := T.out.out.cells
          obtain ⟨q0, q1, q2, q3, q4, q5⟩ := Row6.cells T.out.res
          have fz := Row6.free T.out.res
          have hl1 := T.out.out.1
          have hl2 := T.out.res.1
          obtain ⟨z1, z2, z3⟩ := answer_own T.out.res T.out.below HREP.out
          obtain ⟨w8, hw8⟩ : ∃ w8, w8 = wr.setCells (w.heap.size + 1) 0 [.int .u8 (k : Int), .bool b, .int .i64 n, .string s, .slice ua ul uc', .slice va vl vc'] := ⟨_, rfl⟩
          rw [← hw8] at z1 z2 z3
          have HW8 : Hid (w8 = wr.setCells (w.heap.size + 1) 0 [.int .u8 (k : Int), .bool b, .int .i64 n, .string s, .slice ua ul uc', .slice va vl vc']) := hw8
          have HA1 : Hid (w8.heap[w.heap.size + 1]? = some (.cells #[.int .u8 (k : Int), .bool b, .int .i64 n, .string s, .slice ua ul uc', .slice va vl vc'] 32 (0, 0))) := z1
          have HA2 : Hid (Below w.heap.size w w8) := z2
          have HA3 : Hid (RepA w8 (fun g => w.heap.size ≤ g ∧ g < w8.heap.size) ⟨k, b, n, s, l, f⟩ (.agg #[.int .u8 (k : Int), .bool b, .int .i64 n, .string s, .slice ua ul uc', .slice va vl vc'])) := z3
          have HFR : Hid (CX w8 w.heap.size w8.heap.size ⟨k, b, n, s, l, f⟩ (.agg #[.int .u8 (k : Int), .bool b, .int .i64 n, .string s, .slice ua ul uc', .slice va vl vc'])) := by
            show CX _ _ _ _ _
            rw [hw8, size_setCellsV']
            exact CX.stays (by omega) hfr (fun g hg _ => heap_setCells_neV _ g (by omega) _ _ _)
          clear hw8 z1 z2 z3 T HREP hfr
          go_wp2
          rw [sets6, ← HW8.out]
          exact bodyPost_ret (v := .agg #[.int .u8 (k : Int), .bool b, .int .i64 n, .string s, .slice ua ul uc', .slice va vl vc']) (results_cell_row rfl _ _ (w.heap.size + 1) 32 #[.int .u8 (k : Int), .bool b, .int .i64 n, .string s, .slice ua ul uc', .slice va vl vc'] (0, 0) _ rfl HA1.out Tryz.underlying32 rfl infoVal) rfl ⟨_, rfl, HA2.out, HA3.out, HFR.out⟩
end Go.Proofs.YtggnfejjcgbebaaGreatDoor
namespace Go.Proofs.YtggnfejjcgbebaaGreatDoor
open Go.RowKit
open Vl (V)
/-- Copy, whatever the value -/
theorem copy9 : ∀ (N : Nat) (t : V), Vl.count t ≤ N → Vl.small t → ∀ (w : World) (H : Nat) (v : Value), H ≤ w.heap.size → Rep w H t v → Calls Tryz.prog 101 #[v] w fun e w' => ∃ v', e = .returned v' ∧ Below w.heap.size w w' ∧ RepA w' (fun g => w.heap.size ≤ g ∧ g < w'.heap.size) t v' := by
  intro N
  induction N with
  | zero => intro t ht; obtain ⟨k, b, n, s, l, f⟩ := t; rw [Vl.count] at ht; omega
  | succ N ih =>
    rintro ⟨k, b, n, s, l, f⟩ ht hs w H v hH hr
    rw [Rep] at hr
    obtain ⟨ao, lc, fo, fc, rfl, h2, h3, h4, h5, h6, h7, h8⟩ := hr
    rw [Vl.small] at hs
    refine (copy9_one k b n s l f hs.2.1 hs.2.2.1 ⟨h2, h3, h4, h5, h6⟩ w H hH ao lc fo fc h7 h8 (fun x hx W va hW hr => ?_) (fun x hx W va hW hr => ?_)).mono (fun e w' ⟨v', h1, h2, h3, _⟩ => ⟨v', h1, h2, h3⟩)
    · obtain ⟨q, hq⟩ := List.getElem?_of_mem hx
      exact ih x (by have := Vl.count_partL (k := k) (b := b) (n := n) (s := s) (f := f) hq; omega) (Vl.smallL_mem l x hs.2.2.2.1 hx) W H va hW hr
    · obtain ⟨q, hq⟩ := List.getElem?_of_mem hx
      exact ih x.2 (by have := Vl.count_partF (k := k) (b := b) (n := n) (s := s) (l := l) (m := x.1) (x := x.2) hq; omega) (Vl.smallF_mem f x hs.2.2.2.2 hx).2 W H va hW hr
end Go.Proofs.YtggnfejjcgbebaaGreatDoor
