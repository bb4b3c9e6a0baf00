/- A list that is read part by part: the variable, its row, and what the parts are. -/
import Derived.Test.YtbogggnnmbjlfaaDoorBinCT
import Derived.Test.YtbogggnnmbjlfaaDoorBinK
namespace Go.Proofs.YtbogggnnmbjlfaaDoor
open Go.RowKit
open Vl (V)
/-- what reading a value off a text says of the value and of what is left -/
def PV (s : ByteArray) (x : V) (s' : ByteArray) (bad : Bool) : Prop := (bad = false ∧ Bn.fit x ∧ s.data.toList = Bn.bytes x ++ s'.data.toList) ∨ (bad = true ∧ s' = ⟨#[]⟩ ∧ Bn.noV s.data.toList)
/-- the variables of value, parts of a list read -/
structure LS (w0 W : World) (c B v : Nat) (lv : Value) (l : List V) : Prop where
  keep : Curw c w0 W
  cl : c < w0.heap.size
  hB : w0.heap.size ≤ B
  hv : B + 1 < v
  box : W.heap[B]? = some (.cells #[.pointer (some ⟨c, 0, none⟩)] 101 (0, 0))
  res : Z6 W (B + 1)
  row : Row6 W v (.int .u8 5) (.bool false) (.int .i64 0) (.string ⟨#[]⟩) lv (.slice none 0 0)
  parts : ∃ cs, W.ownsRow (v + 1) 26 6 lv l.length cs ∧ EL W (fun g => v + 1 ≤ g ∧ some g ≠ lv.ownBlock ∧ g < W.heap.size) l cs
theorem own_keep {W W' : World} {B n size : Nat} {t : TypeId} {v : Value} {L : List Value} (h : W.ownsRow B t size v n L) (hb : ∀ g, B ≤ g → g < W.heap.size → W'.heap[g]? = W.heap[g]?) : W'.ownsRow B t size v n L := by
  refine ⟨h.1, ?_⟩
  rcases h.2 with h1 | ⟨g, cap, cur, e, h2, h3, h4⟩
  · exact Or.inl h1
  · exact Or.inr ⟨g, cap, cur, e, h2, (hb g h2 (Array.getElem?_eq_some_iff.1 h3).1).trans h3, h4⟩
theorem Row6.keep {W W' : World} {g : Nat} {v0 v1 v2 v3 v4 v5 : Value} (h : Row6 W g v0 v1 v2 v3 v4 v5) (hs : W.heap.size ≤ W'.heap.size) (hb : W'.heap[g]? = W.heap[g]?) : Row6 W' g v0 v1 v2 v3 v4 v5 := ⟨Nat.lt_of_lt_of_le h.1 hs, hb.trans h.2⟩
theorem LS.call {w0 W W' : World} {c B v : Nat} {lv : Value} {l : List V} (h : LS w0 W c B v lv l) (k : Curw c W W') : LS w0 W' c B v lv l := by
  obtain ⟨cs, h1, h2⟩ := h.parts
  have a1 := h.cl
  have a2 := h.hB
  have a3 := h.hv
  have a4 := h.row.1
  refine ⟨h.keep.trans k, h.cl, h.hB, h.hv, (k.block B (by omega) (by omega)).trans h.box, h.res.keep k.size (k.block _ (by omega) (by omega)), h.row.keep k.size (k.block _ (by omega) (by omega)), cs, own_keep h1 (fun g hg hl => k.block g hl (by omega)), ?_⟩
  exact EL.stays (fun g hg => k.block g hg.2.2 (by omega)) (fun g hg => ⟨hg.1, hg.2.1, Nat.lt_of_lt_of_le hg.2.2 k.size⟩) _ _ h2
/-- the last cells of a row that is owned, written anew -/
theorem own_last {W : World} {base gg n cap size : Nat} {t : TypeId} {xs zs ds : List Value} (h : W.ownsRow base t size (.slice (some ⟨gg, 0, none⟩) (n + 1) cap) (n + 1) (xs ++ zs)) (hx : xs.length = n * size) (hz : zs.length = size) (hd : ds.length = size) :
    (W.setCells gg (n * size) ds).ownsRow base t size (.slice (some ⟨gg, 0, none⟩) (n + 1) cap) (n + 1) (xs ++ ds) := by
  refine ⟨by have := h.1; rw [List.length_append] at this ⊢; omega, ?_⟩
  rcases h.2 with ⟨e, _⟩ | ⟨g, cap', cur, e, h1, h2, h3, h4, h5, h6⟩
  · cases e
  · injection e with e1 e2 e3
    injection e1 with e1
    injection e1 with e1 _ _
    subst e1 e3
    have h6' : (n + 1) * size = n * size + size := by rw [Nat.add_mul, Nat.one_mul]
    have hle : n * size + ds.length ≤ cur.size := by
      have : (n + 1) * size ≤ cap * size := Nat.mul_le_mul_right _ h3
      omega
    refine Or.inr ⟨gg, cap, putAll cur (n * size) ds, rfl, h1, heap_setCells_put gg t ds (n * size) W cur h2, h3, h4, by rw [putAll_size]; exact h5, ?_⟩
    apply List.ext_getElem?
    intro i
    by_cases hi : i < n * size
    · rw [List.getElem?_take_of_lt (by omega), Array.getElem?_toList, putAll_other ds cur (n * size) i (Or.inl hi), List.getElem?_append_left (by omega)]
      have this : (cur.toList.take ((n + 1) * size))[i]? = (xs ++ zs)[i]? := by rw [h6]
      rw [List.getElem?_take_of_lt (by omega), Array.getElem?_toList, List.getElem?_append_left (by omega)] at this
      exact this
    · by_cases hi2 : i < n * size + size
      · obtain ⟨q, rfl⟩ : ∃ q, i = n * size + q := ⟨i - n * size, by omega⟩
        have hq : q < ds.length := by omega
        rw [List.getElem?_take_of_lt (by omega), Array.getElem?_toList, putAll_at ds cur (n * size) q _ hle (List.getElem?_eq_getElem hq), List.getElem?_append_right (by omega), hx]
        rw [show n * size + q - n * size = q by omega, List.getElem?_eq_getElem hq]
      · rw [List.getElem?_eq_none (by rw [List.length_take]; omega), List.getElem?_eq_none (by rw [List.length_append]; omega)]
theorem setCells_block {W : World} {gg p k : Nat} (hk : k ≠ gg) (ds : List Value) : (W.setCells gg p ds).heap[k]? = W.heap[k]? := heap_setCells_ne gg k hk ds p W
set_option maxHeartbeats 2000000 in
/-- one part more -/
theorem LS.next {w0 W w3 w4 w5 : World} {c B v n lc : Nat} {la : Option Addr} {l : List V} {x : V} {s' : ByteArray} {bad' : Bool} {d0 d1 d2 d3 d4 d5 : Value} {gg cap : Nat} {cs zs : List Value}
    (h : LS w0 W c B v (.slice la n lc) l) (hl : n = l.length) (ho : W.ownsRow (v + 1) 26 6 (.slice la n lc) n cs) (he : EL W (fun g => v + 1 ≤ g ∧ some g ≠ (Value.slice la n lc).ownBlock ∧ g < W.heap.size) l cs)
    (k3 : Curw c W w3) (hr : RepA w3 (fun g => W.heap.size ≤ g ∧ g < w3.heap.size) x (.agg #[d0, d1, d2, d3, d4, d5])) (hc : Cur c s' bad' w3) (h4 : Below w3.heap.size w3 w4) (hg : w4.grownBy w5 (Value.slice la n lc).ownBlock)
    (hn : w5.ownsRow (v + 1) 26 6 (.slice (some ⟨gg, 0, none⟩) (n + 1) cap) (n + 1) (cs ++ zs)) (hz : zs.length = 6) (hat : (Value.slice la n lc).ownBlock = some gg ∨ gg = w4.heap.size) :
    gg ≠ v ∧ Row6 w5 v (.int .u8 5) (.bool false) (.int .i64 0) (.string ⟨#[]⟩) (.slice la n lc) (.slice none 0 0) ∧ (∀ j u, zs[j]? = some u → w5.cell? ⟨gg, n * 6 + j, none⟩ = some u) ∧ (∀ j, w5.frozen? ⟨gg, j, none⟩ = false) ∧
    LS w0 ((w5.setCells gg (n * 6) [d0, d1, d2, d3, d4, d5]).setCell ⟨v, 4, none⟩ (.slice (some ⟨gg, 0, none⟩) (n + 1) cap)) c B v (.slice (some ⟨gg, 0, none⟩) (n + 1) cap) (l ++ [x]) ∧
    Cur c s' bad' ((w5.setCells gg (n * 6) [d0, d1, d2, d3, d4, d5]).setCell ⟨v, 4, none⟩ (.slice (some ⟨gg, 0, none⟩) (n + 1) cap)) := by
  have hlv : ∀ k, (Value.slice la n lc).ownBlock = some k → v + 1 ≤ k ∧ k < W.heap.size := ho.lt
  have a1 := h.cl
  have a2 := h.hB
  have a3 := h.hv
  have a4 := h.row.1
  have s3 := k3.size
  have s4 := h4.size
  have s5 := hg.size
  have hgb : v + 1 ≤ gg ∧ gg < w5.heap.size := hn.lt gg rfl
  have hgn : ∀ k, k < w4.heap.size → some k ≠ (Value.slice la n lc).ownBlock → k ≠ gg := fun k hk hne e => by
    rcases hat with e2 | e2
    · exact hne (by rw [e, e2])
    · omega
  have hcs : cs.length = n * 6 := ho.1
  have st : ∀ k, k < W.heap.size → k ≠ c → some k ≠ (Value.slice la n lc).ownBlock → w5.heap[k]? = W.heap[k]? := fun k hk hkc hne => (hg.block k (by omega) hne).trans ((h4.block k (by omega)).trans (k3.block k hk hkc))
  have sn : ∀ k, W.heap.size ≤ k → k < w3.heap.size → w5.heap[k]? = w3.heap[k]? := fun k hk hk2 => (hg.block k (by omega) (fun e => by have := (hlv k e.symm).2; omega)).trans (h4.block k hk2)
  have nb : ∀ k, k ≤ v → some k ≠ (Value.slice la n lc).ownBlock := fun k hk e => by have := (hlv k e.symm).1; omega
  have sc : w5.heap[c]? = w3.heap[c]? := (hg.block c (by omega) (nb c (by omega))).trans (h4.block c (by omega))
  have hrow : Row6 w5 v (.int .u8 5) (.bool false) (.int .i64 0) (.string ⟨#[]⟩) (.slice la n lc) (.slice none 0 0) := h.row.keep (by omega) (st v a4 (by omega) (nb v (Nat.le_refl _)))
  have hnew := own_last (ds := [d0, d1, d2, d3, d4, d5]) hn hcs hz rfl
  have b6 : Below 0 w5 (w5.setCells gg (n * 6) [d0, d1, d2, d3, d4, d5]) := below_setCells (Nat.zero_le gg) _ _ (Below.refl 0 w5)
  have k6 : ∀ k, k ≠ gg → (w5.setCells gg (n * 6) [d0, d1, d2, d3, d4, d5]).heap[k]? = w5.heap[k]? := fun k hk => setCells_block hk _
  have s6 : (w5.setCells gg (n * 6) [d0, d1, d2, d3, d4, d5]).heap.size = w5.heap.size := size_setCells' _ _ _ _
  obtain ⟨w6, hw6⟩ : ∃ w6, w6 = w5.setCells gg (n * 6) [d0, d1, d2, d3, d4, d5] := ⟨_, rfl⟩
  rw [← hw6] at hnew b6 k6 s6 ⊢
  clear hw6
  obtain ⟨nv, hnv⟩ : ∃ nv : Value, nv = .slice (some ⟨gg, 0, none⟩) (n + 1) cap := ⟨_, rfl⟩
  have hend : ∀ k, k ≠ gg → k ≠ v → (w6.setCell ⟨v, 4, none⟩ nv).heap[k]? = w5.heap[k]? := fun k h1 h2 => (heap_setCell_other _ _ _ _ h2).trans (k6 k h1)
  have hsz : (w6.setCell ⟨v, 4, none⟩ nv).heap.size = w5.heap.size := by simp [s6]
  have hnb : nv.ownBlock = some gg := by rw [hnv]; rfl
  have cell5 : ∀ j u, zs[j]? = some u → w5.cell? ⟨gg, n * 6 + j, none⟩ = some u := by
    intro j u hu
    have hcell := hn.cells (g := gg) rfl (n * 6 + j) u
    rw [Addr.add_mid, Nat.zero_add] at hcell
    refine hcell ?_
    rw [List.getElem?_append_right (by omega), hcs, show n * 6 + j - n * 6 = j by omega]
    exact hu
  have free5 : ∀ j, w5.frozen? ⟨gg, j, none⟩ = false := by
    intro j
    rcases hn.2 with ⟨e, _⟩ | ⟨g', cap', cur, e, _, h2, _⟩
    · cases e
    · cases e
      exact row_free h2 j
  rw [← hnv] at hnew ⊢
  have keep6 : Curw c w0 (w6.setCell ⟨v, 4, none⟩ nv) := by
    refine ⟨b6.os.trans (hg.os.trans (h4.os.trans (k3.os.trans h.keep.os))), b6.tape.trans (hg.tape.trans (h4.tape.trans (k3.tape.trans h.keep.tape))), b6.output.trans (hg.output.trans (h4.output.trans (k3.output.trans h.keep.output))), by rw [hsz]; have := h.keep.size; omega, fun k hk hkc => ?_⟩
    have := h.keep.size
    exact (hend k (by omega) (by omega)).trans ((st k (by omega) hkc (nb k (by omega))).trans (h.keep.block k hk hkc))
  refine ⟨by omega, hrow, cell5, free5, ⟨keep6, h.cl, h.hB, h.hv, ?_, ?_, ?_, cs ++ [d0, d1, d2, d3, d4, d5], ?_, ?_⟩, ?_, ?_⟩
  · exact (hend B (by omega) (by omega)).trans ((st B (by omega) (by omega) (nb B (by omega))).trans h.box)
  · exact h.res.keep (by rw [hsz]; omega) ((hend (B + 1) (by omega) (by omega)).trans (st (B + 1) (by omega) (by omega) (nb (B + 1) (by omega))))
  · exact Row6.set4 (hrow.keep (by omega) (k6 v (by omega)))
  · rw [List.length_append, List.length_singleton, ← hl]
    exact own_set hnew (fun e => by rw [hnb] at e; injection e with e; omega)
  · refine EL.snoc ?_ _ _ ?_
    · refine repA_stays (fun k hk => ?_) (fun k hk => ?_) x _ hr
      · exact (hend k (hgn k (by omega) (fun e => by have := (hlv k e.symm).2; omega)) (by omega)).trans (sn k hk.1 hk.2)
      · exact ⟨by omega, fun e => hgn k (by omega) (fun e => by have := (hlv k e.symm).2; omega) (by rw [hnb] at e; injection e), by rw [hsz]; omega⟩
    · refine EL.stays (fun k hk => ?_) (fun k hk => ?_) _ _ he
      · exact (hend k (hgn k (by omega) hk.2.1) (by omega)).trans (st k hk.2.2 (by omega) hk.2.1)
      · exact ⟨hk.1, fun e => hgn k (by omega) hk.2.1 (by rw [hnb] at e; injection e), by rw [hsz]; omega⟩
  · rw [hsz]; have := hc.lt; omega
  · exact (hend c (by omega) (by omega)).trans (sc.trans hc.row)
theorem modify_comm {α : Type} (A : Array α) (a b : Nat) (f g : α → α) (h : a ≠ b) : (A.modify a f).modify b g = (A.modify b g).modify a f := by
  apply Array.ext_getElem?
  intro i
  simp only [Array.getElem?_modify]
  by_cases h1 : a = i
  · by_cases h2 : b = i
    · omega
    · simp [h1, h2]
  · by_cases h2 : b = i
    · simp [h1, h2]
    · simp [h1, h2]
theorem setCell_comm (w : World) (a o b p : Nat) (u v : Value) (h : a ≠ b) : (w.setCell ⟨a, o, none⟩ u).setCell ⟨b, p, none⟩ v = (w.setCell ⟨b, p, none⟩ v).setCell ⟨a, o, none⟩ u := by
  unfold World.setCell
  dsimp only
  rw [modify_comm _ _ _ _ _ h]
theorem setCells_comm (a o b : Nat) (u : Value) (h : a ≠ b) : ∀ (ds : List Value) (p : Nat) (w : World), (w.setCell ⟨a, o, none⟩ u).setCells b p ds = (w.setCells b p ds).setCell ⟨a, o, none⟩ u
  | [], _, _ => rfl
  | d :: r, p, w => by rw [World.setCells, World.setCells, setCell_comm w a o b p u d h, setCells_comm a o b u h r (p + 1)]
theorem sets6at (W : World) (B p : Nat) (v0 v1 v2 v3 v4 v5 : Value) : ((((((W.setCell ⟨B, p, none⟩ v0).setCell ⟨B, p + 1, none⟩ v1).setCell ⟨B, p + 2, none⟩ v2).setCell ⟨B, p + 3, none⟩ v3).setCell ⟨B, p + 4, none⟩ v4).setCell ⟨B, p + 5, none⟩ v5) = W.setCells B p [v0, v1, v2, v3, v4, v5] := rfl
theorem sets7at (W : World) (B p : Nat) (v0 v1 v2 v3 v4 v5 v6 : Value) : (((((((W.setCell ⟨B, p, none⟩ v0).setCell ⟨B, p + 1, none⟩ v1).setCell ⟨B, p + 2, none⟩ v2).setCell ⟨B, p + 3, none⟩ v3).setCell ⟨B, p + 4, none⟩ v4).setCell ⟨B, p + 5, none⟩ v5).setCell ⟨B, p + 6, none⟩ v6) = W.setCells B p [v0, v1, v2, v3, v4, v5, v6] := rfl
end Go.Proofs.YtbogggnnmbjlfaaDoor
