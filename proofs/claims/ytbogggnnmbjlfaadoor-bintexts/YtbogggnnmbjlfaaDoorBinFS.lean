/- A struct that is read field by field. -/
import Derived.Test.YtbogggnnmbjlfaaDoorBinLS
namespace Go.Proofs.YtbogggnnmbjlfaaDoor
open Go.RowKit
open Vl (V)
/-- the variables of value, fields of a struct read -/
structure FSt (w0 W : World) (c B v : Nat) (lv : Value) (l : List (ByteArray × V)) : Prop where
  keep : Curw c w0 W
  cl : c < w0.heap.size
  hB : w0.heap.size ≤ B
  hv : B + 1 < v
  box : W.heap[B]? = some (.cells #[.pointer (some ⟨c, 0, none⟩)] 101 (0, 0))
  res : Z6 W (B + 1)
  row : Row6 W v (.int .u8 6) (.bool false) (.int .i64 0) (.string ⟨#[]⟩) (.slice none 0 0) lv
  parts : ∃ cs, W.ownsRow (v + 1) 39 7 lv l.length cs ∧ EF W (fun g => v + 1 ≤ g ∧ some g ≠ lv.ownBlock ∧ g < W.heap.size) l cs
theorem FSt.call {w0 W W' : World} {c B v : Nat} {lv : Value} {l : List (ByteArray × V)} (h : FSt w0 W c B v lv l) (k : Curw c W W') : FSt w0 W' c B v lv l := by
  obtain ⟨cs, h1, h2⟩ := h.parts
  have a1 := h.cl
  have a2 := h.hB
  have a3 := h.hv
  have a4 := h.row.1
  refine ⟨h.keep.trans k, h.cl, h.hB, h.hv, (k.block B (by omega) (by omega)).trans h.box, h.res.keep k.size (k.block _ (by omega) (by omega)), h.row.keep k.size (k.block _ (by omega) (by omega)), cs, own_keep h1 (fun g hg hl => k.block g hl (by omega)), ?_⟩
  exact EF.stays (fun g hg => k.block g hg.2.2 (by omega)) (fun g hg => ⟨hg.1, hg.2.1, Nat.lt_of_lt_of_le hg.2.2 k.size⟩) _ _ h2
set_option maxHeartbeats 2000000 in
/-- one part more -/
theorem FSt.next {w0 W w3 w4 w5 : World} {c B v n lc : Nat} {la : Option Addr} {l : List (ByteArray × V)} {m : ByteArray} (hm : m.size ≤ maxLen) {x : V} {s' : ByteArray} {bad' : Bool} {d0 d1 d2 d3 d4 d5 : Value} {gg cap : Nat} {cs zs : List Value}
    (h : FSt w0 W c B v (.slice la n lc) l) (hl : n = l.length) (ho : W.ownsRow (v + 1) 39 7 (.slice la n lc) n cs) (he : EF W (fun g => v + 1 ≤ g ∧ some g ≠ (Value.slice la n lc).ownBlock ∧ g < W.heap.size) l cs)
    (k3 : Curw c W w3) (hr : RepA w3 (fun g => W.heap.size ≤ g ∧ g < w3.heap.size) x (.agg #[d0, d1, d2, d3, d4, d5])) (hc : Cur c s' bad' w3) (h4 : Below w3.heap.size w3 w4) (hg : w4.grownBy w5 (Value.slice la n lc).ownBlock)
    (hn : w5.ownsRow (v + 1) 39 7 (.slice (some ⟨gg, 0, none⟩) (n + 1) cap) (n + 1) (cs ++ zs)) (hz : zs.length = 7) (hat : (Value.slice la n lc).ownBlock = some gg ∨ gg = w4.heap.size) :
    gg ≠ v ∧ Row6 w5 v (.int .u8 6) (.bool false) (.int .i64 0) (.string ⟨#[]⟩) (.slice none 0 0) (.slice la n lc) ∧ (∀ j u, zs[j]? = some u → w5.cell? ⟨gg, n * 7 + j, none⟩ = some u) ∧ (∀ j, w5.frozen? ⟨gg, j, none⟩ = false) ∧
    FSt w0 ((w5.setCells gg (n * 7) [.string m, d0, d1, d2, d3, d4, d5]).setCell ⟨v, 5, none⟩ (.slice (some ⟨gg, 0, none⟩) (n + 1) cap)) c B v (.slice (some ⟨gg, 0, none⟩) (n + 1) cap) (l ++ [(m, x)]) ∧
    Cur c s' bad' ((w5.setCells gg (n * 7) [.string m, d0, d1, d2, d3, d4, d5]).setCell ⟨v, 5, none⟩ (.slice (some ⟨gg, 0, none⟩) (n + 1) cap)) := by
  have hlv : ∀ k, (Value.slice la n lc).ownBlock = some k → v + 1 ≤ k ∧ k < W.heap.size := ho.lt
  have a1 := h.cl
  have a2 := h.hB
  have a3 := h.hv
  have a4 := h.row.1
  have s3 := k3.size
  have s4 := h4.size
  have s5 := hg.size
  have hgb : v + 1 ≤ gg ∧ gg < w5.heap.size := hn.lt gg rfl
  have hgn : ∀ k, k < w4.heap.size → some k ≠ (Value.slice la n lc).ownBlock → k ≠ gg := fun k hk hne e => by
    rcases hat with e2 | e2
    · exact hne (by rw [e, e2])
    · omega
  have hcs : cs.length = n * 7 := ho.1
  have st : ∀ k, k < W.heap.size → k ≠ c → some k ≠ (Value.slice la n lc).ownBlock → w5.heap[k]? = W.heap[k]? := fun k hk hkc hne => (hg.block k (by omega) hne).trans ((h4.block k (by omega)).trans (k3.block k hk hkc))
  have sn : ∀ k, W.heap.size ≤ k → k < w3.heap.size → w5.heap[k]? = w3.heap[k]? := fun k hk hk2 => (hg.block k (by omega) (fun e => by have := (hlv k e.symm).2; omega)).trans (h4.block k hk2)
  have nb : ∀ k, k ≤ v → some k ≠ (Value.slice la n lc).ownBlock := fun k hk e => by have := (hlv k e.symm).1; omega
  have sc : w5.heap[c]? = w3.heap[c]? := (hg.block c (by omega) (nb c (by omega))).trans (h4.block c (by omega))
  have hrow : Row6 w5 v (.int .u8 6) (.bool false) (.int .i64 0) (.string ⟨#[]⟩) (.slice none 0 0) (.slice la n lc) := h.row.keep (by omega) (st v a4 (by omega) (nb v (Nat.le_refl _)))
  have hnew := own_last (ds := [.string m, d0, d1, d2, d3, d4, d5]) hn hcs hz rfl
  have b6 : Below 0 w5 (w5.setCells gg (n * 7) [.string m, d0, d1, d2, d3, d4, d5]) := below_setCells (Nat.zero_le gg) _ _ (Below.refl 0 w5)
  have k6 : ∀ k, k ≠ gg → (w5.setCells gg (n * 7) [.string m, d0, d1, d2, d3, d4, d5]).heap[k]? = w5.heap[k]? := fun k hk => setCells_block hk _
  have s6 : (w5.setCells gg (n * 7) [.string m, d0, d1, d2, d3, d4, d5]).heap.size = w5.heap.size := size_setCells' _ _ _ _
  obtain ⟨w6, hw6⟩ : ∃ w6, w6 = w5.setCells gg (n * 7) [.string m, d0, d1, d2, d3, d4, d5] := ⟨_, rfl⟩
  rw [← hw6] at hnew b6 k6 s6 ⊢
  clear hw6
  obtain ⟨nv, hnv⟩ : ∃ nv : Value, nv = .slice (some ⟨gg, 0, none⟩) (n + 1) cap := ⟨_, rfl⟩
  have hend : ∀ k, k ≠ gg → k ≠ v → (w6.setCell ⟨v, 5, none⟩ nv).heap[k]? = w5.heap[k]? := fun k h1 h2 => (heap_setCell_other _ _ _ _ h2).trans (k6 k h1)
  have hsz : (w6.setCell ⟨v, 5, none⟩ nv).heap.size = w5.heap.size := by simp [s6]
  have hnb : nv.ownBlock = some gg := by rw [hnv]; rfl
  have cell5 : ∀ j u, zs[j]? = some u → w5.cell? ⟨gg, n * 7 + j, none⟩ = some u := by
    intro j u hu
    have hcell := hn.cells (g := gg) rfl (n * 7 + j) u
    rw [Addr.add_mid, Nat.zero_add] at hcell
    refine hcell ?_
    rw [List.getElem?_append_right (by omega), hcs, show n * 7 + j - n * 7 = j by omega]
    exact hu
  have free5 : ∀ j, w5.frozen? ⟨gg, j, none⟩ = false := by
    intro j
    rcases hn.2 with ⟨e, _⟩ | ⟨g', cap', cur, e, _, h2, _⟩
    · cases e
    · cases e
      exact row_free h2 j
  rw [← hnv] at hnew ⊢
  have keep6 : Curw c w0 (w6.setCell ⟨v, 5, none⟩ nv) := by
    refine ⟨b6.os.trans (hg.os.trans (h4.os.trans (k3.os.trans h.keep.os))), b6.tape.trans (hg.tape.trans (h4.tape.trans (k3.tape.trans h.keep.tape))), b6.output.trans (hg.output.trans (h4.output.trans (k3.output.trans h.keep.output))), by rw [hsz]; have := h.keep.size; omega, fun k hk hkc => ?_⟩
    have := h.keep.size
    exact (hend k (by omega) (by omega)).trans ((st k (by omega) hkc (nb k (by omega))).trans (h.keep.block k hk hkc))
  refine ⟨by omega, hrow, cell5, free5, ⟨keep6, h.cl, h.hB, h.hv, ?_, ?_, ?_, cs ++ [.string m, d0, d1, d2, d3, d4, d5], ?_, ?_⟩, ?_, ?_⟩
  · exact (hend B (by omega) (by omega)).trans ((st B (by omega) (by omega) (nb B (by omega))).trans h.box)
  · exact h.res.keep (by rw [hsz]; omega) ((hend (B + 1) (by omega) (by omega)).trans (st (B + 1) (by omega) (by omega) (nb (B + 1) (by omega))))
  · exact Row6.set5 (hrow.keep (by omega) (k6 v (by omega)))
  · rw [List.length_append, List.length_singleton, ← hl]
    exact own_set hnew (fun e => by rw [hnb] at e; injection e with e; omega)
  · refine EF.snoc hm ?_ _ _ ?_
    · refine repA_stays (fun k hk => ?_) (fun k hk => ?_) x _ hr
      · exact (hend k (hgn k (by omega) (fun e => by have := (hlv k e.symm).2; omega)) (by omega)).trans (sn k hk.1 hk.2)
      · exact ⟨by omega, fun e => hgn k (by omega) (fun e => by have := (hlv k e.symm).2; omega) (by rw [hnb] at e; injection e), by rw [hsz]; omega⟩
    · refine EF.stays (fun k hk => ?_) (fun k hk => ?_) _ _ he
      · exact (hend k (hgn k (by omega) hk.2.1) (by omega)).trans (st k hk.2.2 (by omega) hk.2.1)
      · exact ⟨hk.1, fun e => hgn k (by omega) hk.2.1 (by rw [hnb] at e; injection e), by rw [hsz]; omega⟩
  · rw [hsz]; have := hc.lt; omega
  · exact (hend c (by omega) (by omega)).trans (sc.trans hc.row)
end Go.Proofs.YtbogggnnmbjlfaaDoor
