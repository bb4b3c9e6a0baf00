/- slices.DeleteFunc at fields and a name, whatever they are: what is answered lies in the same row. -/
import Derived.Test.YtcgkoogdgagddaaDoorDelete
namespace Go.Proofs.YtcgkoogdgagddaaDoor
open Go.RowKit
open Vl (V)
set_option maxHeartbeats 4000000 in
set_option maxRecDepth 100000 in
theorem delete41_none (name : ByteArray) (P : Nat) (f : List (ByteArray × V)) (fo : Option Addr) (fc : Nat) (w : World) (G : Nat) (hG : G ≤ w.heap.size) (hL : LiesF w G fo f) (hP : P < w.heap.size) (hp : w.cell? ⟨P, 0, none⟩ = some (.string name)) (hno : ¬ Vl.place (fun m => decide (m = name)) f < f.length) :
    Calls Tryd.prog 41 #[.slice fo f.length fc, .func (.func 53) #[] #[.pointer (some ⟨P, 0, none⟩)]] w fun e w' => e = .returned (.slice fo f.length fc) ∧ Below w.heap.size w w' := by
  have C57 : Hid (Calls Tryd.prog 57 #[.slice fo f.length fc, .func (.func 53) #[] #[.pointer (some ⟨P, 0, none⟩)]] w fun e w' => e = .returned (.int .i64 (-1)) ∧ Below w.heap.size w w') := by
    have h1 := index57 name P f fo fc w G hG hL hP hp
    rw [if_neg hno] at h1
    exact h1
  obtain ⟨na, hna⟩ : ∃ n, n = f.length := ⟨_, rfl⟩
  rw [← hna] at C57 ⊢
  clear hL hP hp hno hna
  go_enter Tryd.func41, Tryd.ntmps41
  go_wp2_with fail
  refine C57.out.mono ?_
  rintro e w1 ⟨rfl, hb1⟩
  have HB : Hid (Below w.heap.size w w1) := hb1
  clear hb1 C57
  go_wp2
  exact ⟨rfl, _, results_tmp (by rfl) _ _ _, rfl, HB.out⟩
theorem Vl.drop_none (name : ByteArray) (f : List (ByteArray × V)) (h : ¬ Vl.place (fun m => decide (m = name)) f < f.length) : Vl.dropF f name = f := by
  have := Vl.drop_low name f
  rw [List.take_of_length_le (by omega)] at this
  exact this
theorem delete41_any (name : ByteArray) (P : Nat) (f : List (ByteArray × V)) (fo : Option Addr) (fc : Nat) (w : World) (M G : Nat) (hG : G ≤ w.heap.size) (hL : LF w M G fo fc f) (hl : f.length ≤ maxLen) (hm : ∀ a ∈ f, a.1.size ≤ maxLen) (hP : P < w.heap.size) (hPG : G ≤ P) (hp : w.cell? ⟨P, 0, none⟩ = some (.string name)) :
    Calls Tryd.prog 41 #[.slice fo f.length fc, .func (.func 53) #[] #[.pointer (some ⟨P, 0, none⟩)]] w fun e w' => e = .returned (.slice fo (Vl.dropF f name).length fc) ∧ w.heap.size ≤ w'.heap.size ∧ (M ≤ w.heap.size → Below M w w') ∧ (∀ g, (∀ F, fo = some ⟨F, 0, none⟩ → M ≤ F → F < G → g ≠ F) → g < w.heap.size → w'.heap[g]? = w.heap[g]?) ∧
      (0 < (Vl.dropF f name).length → ∃ F, fo = some ⟨F, 0, none⟩ ∧ M ≤ F ∧ F < G ∧ RepFA w' (fun g => F < g ∧ g < G) F 0 (Vl.dropF f name)) := by
  by_cases hin : Vl.place (fun m => decide (m = name)) f < f.length
  · rcases hL with ⟨e, _⟩ | ⟨h0, F, rfl, rfl, hMF, hFG, hD⟩
    · rw [e] at hin; simp at hin
    · refine (delete41 name P f F G w hFG hG hD hl hm hP (by omega) hp hin).mono ?_
      rintro e w' ⟨rfl, hK, ⟨C, hC1, hC2⟩, hF⟩
      refine ⟨rfl, hK.size, fun _ => hK.below.mono hMF, fun g hg hlt => hK.same g (hg F rfl hMF hFG) hlt, fun _ => ⟨F, rfl, hMF, hFG, repFA_mk _ 0 fun j m x hx => ?_⟩⟩
      obtain ⟨a0, c0, c1, c2, c3, c4, c5, a1, a2⟩ := hF j m x hx
      rw [Nat.zero_add]
      exact ⟨a0, hm (m, x) (Vl.dropF_mem f name _ (List.mem_of_getElem? hx)), c0, c1, c2, c3, c4, c5, a1, a2⟩
  · rw [Vl.drop_none name f hin]
    refine (delete41_none name P f fo fc w G hG (hL.lies hl hm) hP hp hin).mono ?_
    rintro e w' ⟨rfl, hb⟩
    refine ⟨rfl, hb.size, fun h => hb.mono h, fun g _ hlt => hb.block g hlt, fun h0 => ?_⟩
    rcases hL with ⟨e, _⟩ | ⟨_, F, rfl, rfl, hMF, hFG, hD⟩
    · rw [e] at h0; simp at h0
    · exact ⟨F, rfl, hMF, hFG, (hD.agree hFG (fun g _ hg => hb.block g (by omega)) hb.size).repFA hm⟩
end Go.Proofs.YtcgkoogdgagddaaDoor
