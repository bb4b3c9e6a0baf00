/- great and Keyword, walked. -/
import Derived.Test.YtdejnphiejkglaaGreatDoorLxA
namespace Go.Proofs.YtdejnphiejkglaaGreatDoor
open Go.RowKit
/-- bytes in a row of their own, the first of them made great -/
structure GR (w W : World) (l : List UInt8) (j : Nat) : Prop where
  below : Below w.heap.size w W
  cell : ∀ k b, l[k]? = some b → W.cell? ⟨w.heap.size, k, none⟩ = some (.int .u8 (((if k < j then Lx.up b else b).toNat : Nat) : Int))
  free : ∀ k, k < l.length → W.frozen? ⟨w.heap.size, k, none⟩ = false
theorem bytesRow_at (s : ByteArray) (c k : Nat) (b : UInt8) (h : s.data.toList[k]? = some b) : (bytesRow s c)[k]? = some (.int .u8 ((b.toNat : Nat) : Int)) := by
  obtain ⟨hk, e⟩ := List.getElem?_eq_some_iff.1 h
  have hk' : k < s.data.size := by simpa using hk
  have e' : s.data[k] = b := by simpa using e
  unfold bytesRow
  rw [Array.getElem?_append_left (by simpa using hk')]
  rw [Array.getElem?_map, Array.getElem?_eq_getElem hk', e']
  rfl
theorem bytesRow_size (s : ByteArray) (c : Nat) : s.size ≤ (bytesRow s c).size := by
  unfold bytesRow
  simp
theorem GR.start (w : World) (s : ByteArray) (c : Nat) (t : TypeId) : GR w (w.drew.alloc (.cells (bytesRow s c) t ((bytesRow s c).size, (bytesRow s c).size + 1))) s.data.toList 0 := by
  have hrow : (w.drew.alloc (.cells (bytesRow s c) t ((bytesRow s c).size, (bytesRow s c).size + 1))).heap[w.heap.size]? = some (.cells (bytesRow s c) t ((bytesRow s c).size, (bytesRow s c).size + 1)) := heap_alloc_new w.drew _
  refine ⟨((Below.refl w.heap.size w).drew).alloc (Nat.le_refl _) _, fun k b hb => ?_, fun k hk => ?_⟩
  · rw [if_neg (by omega), ← bytesRow_at s c k b hb]
    exact cell_of_row _ _ _ _ _ _ hrow
  · have := bytesRow_size s c
    have hk2 : k < s.size := by rw [Lib.size_eq]; exact hk
    simp only [World.frozen?, hrow]
    simp
    omega
theorem GR.set {w W : World} {l : List UInt8} {j : Nat} {b : UInt8} (h : GR w W l j) (hb : l[j]? = some b) : GR w (W.setCell ⟨w.heap.size, j, none⟩ (.int .u8 (((Lx.up b).toNat : Nat) : Int))) l (j + 1) := by
  refine ⟨h.below.setCell (Nat.le_refl _) _, fun k c hc => ?_, fun k hk => (World.frozen?_setCell _ _ _ _).trans (h.free k hk)⟩
  by_cases e : k = j
  · subst e
    rw [hb] at hc; cases hc
    rw [if_pos (by omega)]
    exact World.cell?_setCell_same _ _ _ (h.cell k b hb)
  · rw [World.cell?_setCell_other _ _ _ _ (by intro q; cases q; exact e rfl), h.cell k c hc]
    by_cases h1 : k < j
    · rw [if_pos h1, if_pos (by omega)]
    · rw [if_neg h1, if_neg (by omega)]
theorem GR.skip {w W : World} {l : List UInt8} {j : Nat} {b : UInt8} (h : GR w W l j) (hb : l[j]? = some b) (hu : Lx.up b = b) : GR w W l (j + 1) := by
  refine ⟨h.below, fun k c hc => ?_, h.free⟩
  rw [h.cell k c hc]
  by_cases e : k = j
  · subst e
    rw [hb] at hc; cases hc
    rw [if_neg (by omega), if_pos (by omega), hu]
  · by_cases h1 : k < j
    · rw [if_pos h1, if_pos (by omega)]
    · rw [if_neg h1, if_neg (by omega)]
set_option maxHeartbeats 4000000 in
theorem great_c (s : ByteArray) (hs : s.size ≤ 16384) (w : World) : Calls Tryz.prog 21 #[.string s] w fun e w' => e = .returned (.string ⟨(Lx.great s.data.toList).toArray⟩) ∧ Below w.heap.size w w' := by
  obtain ⟨c, hc⟩ : ∃ c, c = grownCap w s.size 0 5 := ⟨_, rfl⟩
  obtain ⟨w1, hw1⟩ : ∃ w1, w1 = w.drew.alloc (.cells (bytesRow s c) 5 ((bytesRow s c).size, (bytesRow s c).size + 1)) := ⟨_, rfl⟩
  have hcv : (convert 9 56 (.string s)).run Tryz.prog w = .ok (.slice (some ⟨w.heap.size, 0, none⟩) s.size c) w1 := by
    have h := run_bytes_of_string (P := Tryz.prog) w 9 56 5 s Tryz.underlying9 Tryz.underlying56 Tryz.underlying5
    rw [← hc, ← hw1] at h
    exact h
  have G1 : Hid (GR w w1 s.data.toList 0) := by rw [hw1]; exact GR.start w s c 5
  clear hw1 hc
  go_enter Tryz.func21, Tryz.ntmps21
  go_wp2
  go_loopw [10] (fun i wr => ∃ j : Nat, j ≤ s.size ∧ i = .int .i64 (j : Int) ∧ GR w wr s.data.toList j) (fun i _ => s.size - (intOf i).toNat)
  case atStart => exact ⟨0, Nat.zero_le _, rfl, G1.out⟩
  case round =>
    obtain ⟨j, hj, rfl, hg⟩ := hrel
    have G : Hid (GR w wr s.data.toList j) := hg
    clear hg G1 hcv
    by_cases hlt : j < s.size
    · have q0 : (j : Int) < (s.size : Int) := by omega
      have hw1 : wrap64 ((j : Int) + 1) = (j : Int) + 1 := by unfold wrap64; omega
      have hjl : j < s.data.toList.length := by rw [← Lib.size_eq]; exact hlt
      obtain ⟨b, hb⟩ : ∃ b, s.data.toList[j]? = some b := ⟨_, List.getElem?_eq_getElem hjl⟩
      have HB : Hid (s.data.toList[j]? = some b) := hb
      have p0 := G.out.cell j b hb
      rw [if_neg (Nat.lt_irrefl j)] at p0
      have fz := G.out.free j hjl
      have hbl : b.toNat < 256 := UInt8.toNat_lt _
      clear hb hjl
      by_cases h1 : 97 ≤ b.toNat ∧ b.toNat ≤ 122
      · have q1 : (97 : Int) ≤ (b.toNat : Int) := by omega
        have q2 : (b.toNat : Int) ≤ 122 := by omega
        have HU : Hid ((Lx.up b).toNat = b.toNat - 32) := by
          show _ = _
          rw [Lx.up, if_pos h1, UInt8.toNat_ofNat_of_lt']
          show b.toNat - 32 < 256
          omega
        obtain ⟨u, hu⟩ : ∃ u, u = (Lx.up b).toNat := ⟨_, rfl⟩
        have e1 : IntKind.u8.wrap ((b.toNat : Int) - 97) = (b.toNat : Int) - 97 := by show ((b.toNat : Int) - 97) % 256 = _; omega
        have e2 : IntKind.u8.wrap ((b.toNat : Int) - 97 + 65) = (u : Int) := by
          have := HU.out
          show ((b.toNat : Int) - 97 + 65) % 256 = _
          omega
        have G2 : Hid (GR w (wr.setCell ⟨w.heap.size, j, none⟩ (.int .u8 (u : Int))) s.data.toList (j + 1)) := by rw [hu]; exact G.out.set HB.out
        clear hu h1
        go_wp2
        go_roundw
        case rel => exact ⟨j + 1, by omega, by go_num, G2.out⟩
        case measure => simp [intOf]; omega
      · have HU : Hid (Lx.up b = b) := by show _ = _; rw [Lx.up, if_neg h1]
        have G2 : Hid (GR w wr s.data.toList (j + 1)) := G.out.skip HB.out HU.out
        by_cases h2 : 97 ≤ b.toNat
        · have q1 : (97 : Int) ≤ (b.toNat : Int) := by omega
          have q2 : ¬ (b.toNat : Int) ≤ 122 := by omega
          clear h1 h2
          go_wp2
          go_roundw
          case rel => exact ⟨j + 1, by omega, by go_num, G2.out⟩
          case measure => simp [intOf]; omega
        · have q1 : ¬ (97 : Int) ≤ (b.toNat : Int) := by omega
          clear h1 h2
          go_wp2
          go_roundw
          case rel => exact ⟨j + 1, by omega, by go_num, G2.out⟩
          case measure => simp [intOf]; omega
    · have q0 : ¬ (j : Int) < (s.size : Int) := by omega
      have hcb : (convert 56 9 (.slice (some ⟨w.heap.size, 0, none⟩) s.size c)).run Tryz.prog wr = .ok (.string ⟨(Lx.great s.data.toList).toArray⟩) wr := by
        have hl : (Lx.great s.data.toList).length = s.size := by rw [Lx.great, List.length_map, ← Lib.size_eq]
        have h := run_convert_bytes_back (P := Tryz.prog) wr 56 9 5 ⟨w.heap.size, 0, none⟩ c (Lx.great s.data.toList) Tryz.underlying56 Tryz.underlying5 Tryz.underlying9 (fun k hk => by
          have hk2 : k < s.data.toList.length := by simpa [Lx.great] using hk
          have h1 := G.out.cell k _ (List.getElem?_eq_getElem hk2)
          rw [← Lib.size_eq] at hk2
          rw [if_pos (by omega)] at h1
          rw [Go.WideShapes.add_plain, Nat.zero_add, h1]
          simp [Lx.great])
        rw [hl] at h
        exact h
      have HF := G.out.below
      go_wp2
      go_ret
      exact ⟨rfl, HF⟩
end Go.Proofs.YtdejnphiejkglaaGreatDoor
