/- The document's letters, digits, blanks, great letters and keywords, walked. -/
import Derived.Test.YtdejnphiejkglaaGreatDoorLxC
import Derived.Test.YtdejnphiejkglaaGreatDoorLxF
namespace Go.Proofs.YtdejnphiejkglaaGreatDoor
open Go.RowKit
set_option maxHeartbeats 4000000 in
theorem rletter_c (b : Nat) (w : World) : Calls Tryz.prog 35 #[.int .u8 (b : Int)] w fun e w' => e = .returned (.bool (Lx.isL b)) ∧ w' = w := by
  go_enter Tryz.func35, Tryz.ntmps35
  rcases Nat.lt_or_ge b 65 with h | h
  · have e : Lx.isL b = false := by simp [Lx.isL]; omega
    rw [e]
    have q1 : ¬ (97 : Int) ≤ (b : Int) := by omega
    have q2 : ¬ (65 : Int) ≤ (b : Int) := by omega
    have q3 : ((b : Int) == 95) = false := by rw [beq_eq_false_iff_ne]; omega
    go_wp2
    go_ret
    exact ⟨rfl, rfl⟩
  · have q2 : (65 : Int) ≤ (b : Int) := by omega
    by_cases h1 : 97 ≤ b
    · have q1 : (97 : Int) ≤ (b : Int) := by omega
      by_cases h3 : b ≤ 122
      · have q3 : (b : Int) ≤ 122 := by omega
        have e : Lx.isL b = true := by simp [Lx.isL]; omega
        rw [e]
        go_wp2
        go_ret
        exact ⟨rfl, rfl⟩
      · have q3 : ¬ (b : Int) ≤ 122 := by omega
        have q4 : ¬ (b : Int) ≤ 90 := by omega
        have q5 : ((b : Int) == 95) = false := by rw [beq_eq_false_iff_ne]; omega
        have e : Lx.isL b = false := by simp [Lx.isL]; omega
        rw [e]
        go_wp2
        go_ret
        exact ⟨rfl, rfl⟩
    · have q1 : ¬ (97 : Int) ≤ (b : Int) := by omega
      by_cases h3 : b ≤ 90
      · have q3 : (b : Int) ≤ 90 := by omega
        have e : Lx.isL b = true := by simp [Lx.isL]; omega
        rw [e]
        go_wp2
        go_ret
        exact ⟨rfl, rfl⟩
      · have q3 : ¬ (b : Int) ≤ 90 := by omega
        by_cases h4 : b = 95
        · subst h4
          have e : Lx.isL 95 = true := by decide
          rw [e]
          go_wp2
          go_ret
          exact ⟨rfl, rfl⟩
        · have q4 : ((b : Int) == 95) = false := by rw [beq_eq_false_iff_ne]; omega
          have e : Lx.isL b = false := by simp [Lx.isL]; omega
          rw [e]
          go_wp2
          go_ret
          exact ⟨rfl, rfl⟩
set_option maxHeartbeats 4000000 in
theorem rdigit_c (b : Nat) (w : World) : Calls Tryz.prog 36 #[.int .u8 (b : Int)] w fun e w' => e = .returned (.bool (Lx.isD b)) ∧ w' = w := by
  go_enter Tryz.func36, Tryz.ntmps36
  by_cases h : 48 ≤ b
  · have q1 : (48 : Int) ≤ (b : Int) := by omega
    by_cases h3 : b ≤ 57
    · have q3 : (b : Int) ≤ 57 := by omega
      have e : Lx.isD b = true := by simp [Lx.isD]; omega
      rw [e]
      go_wp2
      go_ret
      exact ⟨rfl, rfl⟩
    · have q3 : ¬ (b : Int) ≤ 57 := by omega
      have e : Lx.isD b = false := by simp [Lx.isD]; omega
      rw [e]
      go_wp2
      go_ret
      exact ⟨rfl, rfl⟩
  · have q1 : ¬ (48 : Int) ≤ (b : Int) := by omega
    have e : Lx.isD b = false := by simp [Lx.isD]; omega
    rw [e]
    go_wp2
    go_ret
    exact ⟨rfl, rfl⟩
namespace Lx
def isB (b : Nat) : Bool := decide (b = 32) || decide (b = 9) || decide (b = 10) || decide (b = 13)
theorem isKey_of (s : Bs) : isKey s = kws.contains (great s) := by
  rw [isKey]
  by_cases h : s.length ≤ 7
  · rw [decide_eq_true h, Bool.true_and]
  · rw [decide_eq_false h, Bool.false_and]
    symm
    rw [Bool.eq_false_iff]
    intro h2
    have h3 : great s ∈ kws := by simpa using h2
    have h4 : ∀ k ∈ kws, k.length ≤ 7 := by decide
    have h5 := h4 _ h3
    rw [great, List.length_map] at h5
    exact h h5
end Lx
set_option maxHeartbeats 4000000 in
theorem rblank_c (b : Nat) (w : World) : Calls Tryz.prog 15 #[.int .u8 (b : Int)] w fun e w' => e = .returned (.bool (Lx.isB b)) ∧ w' = w := by
  go_enter Tryz.func15, Tryz.ntmps15
  by_cases h1 : b = 32
  · subst h1
    go_wp2
    go_ret
    exact ⟨rfl, rfl⟩
  · have q1 : ((b : Int) == 32) = false := by rw [beq_eq_false_iff_ne]; omega
    by_cases h2 : b = 9
    · subst h2
      go_wp2
      go_ret
      exact ⟨rfl, rfl⟩
    · have q2 : ((b : Int) == 9) = false := by rw [beq_eq_false_iff_ne]; omega
      by_cases h3 : b = 10
      · subst h3
        go_wp2
        go_ret
        exact ⟨rfl, rfl⟩
      · have q3 : ((b : Int) == 10) = false := by rw [beq_eq_false_iff_ne]; omega
        by_cases h4 : b = 13
        · subst h4
          go_wp2
          go_ret
          exact ⟨rfl, rfl⟩
        · have q4 : ((b : Int) == 13) = false := by rw [beq_eq_false_iff_ne]; omega
          have e : Lx.isB b = false := by simp [Lx.isB]; omega
          rw [e]
          go_wp2
          go_ret
          exact ⟨rfl, rfl⟩
set_option maxHeartbeats 4000000 in
theorem rgreat_c (s : ByteArray) (hs : s.size ≤ 140737488351232) (w : World) : Calls Tryz.prog 22 #[.string s] w fun e w' => e = .returned (.string ⟨(Lx.great s.data.toList).toArray⟩) ∧ Below w.heap.size w w' := by
  obtain ⟨c, hc⟩ : ∃ c, c = grownCap w s.size 0 5 := ⟨_, rfl⟩
  obtain ⟨w1, hw1⟩ : ∃ w1, w1 = w.drew.alloc (.cells (bytesRow s c) 5 ((bytesRow s c).size, (bytesRow s c).size + 1)) := ⟨_, rfl⟩
  have hcv : (convert 9 56 (.string s)).run Tryz.prog w = .ok (.slice (some ⟨w.heap.size, 0, none⟩) s.size c) w1 := by
    have h := run_bytes_of_string (P := Tryz.prog) w 9 56 5 s Tryz.underlying9 Tryz.underlying56 Tryz.underlying5
    rw [← hc, ← hw1] at h
    exact h
  have G1 : Hid (GR w w1 s.data.toList 0) := by rw [hw1]; exact GR.start w s c 5
  clear hw1 hc
  go_enter Tryz.func22, Tryz.ntmps22
  go_wp2
  go_loopw [9] (fun i wr => ∃ j : Nat, j ≤ s.size ∧ i = .int .i64 (j : Int) ∧ GR w wr s.data.toList j) (fun i _ => s.size - (intOf i).toNat)
  case atStart => exact ⟨0, Nat.zero_le _, rfl, G1.out⟩
  case round =>
    obtain ⟨j, hj, rfl, hg⟩ := hrel
    have G : Hid (GR w wr s.data.toList j) := hg
    clear hg G1 hcv
    by_cases hlt : j < s.size
    · have q0 : (j : Int) < (s.size : Int) := by omega
      have hw1 : wrap64 ((j : Int) + 1) = (j : Int) + 1 := by unfold wrap64; omega
      have hjl : j < s.data.toList.length := by rw [← Lib.size_eq]; exact hlt
      obtain ⟨b, hb⟩ : ∃ b, s.data.toList[j]? = some b := ⟨_, List.getElem?_eq_getElem hjl⟩
      have HB : Hid (s.data.toList[j]? = some b) := hb
      have p0 := G.out.cell j b hb
      rw [if_neg (Nat.lt_irrefl j)] at p0
      have fz := G.out.free j hjl
      have hbl : b.toNat < 256 := UInt8.toNat_lt _
      clear hb hjl
      by_cases h1 : 97 ≤ b.toNat ∧ b.toNat ≤ 122
      · have q1 : (97 : Int) ≤ (b.toNat : Int) := by omega
        have q2 : (b.toNat : Int) ≤ 122 := by omega
        have HU : Hid ((Lx.up b).toNat = b.toNat - 32) := by
          show _ = _
          rw [Lx.up, if_pos h1, UInt8.toNat_ofNat_of_lt']
          show b.toNat - 32 < 256
          omega
        obtain ⟨u, hu⟩ : ∃ u, u = (Lx.up b).toNat := ⟨_, rfl⟩
        have e2 : IntKind.u8.wrap ((b.toNat : Int) - 32) = (u : Int) := by
          have := HU.out
          show ((b.toNat : Int) - 32) % 256 = _
          omega
        have G2 : Hid (GR w (wr.setCell ⟨w.heap.size, j, none⟩ (.int .u8 (u : Int))) s.data.toList (j + 1)) := by rw [hu]; exact G.out.set HB.out
        clear hu h1
        go_wp2
        go_roundw
        case rel => exact ⟨j + 1, by omega, by go_num, G2.out⟩
        case measure => simp [intOf]; omega
      · have HU : Hid (Lx.up b = b) := by show _ = _; rw [Lx.up, if_neg h1]
        have G2 : Hid (GR w wr s.data.toList (j + 1)) := G.out.skip HB.out HU.out
        by_cases h2 : 97 ≤ b.toNat
        · have q1 : (97 : Int) ≤ (b.toNat : Int) := by omega
          have q2 : ¬ (b.toNat : Int) ≤ 122 := by omega
          clear h1 h2
          go_wp2
          go_roundw
          case rel => exact ⟨j + 1, by omega, by go_num, G2.out⟩
          case measure => simp [intOf]; omega
        · have q1 : ¬ (97 : Int) ≤ (b.toNat : Int) := by omega
          clear h1 h2
          go_wp2
          go_roundw
          case rel => exact ⟨j + 1, by omega, by go_num, G2.out⟩
          case measure => simp [intOf]; omega
    · have q0 : ¬ (j : Int) < (s.size : Int) := by omega
      have hcb : (convert 56 9 (.slice (some ⟨w.heap.size, 0, none⟩) s.size c)).run Tryz.prog wr = .ok (.string ⟨(Lx.great s.data.toList).toArray⟩) wr := by
        have hl : (Lx.great s.data.toList).length = s.size := by rw [Lx.great, List.length_map, ← Lib.size_eq]
        have h := run_convert_bytes_back (P := Tryz.prog) wr 56 9 5 ⟨w.heap.size, 0, none⟩ c (Lx.great s.data.toList) Tryz.underlying56 Tryz.underlying5 Tryz.underlying9 (fun k hk => by
          have hk2 : k < s.data.toList.length := by simpa [Lx.great] using hk
          have h1 := G.out.cell k _ (List.getElem?_eq_getElem hk2)
          rw [← Lib.size_eq] at hk2
          rw [if_pos (by omega)] at h1
          rw [Go.WideShapes.add_plain, Nat.zero_add, h1]
          simp [Lx.great])
        rw [hl] at h
        exact h
      have HF := G.out.below
      go_wp2
      go_ret
      exact ⟨rfl, HF⟩
/-- the keywords in a row -/
def KW (w W : World) : Prop := Below w.heap.size w W ∧ ∀ (j : Nat) (k : List UInt8), Lx.kws[j]? = some k → W.cell? ⟨w.heap.size, j, none⟩ = some (.string ⟨k.toArray⟩)
theorem KW.call {w W W' : World} (h : KW w W) (hb : Below W.heap.size W W') : KW w W' := by
  refine ⟨h.1.trans (hb.mono h.1.size), fun j k hk => ?_⟩
  have h1 := h.2 j k hk
  exact (hb.cell (p := ⟨w.heap.size, j, none⟩) (Lx.lt_of_cell h1)).trans h1
theorem KW.start (w : World) (t : TypeId) : KW w (w.alloc (.cells #[.string { data := #[65, 76, 76] }, .string { data := #[65, 78, 68] }, .string { data := #[65, 83] }, .string { data := #[66, 89] }, .string { data := #[67, 82, 69, 65, 84, 69] }, .string { data := #[68, 69, 76, 69, 84, 69] }, .string { data := #[68, 69, 83, 67] }, .string { data := #[70, 65, 76, 83, 69] }, .string { data := #[70, 82, 79, 77] }, .string { data := #[72, 73, 83, 84, 79, 82, 89] }, .string { data := #[73, 78] }, .string { data := #[73, 78, 68, 69, 88] }, .string { data := #[73, 78, 83, 69, 82, 84] }, .string { data := #[73, 78, 84, 79] }, .string { data := #[73, 83] }, .string { data := #[78, 79, 84] }, .string { data := #[78, 85, 76, 76] }, .string { data := #[79, 78] }, .string { data := #[79, 82] }, .string { data := #[79, 82, 68, 69, 82] }, .string { data := #[83, 69, 76, 69, 67, 84] }, .string { data := #[83, 69, 84] }, .string { data := #[84, 65, 66, 76, 69] }, .string { data := #[84, 82, 85, 69] }, .string { data := #[85, 80, 68, 65, 84, 69] }, .string { data := #[87, 72, 69, 82, 69] }] t)) := by
  refine ⟨(Below.refl _ _).alloc (Nat.le_refl _) _, fun j k hk => ?_⟩
  rw [cell_of_row _ _ _ _ _ _ (heap_alloc_new w _)]
  have e : (#[.string { data := #[65, 76, 76] }, .string { data := #[65, 78, 68] }, .string { data := #[65, 83] }, .string { data := #[66, 89] }, .string { data := #[67, 82, 69, 65, 84, 69] }, .string { data := #[68, 69, 76, 69, 84, 69] }, .string { data := #[68, 69, 83, 67] }, .string { data := #[70, 65, 76, 83, 69] }, .string { data := #[70, 82, 79, 77] }, .string { data := #[72, 73, 83, 84, 79, 82, 89] }, .string { data := #[73, 78] }, .string { data := #[73, 78, 68, 69, 88] }, .string { data := #[73, 78, 83, 69, 82, 84] }, .string { data := #[73, 78, 84, 79] }, .string { data := #[73, 83] }, .string { data := #[78, 79, 84] }, .string { data := #[78, 85, 76, 76] }, .string { data := #[79, 78] }, .string { data := #[79, 82] }, .string { data := #[79, 82, 68, 69, 82] }, .string { data := #[83, 69, 76, 69, 67, 84] }, .string { data := #[83, 69, 84] }, .string { data := #[84, 65, 66, 76, 69] }, .string { data := #[84, 82, 85, 69] }, .string { data := #[85, 80, 68, 65, 84, 69] }, .string { data := #[87, 72, 69, 82, 69] }] : Array Value) = (Lx.kws.map fun k => Value.string ⟨k.toArray⟩).toArray := rfl
  rw [e]
  simp [hk]
set_option maxHeartbeats 8000000 in
set_option maxRecDepth 100000 in
theorem rkeyword_c (s : ByteArray) (hs : s.size ≤ 140737488351232) (w : World) : Calls Tryz.prog 11 #[.string s] w fun e w' => e = .returned (.bool (Lx.isKey s.data.toList)) ∧ Below w.heap.size w w' := by
  obtain ⟨G, hG⟩ : ∃ G : ByteArray, G = ⟨(Lx.great s.data.toList).toArray⟩ := ⟨_, rfl⟩
  have CG : Hid (∀ W, Calls Tryz.prog 22 #[.string s] W fun e w' => e = .returned (.string G) ∧ Below W.heap.size W w') := fun W => by rw [hG]; exact rgreat_c s hs W
  have HKEY : Hid (Lx.isKey s.data.toList = Lx.kws.contains G.toList) := by
    show _ = _
    rw [Lx.isKey_of, hG, Go.ByteArray.toList_eq]
  clear hG
  obtain ⟨w1, hw1⟩ : ∃ w1, w1 = w.alloc (.cells #[.string { data := #[65, 76, 76] }, .string { data := #[65, 78, 68] }, .string { data := #[65, 83] }, .string { data := #[66, 89] }, .string { data := #[67, 82, 69, 65, 84, 69] }, .string { data := #[68, 69, 76, 69, 84, 69] }, .string { data := #[68, 69, 83, 67] }, .string { data := #[70, 65, 76, 83, 69] }, .string { data := #[70, 82, 79, 77] }, .string { data := #[72, 73, 83, 84, 79, 82, 89] }, .string { data := #[73, 78] }, .string { data := #[73, 78, 68, 69, 88] }, .string { data := #[73, 78, 83, 69, 82, 84] }, .string { data := #[73, 78, 84, 79] }, .string { data := #[73, 83] }, .string { data := #[78, 79, 84] }, .string { data := #[78, 85, 76, 76] }, .string { data := #[79, 78] }, .string { data := #[79, 82] }, .string { data := #[79, 82, 68, 69, 82] }, .string { data := #[83, 69, 76, 69, 67, 84] }, .string { data := #[83, 69, 84] }, .string { data := #[84, 65, 66, 76, 69] }, .string { data := #[84, 82, 85, 69] }, .string { data := #[85, 80, 68, 65, 84, 69] }, .string { data := #[87, 72, 69, 82, 69] }] 9) := ⟨_, rfl⟩
  have K1 : Hid (KW w w1) := by rw [hw1]; exact KW.start w 9
  clear hs
  go_enter Tryz.func11, Tryz.ntmps11
  go_upto_region 2 with fail
  rw [← hw1]
  clear hw1
  go_loopw [7] (fun i wr => ∃ j : Nat, j ≤ 26 ∧ i = .int .i64 (j : Int) ∧ KW w wr ∧ ∀ x ∈ Lx.kws.take j, x ≠ G.toList) (fun i _ => 26 - (intOf i).toNat)
  case atStart => exact ⟨0, Nat.zero_le _, rfl, K1.out, fun x hx => by simp at hx⟩
  case round =>
    obtain ⟨j, hj, rfl, hK, hno⟩ := hrel
    have K : Hid (KW w wr) := hK
    have HNO : Hid (∀ x ∈ Lx.kws.take j, x ≠ G.toList) := hno
    clear hK hno K1
    by_cases hlt : j < 26
    · have q0 : (j : Int) < 26 := by omega
      obtain ⟨k, hk⟩ : ∃ k, Lx.kws[j]? = some k := ⟨_, List.getElem?_eq_getElem (show j < Lx.kws.length from hlt)⟩
      have p0 := K.out.2 j k hk
      obtain ⟨kb, hkb⟩ : ∃ kb : ByteArray, kb = ⟨k.toArray⟩ := ⟨_, rfl⟩
      rw [← hkb] at p0
      have HKB : Hid (kb.toList = k ∧ Lx.kws[j]? = some k) := ⟨by rw [hkb, Go.ByteArray.toList_eq], hk⟩
      clear hkb hk
      go_wp2_with fail
      refine Calls.mono (CG.out _) ?_
      rintro e w2 ⟨rfl, hb2⟩
      have K2 : Hid (KW w w2) := K.out.call hb2
      clear hb2
      by_cases he : kb.toList = G.toList
      · have q1 : (kb.toList == G.toList) = true := by rw [he]; simp
        have HF : Hid (Lx.isKey s.data.toList = true) := by
          show _ = _
          rw [HKEY.out]
          have := List.mem_of_getElem? HKB.out.2
          rw [← he, HKB.out.1]
          simpa using this
        have HB := K2.out.1
        clear he
        go_wp2
        go_ret
        exact ⟨by rw [HF.out]; rfl, HB⟩
      · have q1 : (kb.toList == G.toList) = false := by simpa using he
        have HN : Hid (∀ x ∈ Lx.kws.take (j + 1), x ≠ G.toList) := fun x hx => by
          rw [List.take_add_one, HKB.out.2] at hx
          rcases List.mem_append.1 hx with h | h
          · exact HNO.out x h
          · simp at h
            subst h
            rw [HKB.out.1] at he
            exact he
        clear he
        go_wp2
        go_roundw
        case rel => exact ⟨j + 1, by omega, by go_num, K2.out, HN.out⟩
        case measure => simp [intOf]; omega
    · have q0 : ¬ (j : Int) < 26 := by omega
      have HF : Hid (Lx.isKey s.data.toList = false) := by
        show _ = _
        rw [HKEY.out, Bool.eq_false_iff]
        intro h
        have h1 : G.toList ∈ Lx.kws := by simpa using h
        refine HNO.out _ ?_ rfl
        rw [List.take_of_length_le (show Lx.kws.length ≤ j by show 26 ≤ j; omega)]
        exact h1
      have HB := K.out.1
      go_wp2
      go_ret
      exact ⟨by rw [HF.out]; rfl, HB⟩
end Go.Proofs.YtdejnphiejkglaaGreatDoor
