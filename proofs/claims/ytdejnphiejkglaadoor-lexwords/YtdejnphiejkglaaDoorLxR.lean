/- LexWords, walked. -/
import Derived.Test.YtdejnphiejkglaaDoorLxQ
namespace Go.Proofs.YtdejnphiejkglaaDoor
open Go.RowKit
namespace Lx
def isA (b : UInt8) : Prop := (97 ≤ b.toNat ∧ b.toNat ≤ 122) ∨ (65 ≤ b.toNat ∧ b.toNat ≤ 90)
theorem up_flip : ∀ b : UInt8, isA b → up (b ^^^ 32) = up b := by
  have h : ∀ n : Fin 256, ((97 ≤ n.val ∧ n.val ≤ 122) ∨ (65 ≤ n.val ∧ n.val ≤ 90)) → up (UInt8.ofNat n.val ^^^ 32) = up (UInt8.ofNat n.val) := by decide +kernel
  intro b hb
  have := h ⟨b.toNat, UInt8.toNat_lt _⟩ hb
  simpa using this
theorem xor32 : ∀ b : UInt8, bits .xor .u8 (b.toNat : Int) 32 = ((b ^^^ 32).toNat : Int) := by
  have h : ∀ n : Fin 256, bits .xor .u8 (n.val : Int) 32 = ((UInt8.ofNat n.val ^^^ 32).toNat : Int) := by decide +kernel
  intro b
  have := h ⟨b.toNat, UInt8.toNat_lt _⟩
  simpa using this
theorem key_great {a b : Bs} (h : great a = great b) (hl : a.length = b.length) : isKey a = isKey b := by rw [isKey, isKey, h, hl]
/-- no keyword has a _ behind it -/
theorem key_snoc (s : Bs) (h : isKey s = true) : isKey (s ++ [95]) = false := by
  rw [isKey, Bool.and_eq_true] at h
  have h2 := h.2
  have e : great (s ++ [95]) = great s ++ [95] := by rw [great, List.map_append]; rfl
  have hk : ∀ k ∈ kws, kws.contains (k ++ [95]) = false := by decide +kernel
  have : kws.contains (great (s ++ [95])) = false := by
    rw [e]
    exact hk _ (List.contains_iff_mem.1 h2)
  rw [isKey, this, Bool.and_false]
end Lx
/-- bytes in a row of their own -/
structure BR (w W : World) (l : List UInt8) : Prop where
  below : Below w.heap.size w W
  lt : w.heap.size < W.heap.size
  cell : ∀ k b, l[k]? = some b → W.cell? ⟨w.heap.size, k, none⟩ = some (.int .u8 ((b.toNat : Nat) : Int))
  free : ∀ k, k < l.length → W.frozen? ⟨w.heap.size, k, none⟩ = false
theorem BR.start (w : World) (s : ByteArray) (c : Nat) (t : TypeId) : BR w (w.drew.alloc (.cells (bytesRow s c) t ((bytesRow s c).size, (bytesRow s c).size + 1))) s.data.toList := by
  have h := GR.start w s c t
  exact ⟨h.below, by simp, fun k b hb => by have := h.cell k b hb; rwa [if_neg (by omega)] at this, h.free⟩
theorem BR.set {w W : World} {l : List UInt8} {j : Nat} {b : UInt8} (h : BR w W l) (hj : j < l.length) : BR w (W.setCell ⟨w.heap.size, j, none⟩ (.int .u8 ((b.toNat : Nat) : Int))) (l.set j b) := by
  refine ⟨h.below.setCell (Nat.le_refl _) _, by have := h.lt; simpa using this, fun k c hc => ?_, fun k hk => (World.frozen?_setCell _ _ _ _).trans (h.free k (by simpa using hk))⟩
  by_cases e : j = k
  · subst e
    rw [List.getElem?_set_self hj] at hc
    cases hc
    exact World.cell?_setCell_same _ _ _ (h.cell j _ (List.getElem?_eq_getElem hj))
  · rw [World.cell?_setCell_other _ _ _ _ (by intro q; cases q; exact e rfl)]
    rw [List.getElem?_set_ne e] at hc
    exact h.cell k c hc
theorem great_set {l l0 : List UInt8} {j : Nat} {b c : UInt8} (h : Lx.great l = Lx.great l0) (hj : l[j]? = some b) (hc : Lx.up c = Lx.up b) : Lx.great (l.set j c) = Lx.great l0 := by
  rw [← h, Lx.great, Lx.great, List.map_set, hc]
  obtain ⟨hl, e⟩ := List.getElem?_eq_some_iff.1 hj
  apply List.ext_getElem?
  intro i
  by_cases hi : j = i
  · subst hi
    rw [List.getElem?_set_self (by simpa using hl), List.getElem?_map, hj]; rfl
  · rw [List.getElem?_set_ne hi]
set_option maxHeartbeats 8000000 in
set_option maxRecDepth 100000 in
theorem words_c (s : ByteArray) (hs : s.size ≤ 140737488351232) (f : Int) (w : World) (hL : HasL w) : Calls Tryd.prog 6 #[.string s, .int .u32 f] w fun e w' => e = .returned (.bool true) ∧ Below w.heap.size w w' := by
  have CL : Hid (Calls Tryd.prog 7 #[] w fun e w' => e = .returned (.bool true) ∧ Below w.heap.size w w') := livesL_c w hL
  obtain ⟨n, hn⟩ : ∃ n, n = s.size := ⟨_, rfl⟩
  have HN : Hid (n = s.data.toList.length) := by show _ = _; rw [hn]; exact Lib.size_eq s
  have hn47 : n ≤ 140737488351232 := by rw [hn]; exact hs
  have hsz : (s.size : Int) = (n : Int) := by rw [hn]
  have HCV : Hid (∀ wx : World, ∃ c w1, (convert 9 37 (.string s)).run Tryd.prog wx = .ok (.slice (some ⟨wx.heap.size, 0, none⟩) n c) w1 ∧ BR wx w1 s.data.toList) := fun wx => by
    refine ⟨grownCap wx s.size 0 5, _, ?_, BR.start wx s (grownCap wx s.size 0 5) 5⟩
    rw [hn]
    exact run_bytes_of_string (P := Tryd.prog) wx 9 37 5 s Tryd.underlying9 Tryd.underlying37 Tryd.underlying5
  clear hn hL hs
  go_enter Tryd.func6, Tryd.ntmps6
  go_wp2_with fail
  refine Calls.mono CL.out ?_
  rintro e w1 ⟨rfl, hb1⟩
  have HB1 : Hid (Below w.heap.size w w1) := hb1
  clear hb1 CL
  obtain ⟨c, w2, hcv, hbr⟩ := HCV.out w1
  have X2 : Hid (BR w1 w2 s.data.toList) := hbr
  clear hbr HCV
  go_wp2
  go_loopw [13] (fun i wr => ∃ (j : Nat) (l : List UInt8), j ≤ n ∧ i = .int .i64 (j : Int) ∧ l.length = n ∧ Lx.great l = Lx.great s.data.toList ∧ BR w1 wr l) (fun i _ => n - (intOf i).toNat)
  case atStart => exact ⟨0, _, Nat.zero_le _, rfl, HN.out.symm, rfl, X2.out⟩
  case round =>
    obtain ⟨j, l, hj, rfl, hl, hgr, hX⟩ := hrel
    have X : Hid (BR w1 wr l) := hX
    have HGR : Hid (Lx.great l = Lx.great s.data.toList) := hgr
    have HLL : Hid (l.length = n) := hl
    clear hX hgr hcv X2
    by_cases hlt : j < n
    · have q0 : (j : Int) < (n : Int) := by omega
      have hw1 : wrap64 ((j : Int) + 1) = (j : Int) + 1 := by unfold wrap64; omega
      obtain ⟨b, hb⟩ : ∃ b, l[j]? = some b := ⟨_, List.getElem?_eq_getElem (by omega)⟩
      have p0 := X.out.cell j b hb
      have fz := X.out.free j (by omega)
      have HB : Hid (l[j]? = some b) := hb
      have hx := Lx.xor32 b
      clear hb hl
      have A1 : Hid ((∃ (j_1 : Nat) (l : List UInt8), j_1 ≤ n ∧ Value.int .i64 ((j : Int) + 1) = Value.int .i64 (j_1 : Int) ∧ l.length = n ∧ Lx.great l = Lx.great s.data.toList ∧ BR w1 wr l) ∧ n - (intOf (Value.int .i64 ((j : Int) + 1))).toNat < n - (intOf (Value.int .i64 (j : Int))).toNat) :=
        ⟨⟨j + 1, l, by omega, rfl, HLL.out, HGR.out, X.out⟩, by show n - ((j : Int) + 1).toNat < n - ((j : Int)).toNat; omega⟩
      have A2 : Hid (Lx.isA b → (∃ (j_1 : Nat) (l : List UInt8), j_1 ≤ n ∧ Value.int .i64 ((j : Int) + 1) = Value.int .i64 (j_1 : Int) ∧ l.length = n ∧ Lx.great l = Lx.great s.data.toList ∧ BR w1 (wr.setCell ⟨w1.heap.size, j, none⟩ (.int .u8 (((b ^^^ 32).toNat : Nat) : Int))) l) ∧ n - (intOf (Value.int .i64 ((j : Int) + 1))).toNat < n - (intOf (Value.int .i64 (j : Int))).toNat) := fun ha =>
        ⟨⟨j + 1, l.set j (b ^^^ 32), by omega, rfl, by rw [List.length_set]; exact HLL.out, great_set HGR.out HB.out (Lx.up_flip b ha), X.out.set (by rw [HLL.out]; exact hlt)⟩, by show n - ((j : Int) + 1).toNat < n - ((j : Int)).toNat; omega⟩
      obtain ⟨z, hz⟩ : ∃ z, z = (b ^^^ 32).toNat := ⟨_, rfl⟩
      rw [← hz] at hx A2
      clear hz
      by_cases h32 : j < 32
      · have q32 : (j : Int) < 32 := by omega
        go_wp2
        all_goals first
          | exact A1.out
          | exact A2.out (by unfold Lx.isA; omega)
      · have q32 : ¬ (j : Int) < 32 := by omega
        go_wp2
        exact A1.out
    · have q0 : ¬ (j : Int) < (n : Int) := by omega
      obtain ⟨S2, hS2⟩ : ∃ S2, S2 = Lx.bs l := ⟨_, rfl⟩
      obtain ⟨k, hk⟩ : ∃ k, k = Lx.isKey s.data.toList := ⟨_, rfl⟩
      have hcb : ∀ p : BelowOf wr.heap.size wr, (convert 37 9 (.slice (some ⟨w1.heap.size, 0, none⟩) n c)).run Tryd.prog p.W = .ok (.string S2) p.W := fun p => by
        have h := run_convert_bytes_back (P := Tryd.prog) p.W 37 9 5 ⟨w1.heap.size, 0, none⟩ c l Tryd.underlying37 Tryd.underlying5 Tryd.underlying9 (fun q hq => by
          rw [Go.WideShapes.add_plain, Nat.zero_add, p.h.cell (p := ⟨w1.heap.size, q, none⟩) X.out.lt]
          exact X.out.cell q _ (List.getElem?_eq_getElem hq))
        rw [HLL.out] at h
        rw [hS2]
        exact h
      have CK1 : Hid (∀ p : BelowOf wr.heap.size wr, Calls Tryd.prog 11 #[.string s] p.W fun e w'' => e = .returned (.bool k) ∧ ∃ q : BelowOf wr.heap.size wr, w'' = q.W) := fun p => by
        rw [hk]; exact below_call p (Nat.le_refl _) (keyword_c s p.W)
      have CK2 : Hid (∀ p : BelowOf wr.heap.size wr, Calls Tryd.prog 11 #[.string S2] p.W fun e w'' => e = .returned (.bool k) ∧ ∃ q : BelowOf wr.heap.size wr, w'' = q.W) := fun p => by
        have h := keyword_c S2 p.W
        rw [hS2, Lx.bs_data, Lx.key_great HGR.out (by rw [HLL.out, HN.out]), ← hk, ← hS2] at h
        exact below_call p (Nat.le_refl _) h
      have CK3 : Hid (k = true → ∀ p : BelowOf wr.heap.size wr, Calls Tryd.prog 11 #[.string (s ++ { data := #[95] })] p.W fun e w'' => e = .returned (.bool false) ∧ ∃ q : BelowOf wr.heap.size wr, w'' = q.W) := fun hkt p => by
        have h := keyword_c (s ++ { data := #[95] }) p.W
        have e : (s ++ { data := #[95] } : ByteArray).data.toList = s.data.toList ++ [95] := by rw [ByteArray.data_append]; simp
        rw [e, Lx.key_snoc _ (by rw [← hk]; exact hkt)] at h
        exact below_call p (Nat.le_refl _) h
      clear hS2 hk
      go_upto_region 10 with fail
      cases k with
      | true =>
        have CK4 := CK3.out rfl
        have CK5 : Hid _ := CK4
        clear CK4
        refine wp_region_below wr.heap.size wr (Below.refl _ _) (by kernel_rfl) (by kernel_rfl) ?_
        repeat (go_big_quiet_step (first | (go_at_call_of 11 (Value.string s); exact CK1.out _) | (go_at_call_of 11 (Value.string S2); exact CK2.out _) | (go_at_call 11; exact CK5.out _)))
        refine wpQuiet_nil ?_
        intro _ hw'
        obtain ⟨pq, hw''⟩ := hw'
        subst hw''
        have HF := HB1.out.trans ((X.out.below.trans (pq.h.mono (Nat.le_of_lt X.out.lt))).mono HB1.out.size)
        go_wp2
        go_ret
        exact ⟨rfl, HF⟩
      | false =>
        refine wp_region_below wr.heap.size wr (Below.refl _ _) (by kernel_rfl) (by kernel_rfl) ?_
        repeat (go_big_quiet_step (first | (go_at_call_of 11 (Value.string s); exact CK1.out _) | (go_at_call_of 11 (Value.string S2); exact CK2.out _)))
        refine wpQuiet_nil ?_
        intro _ hw'
        obtain ⟨pq, hw''⟩ := hw'
        subst hw''
        have HF := HB1.out.trans ((X.out.below.trans (pq.h.mono (Nat.le_of_lt X.out.lt))).mono HB1.out.size)
        go_wp2
        go_ret
        exact ⟨rfl, HF⟩
end Go.Proofs.YtdejnphiejkglaaDoor
