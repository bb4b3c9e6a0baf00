/- The document's next token, walked: a text; a sign; all of it. -/
import Derived.Test.YtdejnphiejkglaaGreatDoorLxRg
namespace Go.Proofs.YtdejnphiejkglaaGreatDoor
open Go.RowKit
def Lx.textOf : Option (Lx.Bs × Nat) → Lx.R
  | some (t, n) => Lx.tok t (n + 1)
  | none => Lx.no 13
set_option maxHeartbeats 8000000 in
set_option maxRecDepth 100000 in
theorem rnextT_c (x : UInt8) (r : Lx.Bs) (hx : x = 39) (hl : (x :: r).length ≤ 16384) (w : World) : Calls Tryz.prog 16 #[.string (Lx.bs (x :: r))] w (Lx.NextGave (Lx.text (x :: r)) w) := by
  obtain ⟨w1, hw1⟩ : ∃ w1, w1 = w.alloc (.cells #[.int .u8 0, .string ⟨#[]⟩, .int .i64 0, .int .i64 0] 24) := ⟨_, rfl⟩
  have X1 : Hid (T4 w w1) := by rw [hw1]; exact T4.start w
  obtain ⟨l, hxl⟩ : ∃ l, l = x :: r := ⟨_, rfl⟩
  obtain ⟨s, hs⟩ : ∃ s, s = Lx.bs l := ⟨_, rfl⟩
  have hx0 : ∀ wx, (Instr.index 9 (.string s) (.int .i64 0)).run Tryz.prog wx = .ok (.int .u8 39) wx := fun wx => by rw [hs]; exact Lx.index_at l 0 0 39 rfl (by rw [hxl, hx]; rfl) wx
  have C0 : Hid (∀ W : World, Calls Tryz.prog 35 #[.int .u8 39] W fun e w' => e = .returned (.bool false) ∧ w' = W) := fun W => rletter_c 39 W
  have C00 : Hid (∀ W : World, Calls Tryz.prog 36 #[.int .u8 39] W fun e w' => e = .returned (.bool false) ∧ w' = W) := fun W => rdigit_c 39 W
  obtain ⟨q, hq⟩ : ∃ q, q = Lx.quo r := ⟨_, rfl⟩
  have CT : Hid (∀ W : World, Calls Tryz.prog 39 #[.string s] W fun e w' => e = Lx.textGave q ∧ Below W.heap.size W w') := fun W => by rw [hs, hxl, hq]; exact rtext_c x r hl W
  have HF : Hid (Lx.text l = Lx.textOf q) := by
    show _ = _
    rw [hxl, hq, Lx.text]
    show (match Lx.quo r with | some (t, n) => Lx.tok t (n + 1) | none => Lx.no 13) = _
    cases Lx.quo r <;> rfl
  have CU : Hid (∀ (t : Lx.Bs) (W : World), t.length ≤ 1024 → Calls Tryz.prog 40 #[.string (Lx.bs t)] W fun e w' => e = .returned (.bool (Lib.validD t)) ∧ Below W.heap.size W w') := fun t W ht => by
    have h := rutf_c (Lx.bs t) W (by rw [Lx.bs_size]; exact ht)
    rw [Lx.bs_data] at h
    exact h
  rw [← hxl] at hl ⊢
  rw [← hs]
  clear hs hxl hx hq
  go_enter Tryz.func16, Tryz.ntmps16
  go_upto_region 1 with fail
  rw [← hw1]
  clear hw1
  go_wp2_with fail
  refine Calls.mono (C0.out _) ?_
  rintro e w' ⟨rfl, hw'⟩
  subst hw'
  go_wp2_with fail
  refine Calls.mono (C00.out _) ?_
  rintro e w' ⟨rfl, hw'⟩
  subst hw'
  clear C0 C00
  go_wp2_with fail
  refine Calls.mono (CT.out _) ?_
  rintro e w2 ⟨rfl, hb2⟩
  have X2 : Hid (T4 w w2) := X1.out.call hb2
  clear hb2 CT X1 hx0
  obtain ⟨p0, p1, p2, p3, fz⟩ := X2.out.cells
  cases q with
  | none =>
    simp only [Lx.textGave]
    have HE : Hid (Lx.text l = Lx.no 13) := HF.out
    go_wp2
    rw [HE.out]
    exact tok_endX (F := Lx.no 13) (k := 0) (t := []) (n := 0) (sz := 0) rfl X2.out (fun h => by cases h) rfl rfl rfl
  | some tm =>
    obtain ⟨t, m⟩ := tm
    simp only [Lx.textGave]
    have HE : Hid (Lx.text l = Lx.tok t (m + 1)) := HF.out
    obtain ⟨z, hz⟩ : ∃ z : Nat, z = m + 1 := ⟨_, rfl⟩
    rw [← hz] at HE
    rw [← hz]
    have q0 : ((z : Int) == 0) = false := by rw [beq_eq_false_iff_ne]; omega
    obtain ⟨tb, htb⟩ : ∃ tb, tb = Lx.bs t := ⟨_, rfl⟩
    have hts : (tb.size : Int) = (t.length : Int) := by rw [htb, Lx.bs_size]
    have HTB : Hid (tb = Lx.bs t) := htb
    rw [← htb]
    clear hz HF
    by_cases hbig : 1024 < t.length
    · have q1 : (1024 : Int) < (tb.size : Int) := by omega
      have HR : Hid (Lx.text l = Lx.no 4) := by show _ = _; rw [HE.out, Lx.tok, if_pos hbig]
      clear htb
      go_wp2
      rw [HR.out]
      exact tok_endX (F := Lx.no 4) (k := 0) (t := []) (n := 0) (sz := 0) rfl X2.out (fun h => by cases h) rfl rfl rfl
    · have q1 : ¬ (1024 : Int) < (tb.size : Int) := by omega
      obtain ⟨u, hu⟩ : ∃ u, u = Lib.validD t := ⟨_, rfl⟩
      have C3 : Hid (∀ W : World, Calls Tryz.prog 40 #[.string tb] W fun e w' => e = .returned (.bool u) ∧ Below W.heap.size W w') := fun W => by rw [htb, hu]; exact CU.out t W (by omega)
      have HU : Hid (u = Lib.validD t) := hu
      clear htb hu CU p0 p1 p2 p3 fz
      go_wp2_with fail
      refine Calls.mono (C3.out _) ?_
      rintro e w3 ⟨rfl, hb3⟩
      have X3 : Hid (T4 w w3) := X2.out.call hb3
      clear hb3 C3 X2
      obtain ⟨p0, p1, p2, p3, fz⟩ := X3.out.cells
      cases u with
      | false =>
        have HR : Hid (Lx.text l = Lx.no 9) := by show _ = _; rw [HE.out, Lx.tok, if_neg hbig, if_pos HU.out.symm]
        go_wp2
        rw [HR.out]
        exact tok_endX (F := Lx.no 9) (k := 0) (t := []) (n := 0) (sz := 0) rfl X3.out (fun h => by cases h) rfl rfl rfl
      | true =>
        have HR : Hid (Lx.text l = ⟨0, 4, t, 0, z⟩) := by show _ = _; rw [HE.out, Lx.tok, if_neg hbig, if_neg (by rw [← HU.out]; decide)]
        go_wp2
        rw [HR.out, HTB.out]
        exact tok_endX (F := ⟨0, 4, t, 0, z⟩) (k := 4) (t := t) (n := 0) (sz := z) rfl X3.out (fun _ => ⟨rfl, rfl, rfl, rfl⟩) rfl rfl rfl
set_option maxHeartbeats 8000000 in
set_option maxRecDepth 100000 in
theorem rnextS_c (x : UInt8) (r : Lx.Bs) (hx1 : Lx.isL x.toNat = false) (hx2 : Lx.isD x.toNat = false) (hx3 : x ≠ 39) (w : World) : Calls Tryz.prog 16 #[.string (Lx.bs (x :: r))] w (Lx.NextGave (if 0 < Lx.sgn (x :: r) then Lx.sign (x :: r) else Lx.no 13) w) := by
  obtain ⟨w1, hw1⟩ : ∃ w1, w1 = w.alloc (.cells #[.int .u8 0, .string ⟨#[]⟩, .int .i64 0, .int .i64 0] 24) := ⟨_, rfl⟩
  have X1 : Hid (T4 w w1) := by rw [hw1]; exact T4.start w
  obtain ⟨l, hxl⟩ : ∃ l, l = x :: r := ⟨_, rfl⟩
  obtain ⟨s, hs⟩ : ∃ s, s = Lx.bs l := ⟨_, rfl⟩
  have hx0 : ∀ wx, (Instr.index 9 (.string s) (.int .i64 0)).run Tryz.prog wx = .ok (.int .u8 (x.toNat : Int)) wx := fun wx => by rw [hs]; exact Lx.index_at l 0 0 x rfl (by rw [hxl]; rfl) wx
  have C0 : Hid (∀ W : World, Calls Tryz.prog 35 #[.int .u8 (x.toNat : Int)] W fun e w' => e = .returned (.bool false) ∧ w' = W) := fun W => by have h := rletter_c x.toNat W; rw [hx1] at h; exact h
  have C00 : Hid (∀ W : World, Calls Tryz.prog 36 #[.int .u8 (x.toNat : Int)] W fun e w' => e = .returned (.bool false) ∧ w' = W) := fun W => by have h := rdigit_c x.toNat W; rw [hx2] at h; exact h
  obtain ⟨t, ht⟩ : ∃ t, t = l.take (Lx.sgn l) := ⟨_, rfl⟩
  have CS : Hid (∀ W : World, Calls Tryz.prog 41 #[.string s] W fun e w' => e = .returned (.string (Lx.bs t)) ∧ Below W.heap.size W w') := fun W => by rw [ht, hs, hxl]; exact rsign_c x r W
  have HT : Hid (t.length = Lx.sgn l ∧ t = l.take (Lx.sgn l)) := by
    refine ⟨?_, ht⟩
    rw [ht, List.length_take]
    have : Lx.sgn l ≤ l.length := by
      rw [hxl, Lx.sgn]
      cases r with
      | nil => simp [Lx.pre2]; split <;> omega
      | cons y r => simp; split <;> (try split) <;> omega
    omega
  have q3 : ((x.toNat : Int) == 39) = false := by
    rw [beq_eq_false_iff_ne]
    intro e
    exact hx3 (by rw [← UInt8.toNat_inj]; show x.toNat = 39; omega)
  rw [← hxl, ← hs]
  obtain ⟨F, hF⟩ : ∃ F, F = if 0 < Lx.sgn l then Lx.sign l else Lx.no 13 := ⟨_, rfl⟩
  have HF : Hid (F = if 0 < Lx.sgn l then Lx.sign l else Lx.no 13) := hF
  rw [← hF]
  clear hs hxl hx1 hx2 hx3 ht hF
  go_enter Tryz.func16, Tryz.ntmps16
  go_upto_region 1 with fail
  rw [← hw1]
  clear hw1
  go_wp2_with fail
  refine Calls.mono (C0.out _) ?_
  rintro e w' ⟨rfl, hw'⟩
  subst hw'
  go_wp2_with fail
  refine Calls.mono (C00.out _) ?_
  rintro e w' ⟨rfl, hw'⟩
  subst hw'
  clear C0 C00
  go_wp2_with fail
  refine Calls.mono (CS.out _) ?_
  rintro e w2 ⟨rfl, hb2⟩
  have X2 : Hid (T4 w w2) := X1.out.call hb2
  clear hb2 CS X1 hx0
  obtain ⟨p0, p1, p2, p3, fz⟩ := X2.out.cells
  obtain ⟨tb, htb⟩ : ∃ tb, tb = Lx.bs t := ⟨_, rfl⟩
  have hts : (tb.size : Int) = (t.length : Int) := by rw [htb, Lx.bs_size]
  have HTB : Hid (tb = Lx.bs t) := htb
  have htl : tb.toList = t := by rw [htb, Lx.bs_toList]
  rw [← htb]
  clear htb
  by_cases h0 : 0 < Lx.sgn l
  · have q4 : (tb.toList == []) = false := by
      rw [htl, beq_eq_false_iff_ne]
      intro e
      have := HT.out.1
      rw [e] at this
      simp at this
      omega
    have HR : Hid (F = ⟨0, 5, t, 0, t.length⟩) := by show _ = _; rw [HF.out, if_pos h0, Lx.sign, ← HT.out.2, HT.out.1]
    clear htl h0
    go_wp2
    rw [HR.out, HTB.out]
    exact tok_endX (F := ⟨0, 5, t, 0, t.length⟩) (k := 5) (t := t) (n := 0) (sz := t.length) rfl X2.out (fun _ => ⟨rfl, rfl, rfl, rfl⟩) rfl rfl rfl
  · have q4 : (tb.toList == []) = true := by
      rw [htl]
      have := HT.out.1
      have e : t = [] := List.eq_nil_of_length_eq_zero (by omega)
      rw [e]; rfl
    have HR : Hid (F = Lx.no 13) := by show _ = _; rw [HF.out, if_neg h0]
    clear htl h0
    go_wp2
    rw [HR.out]
    exact tok_endX (F := Lx.no 13) (k := 0) (t := []) (n := 0) (sz := 0) rfl X2.out (fun h => by cases h) rfl rfl rfl
theorem rnext_c (x : UInt8) (r : Lx.Bs) (hl : (x :: r).length ≤ 16384) (w : World) : Calls Tryz.prog 16 #[.string (Lx.bs (x :: r))] w (Lx.NextGave (Lx.frst (x :: r)) w) := by
  rw [Lx.frst]
  by_cases h1 : Lx.isL x.toNat = true
  · rw [if_pos h1]; exact rnextL_c x r h1 hl w
  · have h1' : Lx.isL x.toNat = false := by simpa using h1
    rw [if_neg h1]
    by_cases h2 : Lx.isD x.toNat = true
    · rw [if_pos h2]; exact rnextD_c x r h1' h2 hl w
    · have h2' : Lx.isD x.toNat = false := by simpa using h2
      rw [if_neg h2]
      by_cases h3 : x = 39
      · rw [if_pos h3]; exact rnextT_c x r h3 hl w
      · rw [if_neg h3]; exact rnextS_c x r h1' h2' h3 w
end Go.Proofs.YtdejnphiejkglaaGreatDoor
