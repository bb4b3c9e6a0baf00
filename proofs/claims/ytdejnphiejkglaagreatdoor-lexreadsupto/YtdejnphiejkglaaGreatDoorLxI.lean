/- A text is read: walked. -/
import Derived.Test.YtdejnphiejkglaaGreatDoorLxH
namespace Go.Proofs.YtdejnphiejkglaaGreatDoor
open Go.RowKit
namespace Lx
/-- so far read: bytes of the text, the place behind them -/
inductive Part (r : Bs) : Bs → Nat → Prop
  | none : Part r [] 0
  | plain {t : Bs} {i : Nat} {b : UInt8} (h : Part r t i) (hb : r[i]? = some b) (hn : b ≠ 39) : Part r (t ++ [b]) (i + 1)
  | twice {t : Bs} {i : Nat} (h : Part r t i) (h1 : r[i]? = some 39) (h2 : r[i + 1]? = some 39) : Part r (t ++ [39]) (i + 2)
theorem drop_at {r : Bs} {i : Nat} {b : UInt8} (h : r[i]? = some b) : r.drop i = b :: r.drop (i + 1) := by
  obtain ⟨hi, e⟩ := List.getElem?_eq_some_iff.1 h
  rw [List.drop_eq_getElem_cons hi, e]
theorem quo_plain {b : UInt8} {r : Bs} (h : b ≠ 39) : quo (b :: r) = (quo r).map fun x => (b :: x.1, x.2 + 1) := by
  conv => lhs; rw [quo.eq_def]
  split
  · rename_i e; cases e
  · rename_i e; cases e; exact absurd rfl h
  · rename_i e; cases e; exact absurd rfl h
  · rename_i e; cases e; rfl
theorem quo_twice {r : Bs} : quo (39 :: 39 :: r) = (quo r).map fun x => (39 :: x.1, x.2 + 2) := by rw [quo]
theorem quo_end {r : Bs} (h : ∀ b, r[0]? = some b → b ≠ 39) : quo (39 :: r) = some ([], 1) := by
  cases r with
  | nil => rfl
  | cons b r =>
    have := h b rfl
    rw [quo.eq_def]
    split
    · rename_i e; cases e
    · rename_i e; cases e; exact absurd rfl this
    · rfl
    · rename_i e; cases e; exact absurd rfl (by assumption)
/-- what is read is what was read so far, and the rest -/
theorem Part.quo {r t : Bs} {i : Nat} (h : Part r t i) : quo r = (quo (r.drop i)).map fun x => (t ++ x.1, x.2 + i) := by
  induction h with
  | none => simp
  | plain h hb hn ih =>
    rw [ih, drop_at hb, quo_plain hn, Option.map_map]
    congr 1
    funext x
    simp
    omega
  | twice h h1 h2 ih =>
    rw [ih, drop_at h1, drop_at h2, quo_twice, Option.map_map]
    congr 1
    funext x
    simp
    omega
theorem Part.len {r t : Bs} {i : Nat} (h : Part r t i) : t.length ≤ i ∧ i ≤ r.length := by
  induction h with
  | none => simp
  | plain h hb hn ih => have := (List.getElem?_eq_some_iff.1 hb).1; simp; omega
  | twice h h1 h2 ih => have := (List.getElem?_eq_some_iff.1 h2).1; simp; omega
end Lx
/-- the result's block and the builder -/
structure RT (w W : World) (t : Lx.Bs) : Prop where
  t4 : T4 w W
  bld : Lib.IsBuilder 63 5 (w.heap.size + 1) (w.heap.size + 1) (Lib.byteCells t) W
theorem T4.low {w W W' : World} {B : Nat} (h : T4 w W) (hB : w.heap.size < B) (hb : Below B W W') : T4 w W' := ⟨h.1.trans (hb.mono (by omega)), (hb.block _ hB).trans h.2⟩
theorem RT.size {w W : World} {t : Lx.Bs} (h : RT w W t) : w.heap.size + 1 ≤ W.heap.size := (Array.getElem?_eq_some_iff.1 h.t4.2).1
theorem RT.more {w W W' : World} {t : Lx.Bs} {b : UInt8} (h : RT w W t) (h1 : Lib.BuilderAt 63 5 (w.heap.size + 1) (w.heap.size + 1) (.pointer (some ⟨w.heap.size + 1, 0, none⟩)) (Lib.byteCells t ++ [.int .u8 (b.toNat : Int)]) W') (hb : Below (w.heap.size + 1) W W') : RT w W' (t ++ [b]) := by
  refine ⟨h.t4.low (by omega) hb, .inr ?_⟩
  have e : Lib.byteCells (t ++ [b]) = Lib.byteCells t ++ [.int .u8 (b.toNat : Int)] := by simp [Lib.byteCells]
  rw [e]
  exact h1
theorem RT.start (w : World) : RT w ((w.alloc (.cells #[.int .u8 0, .string ⟨#[]⟩, .int .i64 0, .int .i64 0] 24)).alloc (.cells #[.pointer none, .slice none 0 0] 63)) [] := by
  obtain ⟨w1, hw1⟩ : ∃ w1, w1 = w.alloc (.cells #[.int .u8 0, .string ⟨#[]⟩, .int .i64 0, .int .i64 0] 24) := ⟨_, rfl⟩
  have h1 : T4 w w1 := by rw [hw1]; exact T4.start w
  have hs : w1.heap.size = w.heap.size + 1 := by rw [hw1]; simp
  rw [← hw1]
  refine ⟨h1.call ((Below.refl _ _).alloc (Nat.le_refl _) _), .inl ⟨Nat.le_refl _, .slice none 0 0, ?_, World.ownsRow_nil _ _ _ _, by simp [Value.ownBlock]⟩⟩
  rw [← hs]
  exact heap_alloc_new w1 _
set_option maxHeartbeats 4000000 in
set_option maxRecDepth 100000 in
theorem readText_c (r : Lx.Bs) (hl : r.length < 16384) (w : World) (hL : HasL w) : Calls Tryz.prog 30 #[.string (Lx.bs (39 :: r))] w fun e w' => e = Lx.gave (Lx.text (39 :: r)) ∧ Below w.heap.size w w' := by
  obtain ⟨w1, hw1⟩ : ∃ w1, w1 = (w.alloc (.cells #[.int .u8 0, .string ⟨#[]⟩, .int .i64 0, .int .i64 0] 24)).alloc (.cells #[.pointer none, .slice none 0 0] 63) := ⟨_, rfl⟩
  have X1 : Hid (RT w w1 []) := by rw [hw1]; exact RT.start w
  have HL : Hid (∀ W, Below w.heap.size w W → HasL W) := fun W hW => hL.stays hW
  obtain ⟨s, hs⟩ : ∃ s, s = Lx.bs (39 :: r) := ⟨_, rfl⟩
  obtain ⟨n, hn⟩ : ∃ n : Int, n = (r.length : Int) + 1 := ⟨_, rfl⟩
  have hsz : (s.size : Int) = n := by rw [hs, Lx.bs_size, hn]; simp
  have HN : Hid (n = (r.length : Int) + 1) := hn
  have HIX : Hid (∀ (k : Nat) (b : UInt8), r[k]? = some b → ∀ (j : Int), j = (k : Int) + 1 → ∀ wx, (Instr.index 9 (.string s) (.int .i64 j)).run Tryz.prog wx = .ok (.int .u8 ((b.toNat : Nat) : Int)) wx) := fun k b hb j hj wx => by
    rw [hs]
    exact Lx.index_at (39 :: r) j (k + 1) b (by omega) (by simpa using hb) wx
  have CW : Hid (∀ (t : Lx.Bs) (b : UInt8) (W : World), t.length ≤ 16384 → RT w W t → Calls Tryz.prog 49 #[.pointer (some ⟨w.heap.size + 1, 0, none⟩), .int .u8 ((b.toNat : Nat) : Int)] W fun e w' => e = .returned .nilIface ∧ RT w w' (t ++ [b])) := fun t b W ht hW => by
    refine (writeByte_c _ _ _ _ W hW.bld (by simp [Lib.byteCells]; omega) hW.size).mono ?_
    rintro e w' ⟨rfl, h1, h2⟩
    exact ⟨rfl, hW.more h1 h2⟩
  have CS : Hid (∀ (t : Lx.Bs) (W : World), RT w W t → Calls Tryz.prog 48 #[.pointer (some ⟨w.heap.size + 1, 0, none⟩)] W fun e w' => e = .returned (.string (Lx.bs t)) ∧ T4 w w') := fun t W hW => by
    refine (Tryz.Builder_String_any (w.heap.size + 1) (w.heap.size + 1) t W hW.bld hW.size).mono ?_
    rintro e w' ⟨rfl, h2⟩
    exact ⟨rfl, hW.t4.low (by omega) h2⟩
  have CT : Hid (∀ (t : Lx.Bs) (n : Nat) (W : World), t.length ≤ 16384 → T4 w W → Calls Tryz.prog 47 #[.string (Lx.bs t), .int .i64 (n : Int)] W fun e w' => e = Lx.gave (Lx.tok t n) ∧ T4 w w') := fun t n W ht hW => by
    refine (textToken_c t n ht W (HL.out W hW.1)).mono ?_
    rintro e w' ⟨rfl, h2⟩
    exact ⟨rfl, hW.call h2⟩
  rw [← hs]
  clear hs hL hn
  go_enter Tryz.func30, Tryz.ntmps30
  go_upto_region 2 with fail
  rw [← hw1]
  clear hw1
  go_wp2
  go_loopw [6] (fun i wr => ∃ (t : Lx.Bs) (k : Nat) (i1 : Int), Lx.Part r t k ∧ i = .int .i64 i1 ∧ i1 = (k : Int) + 1 ∧ RT w wr t) (fun i _ => r.length + 1 - (intOf i).toNat)
  case atStart => exact ⟨[], 0, 1, .none, rfl, rfl, X1.out⟩
  case round =>
    obtain ⟨t, k, i1, hp, rfl, hi1, hS⟩ := hrel
    have HI1 : Hid (i1 = (k : Int) + 1) := hi1
    have S : Hid (RT w wr t) := hS
    have HP : Hid (Lx.Part r t k) := hp
    have hlen := hp.len
    clear hS hp X1 hi1
    have HTX : Hid ((r[k]? = some 39 ∧ ∀ b, r[k + 1]? = some b → b ≠ 39) → Lx.text (39 :: r) = Lx.tok t (k + 2)) := fun h => by
      have e : Lx.quo r = some (t, 1 + k) := by
        rw [HP.out.quo, Lx.drop_at h.1, Lx.quo_end (fun b hb => h.2 b (by simpa using hb))]
        simp
      show (match Lx.quo r with
        | some (t, n) => Lx.tok t (n + 1)
        | none => Lx.no 13) = _
      rw [e]
      show Lx.tok t (1 + k + 1) = _
      rw [show 1 + k + 1 = k + 2 by omega]
    by_cases hlt : k < r.length
    · have q0 : i1 < n := by rw [HI1.out, HN.out]; omega
      obtain ⟨i2, hi2⟩ : ∃ i2 : Int, i2 = (k : Int) + 2 := ⟨_, rfl⟩
      have HI2 : Hid (i2 = (k : Int) + 2) := hi2
      clear hi2
      obtain ⟨b, hb⟩ : ∃ b, r[k]? = some b := ⟨_, List.getElem?_eq_getElem hlt⟩
      have hix := HIX.out k b hb i1 HI1.out
      have HB : Hid (r[k]? = some b) := hb
      clear hb
      have hw1 : wrap64 (i1 + 1) = i2 := by rw [HI1.out, HI2.out]; unfold wrap64; omega
      by_cases hq : b = 39
      · subst hq
        have e39 : ((39 : UInt8).toNat : Int) = 39 := rfl
        rw [e39] at hix
        clear e39
        by_cases hend : k + 1 = r.length
        · have q1 : (i2 == n) = true := by rw [beq_iff_eq, HI2.out, HN.out]; omega
          have HE : Hid (r[k]? = some 39 ∧ ∀ b, r[k + 1]? = some b → b ≠ 39) := ⟨HB.out, fun b hb => by have := (List.getElem?_eq_some_iff.1 hb).1; omega⟩
          clear hend
          obtain ⟨R, hR⟩ : ∃ R, R = Lx.tok t (k + 2) := ⟨_, rfl⟩
          have HR : Hid (Lx.text (39 :: r) = R) := by
            show _ = _
            rw [hR]
            exact HTX.out HE.out
          have CTT : Hid (∀ W, T4 w W → Calls Tryz.prog 47 #[.string (Lx.bs t), .int .i64 i2] W fun e w' => e = Lx.gave R ∧ T4 w w') := fun W hW => by
            have h := CT.out t (k + 2) W (by omega) hW
            rw [show ((k + 2 : Nat) : Int) = i2 by rw [HI2.out]; omega, ← hR] at h
            exact h
          clear hR
          obtain ⟨er, kd, tx, nn, sz⟩ := R
          go_wp2_with fail
          refine (CS.out t _ S.out).mono ?_
          rintro e w2 ⟨rfl, h2⟩
          have X2 : Hid (T4 w w2) := h2
          clear h2
          go_wp2_with fail
          refine (CTT.out _ X2.out).mono ?_
          rintro e w3 ⟨rfl, h3⟩
          have X3 : Hid (T4 w w3) := h3
          clear h3 X2
          obtain ⟨p0, p1, p2, p3, fz⟩ := X3.out.cells
          simp only [Lx.gave, Lx.tc]
          go_wp2
          rw [HR.out]
          exact tok_end (r := ⟨er, kd, tx, nn, sz⟩) rfl X3.out rfl rfl rfl
        · have q1 : (i2 == n) = false := by rw [beq_eq_false_iff_ne, HI2.out, HN.out]; omega
          obtain ⟨b2, hb2⟩ : ∃ b, r[k + 1]? = some b := ⟨_, List.getElem?_eq_getElem (by omega)⟩
          have hix2 := HIX.out (k + 1) b2 hb2 i2 (by rw [HI2.out]; omega)
          have HB2 : Hid (r[k + 1]? = some b2) := hb2
          clear hb2
          by_cases hq2 : b2 = 39
          · subst hq2
            have e39 : ((39 : UInt8).toNat : Int) = 39 := rfl
            have hw2 : wrap64 (i2 + 1) = (k : Int) + 3 := by rw [HI2.out]; unfold wrap64; omega
            have CWW := CW.out t 39 wr (by omega) S.out
            rw [e39] at CWW hix2
            have CW2 : Hid _ := CWW
            clear e39 CWW
            have q2 : ((39 : Int) != 39) = false := rfl
            go_wp2_with fail
            refine Calls.mono CW2.out ?_
            rintro e w2 ⟨rfl, h2⟩
            have S2 : Hid (RT w w2 (t ++ [39])) := h2
            clear h2
            go_wp2
            rw [hw2]
            refine ⟨⟨t ++ [39], k + 2, (k : Int) + 3, .twice HP.out HB.out HB2.out, rfl, by omega, S2.out⟩, ?_⟩
            show r.length + 1 - ((k : Int) + 3).toNat < r.length + 1 - i1.toNat
            rw [HI1.out]
            omega
          · have hne : (b2.toNat : Int) ≠ 39 := fun e => hq2 (by apply UInt8.toNat_inj.1; show b2.toNat = 39; omega)
            have q2 : ((b2.toNat : Int) == 39) = false := by rw [beq_eq_false_iff_ne]; exact hne
            have q3 : ((b2.toNat : Int) != 39) = true := by rw [bne, q2]; rfl
            have HE : Hid (r[k]? = some 39 ∧ ∀ b, r[k + 1]? = some b → b ≠ 39) := ⟨HB.out, fun b hb => by rw [HB2.out] at hb; cases hb; exact hq2⟩
            obtain ⟨R, hR⟩ : ∃ R, R = Lx.tok t (k + 2) := ⟨_, rfl⟩
            have HR : Hid (Lx.text (39 :: r) = R) := by
              show _ = _
              rw [hR]
              exact HTX.out HE.out
            have CTT : Hid (∀ W, T4 w W → Calls Tryz.prog 47 #[.string (Lx.bs t), .int .i64 i2] W fun e w' => e = Lx.gave R ∧ T4 w w') := fun W hW => by
              have h := CT.out t (k + 2) W (by omega) hW
              rw [show ((k + 2 : Nat) : Int) = i2 by rw [HI2.out]; omega, ← hR] at h
              exact h
            clear hR
            obtain ⟨er, kd, tx, nn, sz⟩ := R
            go_wp2_with fail
            refine (CS.out t _ S.out).mono ?_
            rintro e w2 ⟨rfl, h2⟩
            have X2 : Hid (T4 w w2) := h2
            clear h2
            go_wp2_with fail
            refine (CTT.out _ X2.out).mono ?_
            rintro e w3 ⟨rfl, h3⟩
            have X3 : Hid (T4 w w3) := h3
            clear h3 X2
            obtain ⟨p0, p1, p2, p3, fz⟩ := X3.out.cells
            simp only [Lx.gave, Lx.tc]
            go_wp2
            rw [HR.out]
            exact tok_end (r := ⟨er, kd, tx, nn, sz⟩) rfl X3.out rfl rfl rfl
      · have hne : (b.toNat : Int) ≠ 39 := fun e => hq (by apply UInt8.toNat_inj.1; show b.toNat = 39; omega)
        have q2 : ((b.toNat : Int) == 39) = false := by rw [beq_eq_false_iff_ne]; exact hne
        have CW2 : Hid _ := CW.out t b wr (by omega) S.out
        go_wp2_with fail
        refine Calls.mono CW2.out ?_
        rintro e w2 ⟨rfl, h2⟩
        have S2 : Hid (RT w w2 (t ++ [b])) := h2
        clear h2
        go_wp2
        rw [hw1]
        refine ⟨⟨t ++ [b], k + 1, i2, .plain HP.out HB.out hq, rfl, by rw [HI2.out]; omega, S2.out⟩, ?_⟩
        show r.length + 1 - i2.toNat < r.length + 1 - i1.toNat
        rw [HI1.out, HI2.out]
        omega
    · have q0 : ¬ i1 < n := by rw [HI1.out, HN.out]; omega
      have HR : Hid (Lx.text (39 :: r) = Lx.no 13) := by
        have e : Lx.quo r = none := by
          rw [HP.out.quo, List.drop_of_length_le (by omega)]
          rfl
        show (match Lx.quo r with
          | some (t, n) => Lx.tok t (n + 1)
          | none => Lx.no 13) = _
        rw [e]
      obtain ⟨p0, p1, p2, p3, fz⟩ := S.out.t4.cells
      go_wp2
      rw [HR.out]
      exact tok_end (r := Lx.no 13) rfl S.out.t4 rfl rfl rfl
end Go.Proofs.YtdejnphiejkglaaGreatDoor
