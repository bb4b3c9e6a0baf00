/- The document's next token, walked: a number; a text; a sign; all of it. -/
import Derived.Test.YtdejnphiejkglaaGreatDoorLxRf
namespace Go.Proofs.YtdejnphiejkglaaGreatDoor
open Go.RowKit
set_option maxHeartbeats 8000000 in
set_option maxRecDepth 100000 in
theorem rnextD_c (x : UInt8) (r : Lx.Bs) (hxl0 : Lx.isL x.toNat = false) (hx : Lx.isD x.toNat = true) (hl : (x :: r).length ≤ 16384) (w : World) : Calls Tryz.prog 16 #[.string (Lx.bs (x :: r))] w (Lx.NextGave (Lx.numb (x :: r)) w) := by
  obtain ⟨w1, hw1⟩ : ∃ w1, w1 = w.alloc (.cells #[.int .u8 0, .string ⟨#[]⟩, .int .i64 0, .int .i64 0] 24) := ⟨_, rfl⟩
  have X1 : Hid (T4 w w1) := by rw [hw1]; exact T4.start w
  obtain ⟨l, hxl⟩ : ∃ l, l = x :: r := ⟨_, rfl⟩
  obtain ⟨s, hs⟩ : ∃ s, s = Lx.bs l := ⟨_, rfl⟩
  obtain ⟨n, hn⟩ : ∃ n : Int, n = (l.length : Int) := ⟨_, rfl⟩
  have hsz : (s.size : Int) = n := by rw [hs, Lx.bs_size, hn]
  have HNL : Hid (n = (l.length : Int)) := hn
  have HIX : Hid (∀ (k : Nat) (b : UInt8), l[k]? = some b → ∀ wx, (Instr.index 9 (.string s) (.int .i64 (k : Int))).run Tryz.prog wx = .ok (.int .u8 (b.toNat : Int)) wx) := fun k b hb wx => by rw [hs]; exact Lx.index_at l (k : Int) k b rfl hb wx
  have hx0 : ∀ wx, (Instr.index 9 (.string s) (.int .i64 0)).run Tryz.prog wx = .ok (.int .u8 (x.toNat : Int)) wx := HIX.out 0 x (by rw [hxl]; rfl)
  have HSL : Hid (∀ (k : Nat), k ≤ l.length → ∀ wx, (Instr.slice 9 (.string s) none (some (.int .i64 (k : Int))) none).run Tryz.prog wx = .ok (.string (Lx.bs (l.take k))) wx) := fun k hk wx => by rw [hs]; exact Lx.slice_to l (k : Int) k rfl hk wx
  have CL : Hid (∀ (b : Nat) (W : World), Calls Tryz.prog 35 #[.int .u8 (b : Int)] W fun e w' => e = .returned (.bool (Lx.isL b)) ∧ w' = W) := rletter_c
  have CD : Hid (∀ (b : Nat) (W : World), Calls Tryz.prog 36 #[.int .u8 (b : Int)] W fun e w' => e = .returned (.bool (Lx.isD b)) ∧ w' = W) := rdigit_c
  have C0 : Hid (∀ W : World, Calls Tryz.prog 35 #[.int .u8 (x.toNat : Int)] W fun e w' => e = .returned (.bool false) ∧ w' = W) := fun W => by have h := rletter_c x.toNat W; rw [hxl0] at h; exact h
  have C00 : Hid (∀ W : World, Calls Tryz.prog 36 #[.int .u8 (x.toNat : Int)] W fun e w' => e = .returned (.bool true) ∧ w' = W) := fun W => by have h := rdigit_c x.toNat W; rw [hx] at h; exact h
  have HNUM : Hid (∀ j, 0 < j → (∀ k, k < j → ∃ b, l[k]? = some b ∧ Lx.isD b.toNat = true) → (∀ b, l[j]? = some b → Lx.isD b.toNat = false) → (∀ W : World, Calls Tryz.prog 38 #[.string (Lx.bs (l.take j))] W (Lx.NumGave (l.take j) W)) ∧ (Lx.numb l).err = (if Lx.nok (l.take j) = true ∧ (∀ b, l[j]? = some b → Lx.isL b.toNat = false) then 0 else 13) ∧ ((Lx.numb l).err = 0 → (Lx.numb l).kind = 3 ∧ (Lx.numb l).text = [] ∧ (Lx.numb l).n = ((Lx.dv 0 (l.take j) : Nat) : Int) ∧ (Lx.numb l).size = j)) := fun j hj h1 h2 => by
    rw [hxl] at h1 h2 ⊢
    refine ⟨fun W => ?_, Lx.numb_of x r j hj h1 h2⟩
    obtain ⟨i, rfl⟩ : ∃ i, j = i + 1 := ⟨j - 1, by omega⟩
    have hD := Lx.allD_take h1
    rw [List.take_succ_cons] at hD ⊢
    exact rnumber_c x (r.take i) hD (by simp at hl ⊢; omega) W
  have HD0 : Hid (∃ b, l[0]? = some b ∧ Lx.isD b.toNat = true) := ⟨x, by rw [hxl]; rfl, hx⟩
  rw [← hxl] at hl ⊢
  rw [← hs]
  clear hs hxl hn hx hxl0
  go_enter Tryz.func16, Tryz.ntmps16
  go_upto_region 1 with fail
  rw [← hw1]
  clear hw1
  go_wp2_with fail
  refine Calls.mono (C0.out _) ?_
  rintro e w' ⟨rfl, hw'⟩
  subst hw'
  go_wp2_with fail
  refine Calls.mono (C00.out _) ?_
  rintro e w' ⟨rfl, hw'⟩
  subst hw'
  clear C0 C00 hx0
  go_wp2
  go_loopw [5] (fun i wr => ∃ j : Nat, j ≤ l.length ∧ i = .int .i64 (j : Int) ∧ wr = w' ∧ ∀ k, k < j → ∃ b, l[k]? = some b ∧ Lx.isD b.toNat = true) (fun i _ => l.length - (intOf i).toNat)
  case atStart => exact ⟨0, Nat.zero_le _, rfl, rfl, fun k hk => by omega⟩
  case round =>
    obtain ⟨j, hj, rfl, hwr, hin⟩ := hrel
    subst hwr
    have HIN : Hid (∀ k, k < j → ∃ b, l[k]? = some b ∧ Lx.isD b.toNat = true) := hin
    clear hin
    by_cases hlt : j < l.length
    · have q0 : (j : Int) < n := by rw [HNL.out]; omega
      obtain ⟨a1, a2, a3⟩ := Lx.arQ hlt (by omega)
      obtain ⟨b, hb⟩ : ∃ b, l[j]? = some b := ⟨_, List.getElem?_eq_getElem hlt⟩
      have hix := HIX.out j b hb
      have HB : Hid (l[j]? = some b) := hb
      clear hb
      obtain ⟨l1, hl1⟩ : ∃ l1, l1 = Lx.isL b.toNat := ⟨_, rfl⟩
      obtain ⟨d1, hd1⟩ : ∃ d1, d1 = Lx.isD b.toNat := ⟨_, rfl⟩
      have HLD : Hid (l1 = Lx.isL b.toNat ∧ d1 = Lx.isD b.toNat) := ⟨hl1, hd1⟩
      have C1 : Hid (∀ W : World, Calls Tryz.prog 35 #[.int .u8 (b.toNat : Int)] W fun e w' => e = .returned (.bool l1) ∧ w' = W) := fun W => by rw [hl1]; exact CL.out b.toNat W
      have C2 : Hid (∀ W : World, Calls Tryz.prog 36 #[.int .u8 (b.toNat : Int)] W fun e w' => e = .returned (.bool d1) ∧ w' = W) := fun W => by rw [hd1]; exact CD.out b.toNat W
      clear hl1 hd1
      go_wp2_with fail
      refine Calls.mono (C2.out _) ?_
      rintro e w' ⟨rfl, hw'⟩
      subst hw'
      cases d1 with
      | true =>
        go_wp2
        go_roundw
        case rel => exact ⟨j + 1, by omega, by go_num, trivial, fun k hk => by
          rcases Nat.lt_or_ge k j with h | h
          · exact HIN.out k h
          · obtain rfl : k = j := by omega
            exact ⟨b, HB.out, HLD.out.2.symm⟩⟩
        case measure => simp [intOf]; omega
      | false =>
        have HP : Hid ((∀ W : World, Calls Tryz.prog 38 #[.string (Lx.bs (l.take j))] W (Lx.NumGave (l.take j) W)) ∧ (Lx.numb l).err = (if Lx.nok (l.take j) = true ∧ l1 = false then 0 else 13) ∧ ((Lx.numb l).err = 0 → (Lx.numb l).kind = 3 ∧ (Lx.numb l).text = [] ∧ (Lx.numb l).n = ((Lx.dv 0 (l.take j) : Nat) : Int) ∧ (Lx.numb l).size = j)) := by
          have hj0 : 0 < j := Nat.pos_of_ne_zero fun e => by
            obtain ⟨b0, h1, h2⟩ := HD0.out
            have h3 := HB.out
            rw [e, h1] at h3
            cases h3
            rw [h2] at HLD
            have := HLD.out.2
            cases this
          have h := HNUM.out j hj0 HIN.out (fun c hc => by
            have h := HB.out
            rw [hc] at h
            cases h
            exact HLD.out.2.symm)
          refine ⟨h.1, ?_, h.2.2⟩
          rw [h.2.1]
          have e : (∀ c, l[j]? = some c → Lx.isL c.toNat = false) ↔ l1 = false := ⟨fun h => by rw [HLD.out.1]; exact h b HB.out, fun h c hc => by
            have h3 := HB.out
            rw [hc] at h3
            cases h3
            rw [← HLD.out.1]; exact h⟩
          simp only [e]
        clear C2
        have hsl := HSL.out j hj
        obtain ⟨sj, hsj⟩ : ∃ sj, sj = Lx.bs (l.take j) := ⟨_, rfl⟩
        obtain ⟨ok, hok⟩ : ∃ ok, ok = Lx.nok (l.take j) := ⟨_, rfl⟩
        obtain ⟨tt, htt⟩ : ∃ tt, tt = Lx.bs [] := ⟨_, rfl⟩
        have C3 : Hid (∀ W : World, Calls Tryz.prog 38 #[.string sj] W fun e w' => Below W.heap.size W w' ∧ ∃ (kk : Nat) (nn : Int), e = .returned (.tuple #[.agg #[.int .u8 (kk : Int), .string tt, .int .i64 nn, .int .i64 0], .bool ok]) ∧ (ok = true → kk = 3 ∧ nn = ((Lx.dv 0 (l.take j) : Nat) : Int))) := by rw [hsj, htt, hok]; exact HP.out.1
        rw [← hsj] at hsl
        rw [← hok] at HP
        have HTT : Hid (tt = Lx.bs []) := htt
        clear hsj CL CD HSL HNUM HD0 hok htt
        go_wp2_with fail
        refine Calls.mono (C3.out _) ?_
        rintro e w2 ⟨hb2, kk, nn, rfl, hkn⟩
        have HKN : Hid (ok = true → kk = 3 ∧ nn = ((Lx.dv 0 (l.take j) : Nat) : Int)) := hkn
        have X2 : Hid (T4 w w2) := X1.out.call hb2
        clear hb2 C3 X1 hkn
        go_upto_region 13 with fail
        obtain ⟨w3, hw3⟩ : ∃ w3, w3 = w2.alloc (.cells #[.int .u8 (kk : Int), .string tt, .int .i64 nn, .int .i64 0] 24) := ⟨_, rfl⟩
        obtain ⟨Q, hQ⟩ : ∃ Q, Q = w2.heap.size := ⟨_, rfl⟩
        have X3 : Hid (T4 w w3) := by rw [hw3]; exact X2.out.call ((Below.refl _ _).alloc (Nat.le_refl _) _)
        have V3 : Hid (w3.heap[Q]? = some (.cells #[.int .u8 (kk : Int), .string tt, .int .i64 nn, .int .i64 0] 24 (0, 0))) := by rw [hw3, hQ]; exact heap_alloc_new w2 _
        rw [← hw3, ← hQ]
        clear hw3 hQ X2
        obtain ⟨c0, c1, c2, c3⟩ : w3.cell? ⟨Q, 0, none⟩ = some (.int .u8 (kk : Int)) ∧ w3.cell? ⟨Q, 1, none⟩ = some (.string tt) ∧ w3.cell? ⟨Q, 2, none⟩ = some (.int .i64 nn) ∧ w3.cell? ⟨Q, 3, none⟩ = some (.int .i64 0) := by
          refine ⟨?_, ?_, ?_, ?_⟩ <;> (rw [cell_of_row _ _ _ _ _ _ V3.out]; rfl)
        obtain ⟨p0, p1, p2, p3, fz⟩ := X3.out.cells
        cases ok with
        | false =>
          have HE : Hid ((Lx.numb l).err = 13) := by show _ = _; rw [HP.out.2.1, if_neg (by simp)]
          go_wp2
          rw [HTT.out]
          exact tok_endX (sz := 0) rfl X3.out (fun h => by rw [HE.out] at h; cases h) rfl rfl (by rw [HE.out]; rfl)
        | true =>
          go_wp2_with fail
          refine Calls.mono (C1.out _) ?_
          rintro e w' ⟨rfl, hw'⟩
          subst hw'
          cases l1 with
          | true =>
            have HE : Hid ((Lx.numb l).err = 13) := by show _ = _; rw [HP.out.2.1, if_neg (by simp)]
            go_wp2
            rw [HTT.out]
            exact tok_endX (sz := 0) rfl X3.out (fun h => by rw [HE.out] at h; cases h) rfl rfl (by rw [HE.out]; rfl)
          | false =>
            have HE : Hid ((Lx.numb l).err = 0) := by show _ = _; rw [HP.out.2.1, if_pos (by simp)]
            have HF : Hid ((Lx.numb l).err = 0 → kk = (Lx.numb l).kind ∧ [] = (Lx.numb l).text ∧ nn = (Lx.numb l).n ∧ j = (Lx.numb l).size) := fun he => by
              obtain ⟨h1, h2, h3, h4⟩ := HP.out.2.2 he
              obtain ⟨h5, h6⟩ := HKN.out (by first | rfl | trivial)
              exact ⟨by rw [h1, h5], h2.symm, by rw [h3, h6], h4.symm⟩
            go_wp2
            rw [HTT.out]
            exact tok_endX rfl X3.out HF.out rfl rfl (by rw [HE.out]; rfl)
    · have q0 : ¬ (j : Int) < n := by rw [HNL.out]; omega
      have HP : Hid ((∀ W : World, Calls Tryz.prog 38 #[.string (Lx.bs (l.take j))] W (Lx.NumGave (l.take j) W)) ∧ (Lx.numb l).err = (if Lx.nok (l.take j) = true then 0 else 13) ∧ ((Lx.numb l).err = 0 → (Lx.numb l).kind = 3 ∧ (Lx.numb l).text = [] ∧ (Lx.numb l).n = ((Lx.dv 0 (l.take j) : Nat) : Int) ∧ (Lx.numb l).size = j)) := by
        have hlj : ∀ c, l[j]? ≠ some c := fun c hc => by
          have := (List.getElem?_eq_some_iff.1 hc).1
          omega
        have hj0 : 0 < j := Nat.pos_of_ne_zero fun e => by
          obtain ⟨b0, h1, h2⟩ := HD0.out
          rw [e] at hlj
          exact hlj b0 h1
        have h := HNUM.out j hj0 HIN.out (fun c hc => absurd hc (hlj c))
        refine ⟨h.1, ?_, h.2.2⟩
        rw [h.2.1]
        have e : (∀ c, l[j]? = some c → Lx.isL c.toNat = false) ↔ True := ⟨fun _ => trivial, fun _ c hc => absurd hc (hlj c)⟩
        simp only [e, and_true]
      have hsl := HSL.out j hj
      obtain ⟨sj, hsj⟩ : ∃ sj, sj = Lx.bs (l.take j) := ⟨_, rfl⟩
      obtain ⟨ok, hok⟩ : ∃ ok, ok = Lx.nok (l.take j) := ⟨_, rfl⟩
      obtain ⟨tt, htt⟩ : ∃ tt, tt = Lx.bs [] := ⟨_, rfl⟩
      have C3 : Hid (∀ W : World, Calls Tryz.prog 38 #[.string sj] W fun e w' => Below W.heap.size W w' ∧ ∃ (kk : Nat) (nn : Int), e = .returned (.tuple #[.agg #[.int .u8 (kk : Int), .string tt, .int .i64 nn, .int .i64 0], .bool ok]) ∧ (ok = true → kk = 3 ∧ nn = ((Lx.dv 0 (l.take j) : Nat) : Int))) := by rw [hsj, htt, hok]; exact HP.out.1
      rw [← hsj] at hsl
      rw [← hok] at HP
      have HTT : Hid (tt = Lx.bs []) := htt
      clear hsj CL CD HSL HNUM HD0 hok htt
      go_wp2_with fail
      refine Calls.mono (C3.out _) ?_
      rintro e w2 ⟨hb2, kk, nn, rfl, hkn⟩
      have HKN : Hid (ok = true → kk = 3 ∧ nn = ((Lx.dv 0 (l.take j) : Nat) : Int)) := hkn
      have X2 : Hid (T4 w w2) := X1.out.call hb2
      clear hb2 C3 X1 hkn
      go_upto_region 13 with fail
      obtain ⟨w3, hw3⟩ : ∃ w3, w3 = w2.alloc (.cells #[.int .u8 (kk : Int), .string tt, .int .i64 nn, .int .i64 0] 24) := ⟨_, rfl⟩
      obtain ⟨Q, hQ⟩ : ∃ Q, Q = w2.heap.size := ⟨_, rfl⟩
      have X3 : Hid (T4 w w3) := by rw [hw3]; exact X2.out.call ((Below.refl _ _).alloc (Nat.le_refl _) _)
      have V3 : Hid (w3.heap[Q]? = some (.cells #[.int .u8 (kk : Int), .string tt, .int .i64 nn, .int .i64 0] 24 (0, 0))) := by rw [hw3, hQ]; exact heap_alloc_new w2 _
      rw [← hw3, ← hQ]
      clear hw3 hQ X2
      obtain ⟨c0, c1, c2, c3⟩ : w3.cell? ⟨Q, 0, none⟩ = some (.int .u8 (kk : Int)) ∧ w3.cell? ⟨Q, 1, none⟩ = some (.string tt) ∧ w3.cell? ⟨Q, 2, none⟩ = some (.int .i64 nn) ∧ w3.cell? ⟨Q, 3, none⟩ = some (.int .i64 0) := by
        refine ⟨?_, ?_, ?_, ?_⟩ <;> (rw [cell_of_row _ _ _ _ _ _ V3.out]; rfl)
      obtain ⟨p0, p1, p2, p3, fz⟩ := X3.out.cells
      cases ok with
      | false =>
        have HE : Hid ((Lx.numb l).err = 13) := by show _ = _; rw [HP.out.2.1, if_neg (by simp)]
        go_wp2
        rw [HTT.out]
        exact tok_endX (sz := 0) rfl X3.out (fun h => by rw [HE.out] at h; cases h) rfl rfl (by rw [HE.out]; rfl)
      | true =>
        have HE : Hid ((Lx.numb l).err = 0) := by show _ = _; rw [HP.out.2.1, if_pos (by simp)]
        have HF : Hid ((Lx.numb l).err = 0 → kk = (Lx.numb l).kind ∧ [] = (Lx.numb l).text ∧ nn = (Lx.numb l).n ∧ j = (Lx.numb l).size) := fun he => by
          obtain ⟨h1, h2, h3, h4⟩ := HP.out.2.2 he
          obtain ⟨h5, h6⟩ := HKN.out (by first | rfl | trivial)
          exact ⟨by rw [h1, h5], h2.symm, by rw [h3, h6], h4.symm⟩
        go_wp2
        rw [HTT.out]
        exact tok_endX rfl X3.out HF.out rfl rfl (by rw [HE.out]; rfl)
end Go.Proofs.YtdejnphiejkglaaGreatDoor
