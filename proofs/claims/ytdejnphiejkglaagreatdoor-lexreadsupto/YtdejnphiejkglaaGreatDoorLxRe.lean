/- The document's next token, walked: words. -/
import Derived.Test.YtdejnphiejkglaaGreatDoorLxRd
import Derived.Test.YtdejnphiejkglaaGreatDoorLxJ
namespace Go.Proofs.YtdejnphiejkglaaGreatDoor
open Go.RowKit
namespace Lx
/-- what next answers: an error, or the token and its size -/
def NextGave (F : R) (w : World) (e : Ending) (w' : World) : Prop := Below w.heap.size w w' ∧ ∃ k t n sz, e = .returned (.tuple #[.agg (tc k t n 0), .int .i64 ((sz : Nat) : Int), .int .i64 (F.err : Int)]) ∧ (F.err = 0 → k = F.kind ∧ t = F.text ∧ n = F.n ∧ sz = F.size)
theorem word_err (l : Bs) : (word l).err = if wok (l.take (wsz l)) then 0 else 13 := by
  have hl : (l.take (wsz l)).length = wsz l := by rw [List.length_take]; have := wsz_le l; omega
  rw [word, wok, hl]
  by_cases h : isKey (l.take (wsz l)) = true
  · rw [if_pos h, h]; rfl
  · have h' : isKey (l.take (wsz l)) = false := by simpa using h
    rw [if_neg h, h']
    by_cases h2 : 64 < wsz l
    · rw [if_pos h2, decide_eq_false (by omega)]; rfl
    · rw [if_neg h2, decide_eq_true (by omega)]; rfl
theorem word_is (l : Bs) (h : (word l).err = 0) : wk (l.take (wsz l)) = (word l).kind ∧ wt (l.take (wsz l)) = (word l).text ∧ (word l).n = 0 ∧ (word l).size = wsz l := by
  rw [wk, wt]
  rw [word] at h ⊢
  by_cases h1 : isKey (l.take (wsz l)) = true
  · rw [if_pos h1, if_pos h1, if_pos h1]; exact ⟨rfl, rfl, rfl, rfl⟩
  · rw [if_neg h1] at h
    rw [if_neg h1, if_neg h1, if_neg h1]
    by_cases h2 : 64 < wsz l
    · rw [if_pos h2] at h; cases h
    · rw [if_neg h2]; exact ⟨rfl, rfl, rfl, rfl⟩
end Lx
theorem tok_endX {fn : Func} {p u v : Tmp} {F : Lx.R} {w W : World} {tmps : Array Value} {k : Nat} {t : Lx.Bs} {n : Int} {sz : Nat} (hr : fn.results = #[.cell p 24, .tmp u, .tmp v]) (h : T4 w W) (hk : F.err = 0 → k = F.kind ∧ t = F.text ∧ n = F.n ∧ sz = F.size) (hp : tmps.getD p undef = .pointer (some ⟨w.heap.size, 0, none⟩)) (hu : tmps.getD u undef = .int .i64 (sz : Int)) (hv : tmps.getD v undef = .int .i64 (F.err : Int)) :
    bodyPost Tryz.prog fn (Lx.NextGave F w) .ret ⟨tmps, []⟩ ((((W.setCell ⟨w.heap.size, 0, none⟩ (.int .u8 (k : Int))).setCell ⟨w.heap.size, 1, none⟩ (.string (Lx.bs t))).setCell ⟨w.heap.size, 2, none⟩ (.int .i64 n)).setCell ⟨w.heap.size, 3, none⟩ (.int .i64 0)) := by
  obtain ⟨HA, HB⟩ := h.put (.int .u8 (k : Int)) (.string (Lx.bs t)) (.int .i64 n) (.int .i64 0)
  refine bodyPost_ret (results_row2 hr tmps _ w.heap.size 24 _ (0, 0) _ hp HA Tryz.underlying24 rfl infoTok) rfl ⟨HB, k, t, n, sz, ?_, hk⟩
  rw [hu, hv]
  rfl
set_option maxHeartbeats 8000000 in
set_option maxRecDepth 100000 in
theorem rnextL_c (x : UInt8) (r : Lx.Bs) (hx : Lx.isL x.toNat = true) (hl : (x :: r).length ≤ 16384) (w : World) : Calls Tryz.prog 16 #[.string (Lx.bs (x :: r))] w (Lx.NextGave (Lx.word (x :: r)) w) := by
  obtain ⟨w1, hw1⟩ : ∃ w1, w1 = w.alloc (.cells #[.int .u8 0, .string ⟨#[]⟩, .int .i64 0, .int .i64 0] 24) := ⟨_, rfl⟩
  have X1 : Hid (T4 w w1) := by rw [hw1]; exact T4.start w
  obtain ⟨l, hxl⟩ : ∃ l, l = x :: r := ⟨_, rfl⟩
  obtain ⟨s, hs⟩ : ∃ s, s = Lx.bs l := ⟨_, rfl⟩
  obtain ⟨n, hn⟩ : ∃ n : Int, n = (l.length : Int) := ⟨_, rfl⟩
  have hsz : (s.size : Int) = n := by rw [hs, Lx.bs_size, hn]
  have HNL : Hid (n = (l.length : Int)) := hn
  have HIX : Hid (∀ (k : Nat) (b : UInt8), l[k]? = some b → ∀ wx, (Instr.index 9 (.string s) (.int .i64 (k : Int))).run Tryz.prog wx = .ok (.int .u8 (b.toNat : Int)) wx) := fun k b hb wx => by rw [hs]; exact Lx.index_at l (k : Int) k b rfl hb wx
  have hx0 : ∀ wx, (Instr.index 9 (.string s) (.int .i64 0)).run Tryz.prog wx = .ok (.int .u8 (x.toNat : Int)) wx := HIX.out 0 x (by rw [hxl]; rfl)
  have HSL : Hid (∀ (k : Nat), k ≤ l.length → ∀ wx, (Instr.slice 9 (.string s) none (some (.int .i64 (k : Int))) none).run Tryz.prog wx = .ok (.string (Lx.bs (l.take k))) wx) := fun k hk wx => by rw [hs]; exact Lx.slice_to l (k : Int) k rfl hk wx
  have CL : Hid (∀ (b : Nat) (W : World), Calls Tryz.prog 35 #[.int .u8 (b : Int)] W fun e w' => e = .returned (.bool (Lx.isL b)) ∧ w' = W) := rletter_c
  have CD : Hid (∀ (b : Nat) (W : World), Calls Tryz.prog 36 #[.int .u8 (b : Int)] W fun e w' => e = .returned (.bool (Lx.isD b)) ∧ w' = W) := rdigit_c
  have C0 : Hid (∀ W : World, Calls Tryz.prog 35 #[.int .u8 (x.toNat : Int)] W fun e w' => e = .returned (.bool true) ∧ w' = W) := fun W => by have h := rletter_c x.toNat W; rw [hx] at h; exact h
  have CW : Hid (∀ (k : Nat) (W : World), Calls Tryz.prog 37 #[.string (Lx.bs (l.take k))] W fun e w' => e = .returned (.tuple #[.agg (Lx.tc (Lx.wk (l.take k)) (Lx.wt (l.take k)) 0 0), .bool (Lx.wok (l.take k))]) ∧ Below W.heap.size W w') := fun k W => rword_c (l.take k) (by rw [List.length_take, hxl]; omega) W
  rw [← hxl] at hl ⊢
  rw [← hs]
  clear hs hxl hn hx
  go_enter Tryz.func16, Tryz.ntmps16
  go_upto_region 1 with fail
  rw [← hw1]
  clear hw1
  go_wp2_with fail
  refine Calls.mono (C0.out _) ?_
  rintro e w' ⟨rfl, hw'⟩
  subst hw'
  clear C0 hx0
  go_wp2
  go_loopw [5] (fun i wr => ∃ j : Nat, j ≤ l.length ∧ i = .int .i64 (j : Int) ∧ wr = w' ∧ ∀ k, k < j → ∃ b, l[k]? = some b ∧ Lx.isW b = true) (fun i _ => l.length - (intOf i).toNat)
  case atStart => exact ⟨0, Nat.zero_le _, rfl, rfl, fun k hk => by omega⟩
  case round =>
    obtain ⟨j, hj, rfl, hwr, hin⟩ := hrel
    subst hwr
    have HIN : Hid (∀ k, k < j → ∃ b, l[k]? = some b ∧ Lx.isW b = true) := hin
    clear hin
    have HEND : Hid (Lx.wsz l = j → True) := fun _ => trivial
    by_cases hlt : j < l.length
    · have q0 : (j : Int) < n := by rw [HNL.out]; omega
      obtain ⟨a1, a2, a3⟩ := Lx.arQ hlt (by omega)
      obtain ⟨b, hb⟩ : ∃ b, l[j]? = some b := ⟨_, List.getElem?_eq_getElem hlt⟩
      have hix := HIX.out j b hb
      have HB : Hid (l[j]? = some b) := hb
      clear hb
      obtain ⟨l1, hl1⟩ : ∃ l1, l1 = Lx.isL b.toNat := ⟨_, rfl⟩
      obtain ⟨d1, hd1⟩ : ∃ d1, d1 = Lx.isD b.toNat := ⟨_, rfl⟩
      have HLD : Hid (l1 = Lx.isL b.toNat ∧ d1 = Lx.isD b.toNat) := ⟨hl1, hd1⟩
      have C1 : Hid (∀ W : World, Calls Tryz.prog 35 #[.int .u8 (b.toNat : Int)] W fun e w' => e = .returned (.bool l1) ∧ w' = W) := fun W => by rw [hl1]; exact CL.out b.toNat W
      have C2 : Hid (∀ W : World, Calls Tryz.prog 36 #[.int .u8 (b.toNat : Int)] W fun e w' => e = .returned (.bool d1) ∧ w' = W) := fun W => by rw [hd1]; exact CD.out b.toNat W
      clear hl1 hd1
      go_wp2_with fail
      refine Calls.mono (C1.out _) ?_
      rintro e w' ⟨rfl, hw'⟩
      subst hw'
      cases l1 with
      | true =>
        go_wp2
        go_roundw
        case rel => exact ⟨j + 1, by omega, by go_num, trivial, fun k hk => by
          rcases Nat.lt_or_ge k j with h | h
          · exact HIN.out k h
          · obtain rfl : k = j := by omega
            exact ⟨b, HB.out, by rw [Lx.isW, ← HLD.out.1]; rfl⟩⟩
        case measure => simp [intOf]; omega
      | false =>
        go_wp2_with fail
        refine Calls.mono (C2.out _) ?_
        rintro e w' ⟨rfl, hw'⟩
        subst hw'
        cases d1 with
        | true =>
          go_wp2
          go_roundw
          case rel => exact ⟨j + 1, by omega, by go_num, trivial, fun k hk => by
            rcases Nat.lt_or_ge k j with h | h
            · exact HIN.out k h
            · obtain rfl : k = j := by omega
              exact ⟨b, HB.out, by rw [Lx.isW, ← HLD.out.1, ← HLD.out.2]; rfl⟩⟩
          case measure => simp [intOf]; omega
        | false =>
          have HW : Hid (Lx.wsz l = j) := Lx.wsz_of _ j HIN.out (fun c hc => by
            have h := HB.out
            rw [hc] at h
            cases h
            rw [Lx.isW, ← HLD.out.1, ← HLD.out.2]; rfl)
          clear C1 C2
          have hsl := HSL.out j hj
          obtain ⟨kk, hkk⟩ : ∃ kk, kk = Lx.wk (l.take j) := ⟨_, rfl⟩
          obtain ⟨tt, htt⟩ : ∃ tt, tt = Lx.wt (l.take j) := ⟨_, rfl⟩
          obtain ⟨ok, hok⟩ : ∃ ok, ok = Lx.wok (l.take j) := ⟨_, rfl⟩
          have C3 : Hid (∀ W : World, Calls Tryz.prog 37 #[.string (Lx.bs (l.take j))] W fun e w' => e = .returned (.tuple #[.agg #[.int .u8 (kk : Int), .string (Lx.bs tt), .int .i64 0, .int .i64 0], .bool ok]) ∧ Below W.heap.size W w') := fun W => by rw [hkk, htt, hok]; exact CW.out j W
          have HWE : Hid ((Lx.word l).err = (if ok then 0 else 13) ∧ ((Lx.word l).err = 0 → kk = (Lx.word l).kind ∧ tt = (Lx.word l).text ∧ (0 : Int) = (Lx.word l).n ∧ j = (Lx.word l).size)) := by
            have h1 := Lx.word_err l
            have h2 := Lx.word_is l
            rw [HW.out, ← hok] at h1
            rw [HW.out, ← hkk, ← htt] at h2
            exact ⟨h1, fun he => ⟨(h2 he).1, (h2 he).2.1, (h2 he).2.2.1.symm, (h2 he).2.2.2.symm⟩⟩
          obtain ⟨sj, hsj⟩ : ∃ sj, sj = Lx.bs (l.take j) := ⟨_, rfl⟩
          rw [← hsj] at hsl C3
          clear hkk htt hok hsj CW CL CD HSL
          go_wp2_with fail
          refine Calls.mono (C3.out _) ?_
          rintro e w2 ⟨rfl, hb2⟩
          have X2 : Hid (T4 w w2) := X1.out.call hb2
          clear hb2 C3 X1
          go_upto_region 6 with fail
          obtain ⟨w3, hw3⟩ : ∃ w3, w3 = w2.alloc (.cells #[.int .u8 (kk : Int), .string (Lx.bs tt), .int .i64 0, .int .i64 0] 24) := ⟨_, rfl⟩
          obtain ⟨Q, hQ⟩ : ∃ Q, Q = w2.heap.size := ⟨_, rfl⟩
          have X3 : Hid (T4 w w3) := by rw [hw3]; exact X2.out.call ((Below.refl _ _).alloc (Nat.le_refl _) _)
          have V3 : Hid (w3.heap[Q]? = some (.cells #[.int .u8 (kk : Int), .string (Lx.bs tt), .int .i64 0, .int .i64 0] 24 (0, 0))) := by rw [hw3, hQ]; exact heap_alloc_new w2 _
          rw [← hw3, ← hQ]
          clear hw3 hQ X2
          obtain ⟨c0, c1, c2, c3⟩ : w3.cell? ⟨Q, 0, none⟩ = some (.int .u8 (kk : Int)) ∧ w3.cell? ⟨Q, 1, none⟩ = some (.string (Lx.bs tt)) ∧ w3.cell? ⟨Q, 2, none⟩ = some (.int .i64 0) ∧ w3.cell? ⟨Q, 3, none⟩ = some (.int .i64 0) := by
            refine ⟨?_, ?_, ?_, ?_⟩ <;> (rw [cell_of_row _ _ _ _ _ _ V3.out]; rfl)
          obtain ⟨p0, p1, p2, p3, fz⟩ := X3.out.cells
          cases ok with
          | true =>
            go_wp2
            exact tok_endX rfl X3.out HWE.out.2 rfl rfl (by rw [HWE.out.1]; rfl)
          | false =>
            go_wp2
            exact tok_endX (sz := 0) rfl X3.out (fun h => by rw [HWE.out.1] at h; cases h) rfl rfl (by rw [HWE.out.1]; rfl)
    · have q0 : ¬ (j : Int) < n := by rw [HNL.out]; omega
      have HW : Hid (Lx.wsz l = j) := Lx.wsz_of _ j HIN.out (fun c hc => by
        have := (List.getElem?_eq_some_iff.1 hc).1
        omega)
      have hsl := HSL.out j hj
      obtain ⟨kk, hkk⟩ : ∃ kk, kk = Lx.wk (l.take j) := ⟨_, rfl⟩
      obtain ⟨tt, htt⟩ : ∃ tt, tt = Lx.wt (l.take j) := ⟨_, rfl⟩
      obtain ⟨ok, hok⟩ : ∃ ok, ok = Lx.wok (l.take j) := ⟨_, rfl⟩
      have C3 : Hid (∀ W : World, Calls Tryz.prog 37 #[.string (Lx.bs (l.take j))] W fun e w' => e = .returned (.tuple #[.agg #[.int .u8 (kk : Int), .string (Lx.bs tt), .int .i64 0, .int .i64 0], .bool ok]) ∧ Below W.heap.size W w') := fun W => by rw [hkk, htt, hok]; exact CW.out j W
      have HWE : Hid ((Lx.word l).err = (if ok then 0 else 13) ∧ ((Lx.word l).err = 0 → kk = (Lx.word l).kind ∧ tt = (Lx.word l).text ∧ (0 : Int) = (Lx.word l).n ∧ j = (Lx.word l).size)) := by
        have h1 := Lx.word_err l
        have h2 := Lx.word_is l
        rw [HW.out, ← hok] at h1
        rw [HW.out, ← hkk, ← htt] at h2
        exact ⟨h1, fun he => ⟨(h2 he).1, (h2 he).2.1, (h2 he).2.2.1.symm, (h2 he).2.2.2.symm⟩⟩
      obtain ⟨sj, hsj⟩ : ∃ sj, sj = Lx.bs (l.take j) := ⟨_, rfl⟩
      rw [← hsj] at hsl C3
      clear hkk htt hok hsj CW CL CD HSL
      go_wp2_with fail
      refine Calls.mono (C3.out _) ?_
      rintro e w2 ⟨rfl, hb2⟩
      have X2 : Hid (T4 w w2) := X1.out.call hb2
      clear hb2 C3 X1
      go_upto_region 6 with fail
      obtain ⟨w3, hw3⟩ : ∃ w3, w3 = w2.alloc (.cells #[.int .u8 (kk : Int), .string (Lx.bs tt), .int .i64 0, .int .i64 0] 24) := ⟨_, rfl⟩
      obtain ⟨Q, hQ⟩ : ∃ Q, Q = w2.heap.size := ⟨_, rfl⟩
      have X3 : Hid (T4 w w3) := by rw [hw3]; exact X2.out.call ((Below.refl _ _).alloc (Nat.le_refl _) _)
      have V3 : Hid (w3.heap[Q]? = some (.cells #[.int .u8 (kk : Int), .string (Lx.bs tt), .int .i64 0, .int .i64 0] 24 (0, 0))) := by rw [hw3, hQ]; exact heap_alloc_new w2 _
      rw [← hw3, ← hQ]
      clear hw3 hQ X2
      obtain ⟨c0, c1, c2, c3⟩ : w3.cell? ⟨Q, 0, none⟩ = some (.int .u8 (kk : Int)) ∧ w3.cell? ⟨Q, 1, none⟩ = some (.string (Lx.bs tt)) ∧ w3.cell? ⟨Q, 2, none⟩ = some (.int .i64 0) ∧ w3.cell? ⟨Q, 3, none⟩ = some (.int .i64 0) := by
        refine ⟨?_, ?_, ?_, ?_⟩ <;> (rw [cell_of_row _ _ _ _ _ _ V3.out]; rfl)
      obtain ⟨p0, p1, p2, p3, fz⟩ := X3.out.cells
      cases ok with
      | true =>
        go_wp2
        exact tok_endX rfl X3.out HWE.out.2 rfl rfl (by rw [HWE.out.1]; rfl)
      | false =>
        go_wp2
        exact tok_endX (sz := 0) rfl X3.out (fun h => by rw [HWE.out.1] at h; cases h) rfl rfl (by rw [HWE.out.1]; rfl)
end Go.Proofs.YtdejnphiejkglaaGreatDoor
