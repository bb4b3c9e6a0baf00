/- The document's word and number, walked. -/
import Derived.Test.YtdejnphiejkglaaGreatDoorLxRa
import Derived.Test.YtdejnphiejkglaaGreatDoorLxRm
import Derived.Test.YtdejnphiejkglaaGreatDoorLxG
import Derived.Deep.RegionHeld3
namespace Go.Proofs.YtdejnphiejkglaaGreatDoor
open Go.RowKit
theorem results_row1L {P : Program} {fn : Func} {p u : Tmp} {ty : TypeId} (h : fn.results = #[.cell p ty, .tmp u]) (tmps : Array Value) (w : World) (g : Nat) (t : TypeId) (cs : Array Value) (fr : Nat × Nat) (d : TypeDesc)
    (hp : tmps.getD p undef = .pointer (some ⟨g, 0, none⟩)) (hg : w.heap[g]? = some (.cells cs t fr))
    (hu : P.underlying ty = some d) (hd : (match d with | .struct _ | .array _ _ => true | _ => false) = true) (hi : (P.info? ty).map (·.size) = some cs.size) :
    (results fn tmps).run P w = .ok (.tuple #[.agg cs, tmps.getD u undef]) w := by
  have h1 : (results fn tmps).run P w = ((asAddr (tmps.getD p undef)).run P w).andThen fun a w₁ => ((loadVar ty a).run P w₁).andThen fun x w₂ => .ok (.tuple #[x, tmps.getD u undef]) w₂ := by
    simp only [results, h]
    simp [Sem.run_bind, Result.andThen]
  rw [h1, hp]
  simp [asAddr, run_loadVar_row w g t ty cs fr d hg hu hd hi]
theorem tok_end1 {fn : Func} {p v : Tmp} {w W : World} {tmps : Array Value} {k : Nat} {t : Lx.Bs} {n : Int} {b : Bool} (hr : fn.results = #[.cell p 24, .tmp v]) (h : T4 w W) (hp : tmps.getD p undef = .pointer (some ⟨w.heap.size, 0, none⟩)) (hv : tmps.getD v undef = .bool b) :
    bodyPost Tryz.prog fn (fun e w' => e = .returned (.tuple #[.agg (Lx.tc k t n 0), .bool b]) ∧ Below w.heap.size w w') .ret ⟨tmps, []⟩ ((((W.setCell ⟨w.heap.size, 0, none⟩ (.int .u8 (k : Int))).setCell ⟨w.heap.size, 1, none⟩ (.string (Lx.bs t))).setCell ⟨w.heap.size, 2, none⟩ (.int .i64 n)).setCell ⟨w.heap.size, 3, none⟩ (.int .i64 0)) := by
  obtain ⟨HA, HB⟩ := h.put (.int .u8 (k : Int)) (.string (Lx.bs t)) (.int .i64 n) (.int .i64 0)
  refine bodyPost_ret (results_row1L hr tmps _ w.heap.size 24 _ (0, 0) _ hp HA Tryz.underlying24 rfl infoTok) rfl ⟨?_, HB⟩
  rw [hv]
  rfl
namespace Lx
def wk (l : Bs) : Nat := if isKey l then 2 else 1
def wt (l : Bs) : Bs := if isKey l then great l else l
def wok (l : Bs) : Bool := isKey l || decide (l.length ≤ 64)
end Lx
set_option maxHeartbeats 4000000 in
set_option maxRecDepth 100000 in
theorem rword_c (l : Lx.Bs) (hl : l.length ≤ 140737488351232) (w : World) : Calls Tryz.prog 37 #[.string (Lx.bs l)] w fun e w' => e = .returned (.tuple #[.agg (Lx.tc (Lx.wk l) (Lx.wt l) 0 0), .bool (Lx.wok l)]) ∧ Below w.heap.size w w' := by
  obtain ⟨w1, hw1⟩ : ∃ w1, w1 = w.alloc (.cells #[.int .u8 0, .string ⟨#[]⟩, .int .i64 0, .int .i64 0] 24) := ⟨_, rfl⟩
  have X1 : Hid (T4 w w1) := by rw [hw1]; exact T4.start w
  obtain ⟨s, hs⟩ : ∃ s, s = Lx.bs l := ⟨_, rfl⟩
  obtain ⟨kb, hkb⟩ : ∃ kb, kb = Lx.isKey l := ⟨_, rfl⟩
  have hsz : (s.size : Int) = (l.length : Int) := by rw [hs, Lx.bs_size]
  have hsz2 : s.size ≤ 140737488351232 := by rw [hs, Lx.bs_size]; exact hl
  have CK : Hid (∀ W, Calls Tryz.prog 11 #[.string s] W fun e w' => e = .returned (.bool kb) ∧ Below W.heap.size W w') := fun W => by
    have h := rkeyword_c s hsz2 W
    rw [hs, Lx.bs_data, ← hkb] at h
    rw [hs]; exact h
  have CG : Hid (∀ W, Calls Tryz.prog 22 #[.string s] W fun e w' => e = .returned (.string (Lx.bs (Lx.great l))) ∧ Below W.heap.size W w') := fun W => by
    have h := rgreat_c s hsz2 W
    rw [hs, Lx.bs_data] at h
    rw [hs]; exact h
  have HK : Hid (kb = Lx.isKey l) := hkb
  have HS : Hid (s = Lx.bs l) := hs
  rw [← hs]
  clear hs hkb hsz2
  go_enter Tryz.func37, Tryz.ntmps37
  go_upto_region 1 with fail
  rw [← hw1]
  clear hw1
  go_wp2_with fail
  refine Calls.mono (CK.out _) ?_
  rintro e w2 ⟨rfl, hb2⟩
  have X2 : Hid (T4 w w2) := X1.out.call hb2
  clear hb2 X1 CK
  cases kb with
  | true =>
    go_wp2_with fail
    refine Calls.mono (CG.out _) ?_
    rintro e w3 ⟨rfl, hb3⟩
    have X3 : Hid (T4 w w3) := X2.out.call hb3
    obtain ⟨p0, p1, p2, p3, fz⟩ := X3.out.cells
    clear hb3 X2
    have HR : Hid (Lx.wk l = 2 ∧ Lx.wt l = Lx.great l ∧ Lx.wok l = true) := by
      have := HK.out.symm
      exact ⟨by rw [Lx.wk, if_pos this], by rw [Lx.wt, if_pos this], by rw [Lx.wok, this]; rfl⟩
    go_wp2
    rw [HR.out.1, HR.out.2.1, HR.out.2.2]
    exact tok_end1 rfl X3.out rfl rfl
  | false =>
    obtain ⟨p0, p1, p2, p3, fz⟩ := X2.out.cells
    have HR : Hid (Lx.wk l = 1 ∧ Lx.wt l = l ∧ Lx.wok l = decide (l.length ≤ 64)) := by
      have := HK.out.symm
      exact ⟨by rw [Lx.wk, if_neg (by rw [this]; decide)], by rw [Lx.wt, if_neg (by rw [this]; decide)], by rw [Lx.wok, this]; rfl⟩
    by_cases h64 : l.length ≤ 64
    · have q : (s.size : Int) ≤ 64 := by omega
      go_wp2
      rw [HR.out.1, HR.out.2.1, HR.out.2.2, decide_eq_true h64, HS.out]
      exact tok_end1 rfl X2.out rfl (by show Value.bool (decide ((l.length : Int) ≤ 64)) = _; rw [decide_eq_true (by omega)])
    · have q : ¬ (s.size : Int) ≤ 64 := by omega
      go_wp2
      rw [HR.out.1, HR.out.2.1, HR.out.2.2, decide_eq_false h64, HS.out]
      exact tok_end1 rfl X2.out rfl (by show Value.bool (decide ((l.length : Int) ≤ 64)) = _; rw [decide_eq_false (by omega)])
namespace Lx
theorem dv_at (l : Bs) (j : Nat) (c : UInt8) (h : l[j]? = some c) : dv 0 (l.take (j + 1)) = dv 0 (l.take j) * 10 + (c.toNat - 48) := by
  rw [List.take_add_one, h]
  exact dv_snoc _ _ _
theorem allD_at {l : Bs} (h : allD l = true) {j : Nat} {c : UInt8} (hc : l[j]? = some c) : 48 ≤ c.toNat ∧ c.toNat ≤ 57 := by
  have h1 := List.mem_of_getElem? hc
  rw [allD, List.all_eq_true] at h
  exact (isD_iff _).1 (h c h1)
/-- whether digits are a number's -/
def nok (l : Bs) : Bool := decide (dv 0 l ≤ 9223372036854775807) && (decide (l.length = 1) || decide (l.head? ≠ some 48))
def NumGave (l : Bs) (w : World) (e : Ending) (w' : World) : Prop := Below w.heap.size w w' ∧ ∃ k n, e = .returned (.tuple #[.agg (tc k [] n 0), .bool (nok l)]) ∧ (nok l = true → k = 3 ∧ n = ((dv 0 l : Nat) : Int))
theorem arN {a d m : Nat} (hm : a * 10 + d = m) (h : m ≤ 9223372036854775807) : ¬ (9223372036854775807 - (d : Int)) / 10 < (a : Int) ∧ IntKind.u64.wrap (10 * (a : Int)) = ((10 * a : Nat) : Int) ∧ IntKind.u64.wrap (((10 * a : Nat) : Int) + (d : Int)) = (m : Int) := by
  refine ⟨by omega, ?_, ?_⟩
  · show (10 * (a : Int)) % 18446744073709551616 = _; omega
  · show (((10 * a : Nat) : Int) + (d : Int)) % 18446744073709551616 = _; omega
theorem arM {a d : Nat} (h : ¬ a * 10 + d ≤ 9223372036854775807) : (9223372036854775807 - (d : Int)) / 10 < (a : Int) := by omega
theorem arO {d : Nat} (hd : d ≤ 9) : IntKind.u64.wrap (9223372036854775807 - (d : Int)) = 9223372036854775807 - (d : Int) ∧ IntKind.u64.wrap (d : Int) = (d : Int) := by
  refine ⟨?_, ?_⟩
  · show (9223372036854775807 - (d : Int)) % 18446744073709551616 = _; omega
  · show (d : Int) % 18446744073709551616 = _; omega
theorem arP {a : Nat} (h : a ≤ 9223372036854775807) : IntKind.i64.wrap (a : Int) = (a : Int) := by rw [IntKind.wrap_i64]; omega
end Lx
theorem tok_endN {fn : Func} {p v : Tmp} {l : Lx.Bs} {w W : World} {tmps : Array Value} {k : Nat} {n : Int} (hr : fn.results = #[.cell p 24, .tmp v]) (h : T4 w W) (hk : Lx.nok l = true → k = 3 ∧ n = ((Lx.dv 0 l : Nat) : Int)) (hp : tmps.getD p undef = .pointer (some ⟨w.heap.size, 0, none⟩)) (hv : tmps.getD v undef = .bool (Lx.nok l)) :
    bodyPost Tryz.prog fn (Lx.NumGave l w) .ret ⟨tmps, []⟩ ((((W.setCell ⟨w.heap.size, 0, none⟩ (.int .u8 (k : Int))).setCell ⟨w.heap.size, 1, none⟩ (.string (Lx.bs []))).setCell ⟨w.heap.size, 2, none⟩ (.int .i64 n)).setCell ⟨w.heap.size, 3, none⟩ (.int .i64 0)) := by
  obtain ⟨HA, HB⟩ := h.put (.int .u8 (k : Int)) (.string (Lx.bs [])) (.int .i64 n) (.int .i64 0)
  refine bodyPost_ret (results_row1L hr tmps _ w.heap.size 24 _ (0, 0) _ hp HA Tryz.underlying24 rfl infoTok) rfl ⟨HB, k, n, ?_, hk⟩
  rw [hv]
  rfl
theorem tok_endD {fn : Func} {p v : Tmp} {l : Lx.Bs} {w W : World} {tmps : Array Value} {k : Nat} {n : Int} (hr : fn.results = #[.cell p 24, .tmp v]) (h : T4 w W) (hk : Lx.nok l = true → k = 3 ∧ n = ((Lx.dv 0 l : Nat) : Int)) (hp : tmps.getD p undef = .pointer (some ⟨w.heap.size, 0, none⟩)) (hv : tmps.getD v undef = .bool (Lx.nok l)) :
    bodyPost Tryz.prog fn (Lx.NumGave l w) .ret ⟨tmps, []⟩ ((((W.setCell ⟨w.heap.size, 0, none⟩ (.int .u8 (k : Int))).setCell ⟨w.heap.size, 1, none⟩ (.string (Lx.bs []))).setCell ⟨w.heap.size, 2, none⟩ (.int .i64 n)).setCell ⟨w.heap.size, 3, none⟩ (.int .i64 0)).drew := by
  obtain ⟨HA, HB⟩ := h.put (.int .u8 (k : Int)) (.string (Lx.bs [])) (.int .i64 n) (.int .i64 0)
  refine bodyPost_ret (results_row1L hr tmps _ w.heap.size 24 _ (0, 0) _ hp (show (World.drew _).heap[_]? = _ from HA) Tryz.underlying24 rfl infoTok) rfl ⟨HB.drew, k, n, ?_, hk⟩
  rw [hv]
  rfl
set_option maxHeartbeats 4000000 in
set_option maxRecDepth 100000 in
theorem rnumber_c (x : UInt8) (r : Lx.Bs) (hD : Lx.allD (x :: r) = true) (hl : (x :: r).length ≤ 140737488351232) (w : World) : Calls Tryz.prog 38 #[.string (Lx.bs (x :: r))] w (Lx.NumGave (x :: r) w) := by
  obtain ⟨w1, hw1⟩ : ∃ w1, w1 = w.alloc (.cells #[.int .u8 0, .string ⟨#[]⟩, .int .i64 0, .int .i64 0] 24) := ⟨_, rfl⟩
  have X1 : Hid (T4 w w1) := by rw [hw1]; exact T4.start w
  obtain ⟨l, hxl⟩ : ∃ l, l = x :: r := ⟨_, rfl⟩
  obtain ⟨s, hs⟩ : ∃ s, s = Lx.bs l := ⟨_, rfl⟩
  obtain ⟨n, hn⟩ : ∃ n : Int, n = (l.length : Int) := ⟨_, rfl⟩
  have hsz : (s.size : Int) = n := by rw [hs, Lx.bs_size, hn]
  have HNL : Hid (n = (l.length : Int)) := hn
  have HIX : Hid (∀ (k : Nat) (b : UInt8), l[k]? = some b → ∀ wx, (Instr.index 9 (.string s) (.int .i64 (k : Int))).run Tryz.prog wx = .ok (.int .u8 (b.toNat : Int)) wx) := fun k b hb wx => by rw [hs]; exact Lx.index_at l (k : Int) k b rfl hb wx
  rw [← hxl] at hD hl ⊢
  have HX : Hid (l = x :: r) := hxl
  have HD : Hid (Lx.allD l = true) := hD
  rw [← hs]
  clear hs hxl hD hn
  go_enter Tryz.func38, Tryz.ntmps38
  go_upto_region 1 with fail
  rw [← hw1]
  clear hw1
  go_wp2
  go_loopw [4, 5] (fun a i wr => ∃ j : Nat, j ≤ l.length ∧ i = .int .i64 (j : Int) ∧ a = .int .u64 ((Lx.dv 0 (l.take j) : Nat) : Int) ∧ Lx.dv 0 (l.take j) ≤ 9223372036854775807 ∧ wr = w1) (fun _ i _ => l.length - (intOf i).toNat)
  case atStart => exact ⟨0, Nat.zero_le _, rfl, rfl, Nat.zero_le _, rfl⟩
  case round =>
    obtain ⟨j, hj, rfl, rfl, hle, hwr⟩ := hrel
    subst hwr
    obtain ⟨a, ha⟩ : ∃ a, a = Lx.dv 0 (l.take j) := ⟨_, rfl⟩
    have HA : Hid (a = Lx.dv 0 (l.take j)) := ha
    rw [← ha] at hle ⊢
    clear ha
    obtain ⟨p0, p1, p2, p3, fz⟩ := X1.out.cells
    by_cases hlt : j < l.length
    · have q0 : (j : Int) < n := by rw [HNL.out]; omega
      have hw1 : wrap64 ((j : Int) + 1) = (j : Int) + 1 := by unfold wrap64; omega
      obtain ⟨c, hc⟩ : ∃ c, l[j]? = some c := ⟨_, List.getElem?_eq_getElem hlt⟩
      have hix := HIX.out j c hc
      obtain ⟨hc1, hc2⟩ := Lx.allD_at HD.out hc
      obtain ⟨d, hd⟩ : ∃ d, d = c.toNat - 48 := ⟨_, rfl⟩
      have hd9 : d ≤ 9 := by omega
      have e1 : IntKind.u8.wrap ((c.toNat : Int) - 48) = (d : Int) := by show ((c.toNat : Int) - 48) % 256 = _; omega
      obtain ⟨e2, e3⟩ := Lx.arO hd9
      obtain ⟨m, hm⟩ : ∃ m, a * 10 + d = m := ⟨_, rfl⟩
      have HMM : Hid (a * 10 + d = m) := hm
      have HM : Hid (m = Lx.dv 0 (l.take (j + 1))) := by show _ = _; rw [Lx.dv_at l j c hc, ← HA.out, ← hd, hm]
      by_cases hbig : m ≤ 9223372036854775807
      · obtain ⟨e4, e5, e6⟩ := Lx.arN hm hbig
        clear hm hd hc hc1 hc2
        go_wp2
        go_roundw
        case rel => exact ⟨j + 1, by omega, by go_num, by rw [← HM.out]; exact congrArg (Value.int .u64) (by have := HMM.out; omega), by rw [← HM.out]; exact hbig, trivial⟩
        case measure => simp [intOf]; omega
      · have e4 := Lx.arM (by rw [hm]; exact hbig)
        have HN : Hid (Lx.nok l = false) := by
          have h1 := Lx.dv_take_le l 0 (j + 1)
          rw [← HM.out] at h1
          show _ = _
          rw [Lx.nok, decide_eq_false (by omega)]; rfl
        clear hm hd hc hc1 hc2
        go_wp2
        exact tok_endN (k := 0) (n := 0) rfl X1.out (fun h => by rw [HN.out] at h; cases h) rfl (by rw [HN.out]; rfl)
    · have q0 : ¬ (j : Int) < n := by rw [HNL.out]; omega
      have HJ : Hid (a = Lx.dv 0 l) := by show _ = _; rw [HA.out, List.take_of_length_le (by omega)]
      have e7 := Lx.arP hle
      have hx0 : ∀ wx, (Instr.index 9 (.string s) (.int .i64 0)).run Tryz.prog wx = .ok (.int .u8 (x.toNat : Int)) wx := HIX.out 0 x (by rw [HX.out]; rfl)
      by_cases h1 : l.length = 1
      · have q1 : (n == 1) = true := by rw [HNL.out, h1]; rfl
        have HN : Hid (Lx.nok l = true) := by
          show _ = _
          rw [Lx.nok, decide_eq_true (by rw [← HJ.out]; exact hle), decide_eq_true h1]; rfl
        clear h1
        go_upto_region 9 with fail
        go_region
        all_goals go_wp2
        all_goals exact tok_endD (k := 3) (n := (a : Int)) rfl X1.out (fun _ => ⟨rfl, by rw [HJ.out]⟩) rfl (by rw [HN.out]; rfl)
      · have q1 : (n == 1) = false := by rw [beq_eq_false_iff_ne, HNL.out]; omega
        have HH : Hid (Lx.nok l = decide (l.head? ≠ some 48)) := by
          show _ = _
          rw [Lx.nok, decide_eq_true (by rw [← HJ.out]; exact hle), decide_eq_false h1]; simp
        clear h1
        by_cases h2 : x = 48
        · have q2 : ((x.toNat : Int) != 48) = false := by rw [h2]; rfl
          have HN : Hid (Lx.nok l = false) := by show _ = _; rw [HH.out, HX.out, h2]; rfl
          clear h2
          go_upto_region 9 with fail
          go_region
          all_goals go_wp2
          all_goals exact tok_endD (k := 3) (n := (a : Int)) rfl X1.out (fun h => by rw [HN.out] at h; cases h) rfl (by rw [HN.out]; rfl)
        · have q2 : ((x.toNat : Int) != 48) = true := by
            have : x.toNat ≠ 48 := fun e => h2 (by rw [← UInt8.toNat_inj]; exact e)
            simp; omega
          have HN : Hid (Lx.nok l = true) := by show _ = _; rw [HH.out, HX.out]; simp [h2]
          clear h2
          go_upto_region 9 with fail
          go_region
          all_goals go_wp2
          all_goals exact tok_endD (k := 3) (n := (a : Int)) rfl X1.out (fun _ => ⟨rfl, by rw [HJ.out]⟩) rfl (by rw [HN.out]; rfl)
end Go.Proofs.YtdejnphiejkglaaGreatDoor
