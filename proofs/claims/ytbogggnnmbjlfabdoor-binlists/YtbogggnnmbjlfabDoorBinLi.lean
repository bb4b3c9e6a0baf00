/- BinLists, walked. -/
import Derived.Test.YtbogggnnmbjlfabDoorBinQ
namespace Go.Proofs.YtbogggnnmbjlfabDoor
open Go.RowKit
open Vl (V)
/-- the list of two, and its box -/
structure OD (w0 W : World) (F G : Nat) (t u : V) (a0 a1 a2 a3 a4 a5 b0 b1 b2 b3 b4 b5 : Value) : Prop where
  below : Below w0.heap.size w0 W
  lt : F < W.heap.size
  row : Row6 W G (.int .u8 5) (.bool false) (.int .i64 0) (.string ⟨#[]⟩) (.slice (some ⟨F, 0, none⟩) 2 2) (.slice none 0 0)
  fld : W.heap[F]? = some (.cells #[a0, a1, a2, a3, a4, a5, b0, b1, b2, b3, b4, b5] 26 (0, 0))
  rep : Rep W w0.heap.size t (.agg #[a0, a1, a2, a3, a4, a5])
  rep2 : Rep W w0.heap.size u (.agg #[b0, b1, b2, b3, b4, b5])
theorem OD.call {w0 W W' : World} {F G : Nat} {t u : V} {a0 a1 a2 a3 a4 a5 b0 b1 b2 b3 b4 b5 : Value} (h : OD w0 W F G t u a0 a1 a2 a3 a4 a5 b0 b1 b2 b3 b4 b5) (b : Below W.heap.size W W') : OD w0 W' F G t u a0 a1 a2 a3 a4 a5 b0 b1 b2 b3 b4 b5 :=
  ⟨h.below.trans (b.mono h.below.size), Nat.lt_of_lt_of_le h.lt b.size, h.row.call b, (b.block F h.lt).trans h.fld, rep_stays (b.mono h.below.size) (Nat.le_refl _) t _ h.rep, rep_stays (b.mono h.below.size) (Nat.le_refl _) u _ h.rep2⟩
theorem OD.two {w0 W : World} {F G : Nat} {t u : V} {a0 a1 a2 a3 a4 a5 b0 b1 b2 b3 b4 b5 : Value} (h : OD w0 W F G t u a0 a1 a2 a3 a4 a5 b0 b1 b2 b3 b4 b5) : Rep W W.heap.size (Bn.two t u) (.agg #[.int .u8 5, .bool false, .int .i64 0, .string ⟨#[]⟩, .slice (some ⟨F, 0, none⟩) 2 2, .slice none 0 0]) := by
  have r1 := rep_stays (Below.refl w0.heap.size W) h.below.size t _ h.rep
  have r2 := rep_stays (Below.refl w0.heap.size W) h.below.size u _ h.rep2
  rw [Bn.two, Rep]
  refine ⟨some ⟨F, 0, none⟩, 2, none, 0, rfl, by omega, by omega, by decide, by simp [maxLen], by simp, fun _ => ⟨F, 0, rfl, h.lt, ?_⟩, fun h => by simp at h⟩
  rw [RepL, RepL, RepL]
  exact ⟨⟨a0, a1, a2, a3, a4, a5, ⟨block_cells h.fld 0 _ rfl, block_cells h.fld 1 _ rfl, block_cells h.fld 2 _ rfl, block_cells h.fld 3 _ rfl, block_cells h.fld 4 _ rfl, block_cells h.fld 5 _ rfl⟩, r1⟩,
    ⟨b0, b1, b2, b3, b4, b5, ⟨block_cells h.fld 6 _ rfl, block_cells h.fld 7 _ rfl, block_cells h.fld 8 _ rfl, block_cells h.fld 9 _ rfl, block_cells h.fld 10 _ rfl, block_cells h.fld 11 _ rfl⟩, r2⟩, trivial⟩
theorem OD.start {w0 W : World} {B C F G : Nat} {t u : V} {a0 a1 a2 a3 a4 a5 b0 b1 b2 b3 b4 b5 : Value} (h : OC w0 W B C t u a0 a1 a2 a3 a4 a5 b0 b1 b2 b3 b4 b5) (hF : F = W.heap.size) (hG : G = F + 1) :
    OD w0 ((W.alloc (.cells #[a0, a1, a2, a3, a4, a5, b0, b1, b2, b3, b4, b5] 26)).alloc (.cells #[.int .u8 5, .bool false, .int .i64 0, .string ⟨#[]⟩, .slice (some ⟨F, 0, none⟩) 2 2, .slice none 0 0] 26)) F G t u a0 a1 a2 a3 a4 a5 b0 b1 b2 b3 b4 b5 := by
  have hb : Below W.heap.size W ((W.alloc (.cells #[a0, a1, a2, a3, a4, a5, b0, b1, b2, b3, b4, b5] 26)).alloc (.cells #[.int .u8 5, .bool false, .int .i64 0, .string ⟨#[]⟩, .slice (some ⟨F, 0, none⟩) 2 2, .slice none 0 0] 26)) := (below_new _ _).trans ((below_new _ _).mono (by simp))
  have h' := h.call hb
  subst hF hG
  refine ⟨h'.below, by simp; omega, ⟨by simp, ?_⟩, (Below.heap_alloc _ _ _ (by simp)).trans (heap_alloc_new W _), h'.rep, h'.rep2⟩
  have := heap_alloc_new (W.alloc (.cells #[a0, a1, a2, a3, a4, a5, b0, b1, b2, b3, b4, b5] 26)) (.cells #[.int .u8 5, .bool false, .int .i64 0, .string ⟨#[]⟩, .slice (some ⟨W.heap.size, 0, none⟩) 2 2, .slice none 0 0] 26)
  simpa using this
set_option maxHeartbeats 8000000 in
set_option maxRecDepth 10000 in
theorem lists3 (t u : V) (w : World) (hT : Bn.HasU w) (v1 v2 : Value) (hR : Rep w w.heap.size t v1) (hR2 : Rep w w.heap.size u v2) :
    Calls Tryd.prog 3 #[v1, v2] w fun e w' => e = .returned (.bool true) ∧ Below w.heap.size w w' := by
  obtain ⟨xk, xb, xn, xs, xa, xl, xc, va, vl, vc, hv⟩ := repA_form (rep_repA t v1 hR)
  subst hv
  obtain ⟨yk, yb, yn, ys, ya, yl, yc, ua, ul, uc, hv⟩ := repA_form (rep_repA u v2 hR2)
  subst hv
  have HT : Hid (Bn.HasU w) := hT
  obtain ⟨B, hB⟩ : ∃ B, B = w.heap.size := ⟨_, rfl⟩
  obtain ⟨C, hC⟩ : ∃ C, C = B + 1 := ⟨_, rfl⟩
  obtain ⟨w1, hw1⟩ : ∃ w1, w1 = (w.alloc (.cells #[.int .u8 (xk : Int), .bool xb, .int .i64 xn, .string xs, .slice xa xl xc, .slice va vl vc] 26)).alloc (.cells #[.int .u8 (yk : Int), .bool yb, .int .i64 yn, .string ys, .slice ya yl yc, .slice ua ul uc] 26) := ⟨_, rfl⟩
  have O1 : Hid (OC w w1 B C t u (.int .u8 (xk : Int)) (.bool xb) (.int .i64 xn) (.string xs) (.slice xa xl xc) (.slice va vl vc) (.int .u8 (yk : Int)) (.bool yb) (.int .i64 yn) (.string ys) (.slice ya yl yc) (.slice ua ul uc)) := by
    show OC _ _ _ _ _ _ _ _ _ _ _ _ _ _ _ _ _ _
    rw [hw1, hC, hB]; exact OC.start w t u _ _ _ _ _ _ _ _ _ _ _ _ hR hR2
  have C6 : Hid (∀ W, Below w.heap.size w W → Calls Tryd.prog 6 #[] W fun e w' => e = .returned (.bool true) ∧ Below W.heap.size W w') := fun W hW => lives22 W (hT.stays hW)
  obtain ⟨we, hwe⟩ : ∃ we, we = Bn.werr t := ⟨_, rfl⟩
  obtain ⟨wt, hwt⟩ : ∃ wt, wt = Bn.wtext t := ⟨_, rfl⟩
  obtain ⟨xe, hxe⟩ : ∃ xe, xe = Bn.werr u := ⟨_, rfl⟩
  obtain ⟨xt, hxt⟩ : ∃ xt, xt = Bn.wtext u := ⟨_, rfl⟩
  obtain ⟨le, hle⟩ : ∃ le, le = Bn.werr (Bn.two t u) := ⟨_, rfl⟩
  obtain ⟨lt, hlt⟩ : ∃ lt, lt = Bn.wtext (Bn.two t u) := ⟨_, rfl⟩
  obtain ⟨c, hc⟩ : ∃ c, c = Vl.check Bn.u8 0 (Bn.two t u) := ⟨_, rfl⟩
  have C7 : Hid (∀ W, OC w W B C t u (.int .u8 (xk : Int)) (.bool xb) (.int .i64 xn) (.string xs) (.slice xa xl xc) (.slice va vl vc) (.int .u8 (yk : Int)) (.bool yb) (.int .i64 yn) (.string ys) (.slice ya yl yc) (.slice ua ul uc) → Calls Tryd.prog 7 #[.agg #[.int .u8 (xk : Int), .bool xb, .int .i64 xn, .string xs, .slice xa xl xc, .slice va vl vc]] W fun e w' => e = .returned (.tuple #[.string wt, .int .i64 (we : Int)]) ∧ Below W.heap.size W w') := fun W hW => by
    rw [hwe, hwt]
    exact write18 t W (hT.stays hW.below) w.heap.size _ hW.below.size hW.rep
  have D7 : Hid (∀ W, OC w W B C t u (.int .u8 (xk : Int)) (.bool xb) (.int .i64 xn) (.string xs) (.slice xa xl xc) (.slice va vl vc) (.int .u8 (yk : Int)) (.bool yb) (.int .i64 yn) (.string ys) (.slice ya yl yc) (.slice ua ul uc) → Calls Tryd.prog 7 #[.agg #[.int .u8 (yk : Int), .bool yb, .int .i64 yn, .string ys, .slice ya yl yc, .slice ua ul uc]] W fun e w' => e = .returned (.tuple #[.string xt, .int .i64 (xe : Int)]) ∧ Below W.heap.size W w') := fun W hW => by
    rw [hxe, hxt]
    exact write18 u W (hT.stays hW.below) w.heap.size _ hW.below.size hW.rep2
  have E7 : Hid (∀ F G W, OD w W F G t u (.int .u8 (xk : Int)) (.bool xb) (.int .i64 xn) (.string xs) (.slice xa xl xc) (.slice va vl vc) (.int .u8 (yk : Int)) (.bool yb) (.int .i64 yn) (.string ys) (.slice ya yl yc) (.slice ua ul uc) → Calls Tryd.prog 7 #[.agg #[.int .u8 5, .bool false, .int .i64 0, .string ⟨#[]⟩, .slice (some ⟨F, 0, none⟩) 2 2, .slice none 0 0]] W fun e w' => e = .returned (.tuple #[.string lt, .int .i64 (le : Int)]) ∧ Below W.heap.size W w') := fun F G W hW => by
    rw [hle, hlt]
    exact write18 (Bn.two t u) W (hT.stays hW.below) W.heap.size _ (Nat.le_refl _) hW.two
  have C8 : Hid (∀ F G W, OD w W F G t u (.int .u8 (xk : Int)) (.bool xb) (.int .i64 xn) (.string xs) (.slice xa xl xc) (.slice va vl vc) (.int .u8 (yk : Int)) (.bool yb) (.int .i64 yn) (.string ys) (.slice ya yl yc) (.slice ua ul uc) → Calls Tryd.prog 8 #[.agg #[.int .u8 5, .bool false, .int .i64 0, .string ⟨#[]⟩, .slice (some ⟨F, 0, none⟩) 2 2, .slice none 0 0]] W fun e w' => e = .returned (.int .i64 (c : Int)) ∧ Below W.heap.size W w') := fun F G W hW => by
    rw [hc]
    exact check27 (Bn.two t u) W (hT.stays hW.below) W.heap.size _ (Nat.le_refl _) hW.two
  have HBAD : Hid (we ≠ 0 ∨ xe ≠ 0 → le ≠ 0) := fun h => by rw [hle]; rw [hwe, hxe] at h; exact Bn.two_werr h
  have HIS : Hid (we = 0 → Bn.Is wt t) := fun h => by rw [hwt]; exact Bn.is_wrote (Bn.rep_rng t _ hR) (by rw [← hwe]; exact h)
  have HIX : Hid (xe = 0 → Bn.Is xt u) := fun h => by rw [hxt]; exact Bn.is_wrote (Bn.rep_rng u _ hR2) (by rw [← hxe]; exact h)
  have HLO : Hid (we = 0 → xe = 0 → le ≠ 0 → c = 0 → 16384 < wt.size + xt.size + 2) := fun h1 h2 h3 h4 => by
    have i1 := HIS.out h1
    have i2 := HIX.out h2
    rw [hc] at h4
    have hl : 16384 < (Bn.bytes (Bn.two t u)).length := Decidable.byContradiction fun hn => h3 (by rw [hle]; exact (Bn.werr_ok h4 hn).1)
    rw [Bn.two_bytes, List.length_cons, List.length_cons, List.length_append, ← i1.2.2.1, ← i2.2.2.1, ← Lib.size_eq, ← Lib.size_eq] at hl
    omega
  have HOK : Hid (we = 0 → xe = 0 → le = 0 → lt = (⟨#[6, 2]⟩ ++ wt) ++ xt) := fun h1 h2 h3 => by
    have i1 := HIS.out h1
    have i2 := HIX.out h2
    rw [hle] at h3
    have hc0 : Vl.check Bn.u8 0 (Bn.two t u) = 0 := Decidable.byContradiction fun hn => by
      have := (Bn.werr_why hn).1
      omega
    have hl : ¬ 16384 < (Bn.bytes (Bn.two t u)).length := fun hn => by
      have := (Bn.werr_long hc0 hn).1
      omega
    rw [hlt, (Bn.werr_ok hc0 hl).2]
    apply Bn.data_ext
    rw [ByteArray.data_append, ByteArray.data_append, Array.toList_append, Array.toList_append, i1.2.2.1, i2.2.2.1, Bn.two_bytes]
    rfl
  have HSZ : Hid (we = 0 → xe = 0 → wt.size ≤ 16384 ∧ xt.size ≤ 16384) := fun h1 h2 => ⟨(HIS.out h1).1, (HIX.out h2).1⟩
  clear hR hR2 hT hwe hwt hxe hxt hle hlt hc HIS HIX
  go_enter Tryd.func3, Tryd.ntmps3
  go_upto_region 1 with fail
  rw [← hB, ← hC, ← hw1]
  clear hB hC hw1
  obtain ⟨p0, p1, p2, p3, p4, p5⟩ := O1.out.row.cells
  go_upto_region 4 with (first
    | (go_at_call 6; refine (C6.out _ O1.out.below).mono ?_; rintro e w2 ⟨rfl, hb2⟩
       have O2 : Hid (OC w w2 B C t u (.int .u8 (xk : Int)) (.bool xb) (.int .i64 xn) (.string xs) (.slice xa xl xc) (.slice va vl vc) (.int .u8 (yk : Int)) (.bool yb) (.int .i64 yn) (.string ys) (.slice ya yl yc) (.slice ua ul uc)) := O1.out.call hb2
       obtain ⟨p0, p1, p2, p3, p4, p5⟩ := O2.out.row.cells
       clear hb2)
    | (go_at_call 7; refine (C7.out _ O2.out).mono ?_; rintro e w3 ⟨rfl, hb3⟩
       have O3 : Hid (OC w w3 B C t u (.int .u8 (xk : Int)) (.bool xb) (.int .i64 xn) (.string xs) (.slice xa xl xc) (.slice va vl vc) (.int .u8 (yk : Int)) (.bool yb) (.int .i64 yn) (.string ys) (.slice ya yl yc) (.slice ua ul uc)) := O2.out.call hb3
       clear hb3))
  clear p0 p1 p2 p3 p4 p5 O1 O2
  obtain ⟨p0, p1, p2, p3, p4, p5⟩ := O3.out.row2.cells
  go_upto_region 5 with (first
    | (go_at_call 7; refine (D7.out _ O3.out).mono ?_; rintro e w4 ⟨rfl, hb4⟩
       have O4 : Hid (OC w w4 B C t u (.int .u8 (xk : Int)) (.bool xb) (.int .i64 xn) (.string xs) (.slice xa xl xc) (.slice va vl vc) (.int .u8 (yk : Int)) (.bool yb) (.int .i64 yn) (.string ys) (.slice ya yl yc) (.slice ua ul uc)) := O3.out.call hb4
       clear hb4))
  clear p0 p1 p2 p3 p4 p5 O3
  obtain ⟨p0, p1, p2, p3, p4, p5⟩ := O4.out.row.cells
  obtain ⟨q0, q1, q2, q3, q4, q5⟩ := O4.out.row2.cells
  go_upto_region 6 with fail
  obtain ⟨F, hF⟩ : ∃ F, F = w4.heap.size := ⟨_, rfl⟩
  obtain ⟨G, hG⟩ : ∃ G, G = F + 1 := ⟨_, rfl⟩
  obtain ⟨w5, hw5⟩ : ∃ w5, w5 = (w4.alloc (.cells #[.int .u8 (xk : Int), .bool xb, .int .i64 xn, .string xs, .slice xa xl xc, .slice va vl vc, .int .u8 (yk : Int), .bool yb, .int .i64 yn, .string ys, .slice ya yl yc, .slice ua ul uc] 26)).alloc (.cells #[.int .u8 5, .bool false, .int .i64 0, .string ⟨#[]⟩, .slice (some ⟨F, 0, none⟩) 2 2, .slice none 0 0] 26) := ⟨_, rfl⟩
  have P5 : Hid (OD w w5 F G t u (.int .u8 (xk : Int)) (.bool xb) (.int .i64 xn) (.string xs) (.slice xa xl xc) (.slice va vl vc) (.int .u8 (yk : Int)) (.bool yb) (.int .i64 yn) (.string ys) (.slice ya yl yc) (.slice ua ul uc)) := by
    show OD _ _ _ _ _ _ _ _ _ _ _ _ _ _ _ _ _ _
    rw [hw5]; exact OD.start O4.out hF hG
  rw [← hF, ← hG, ← hw5]
  clear hF hG hw5 p0 p1 p2 p3 p4 p5 q0 q1 q2 q3 q4 q5 O4
  obtain ⟨p0, p1, p2, p3, p4, p5⟩ := P5.out.row.cells
  go_upto_region 7 with (first
    | (go_at_call 7; refine (E7.out _ _ _ P5.out).mono ?_; rintro e w6 ⟨rfl, hb6⟩
       have P6 : Hid (OD w w6 F G t u (.int .u8 (xk : Int)) (.bool xb) (.int .i64 xn) (.string xs) (.slice xa xl xc) (.slice va vl vc) (.int .u8 (yk : Int)) (.bool yb) (.int .i64 yn) (.string ys) (.slice ya yl yc) (.slice ua ul uc)) := P5.out.call hb6
       clear hb6))
  clear p0 p1 p2 p3 p4 p5 P5
  obtain ⟨p0, p1, p2, p3, p4, p5⟩ := P6.out.row.cells
  by_cases h1 : we = 0
  · by_cases h2 : xe = 0
    · obtain ⟨z1, z2⟩ := HSZ.out h1 h2
      by_cases h3 : le = 0
      · have hlt := HOK.out h1 h2 h3
        have HLT : Hid (lt = (⟨#[6, 2]⟩ ++ wt) ++ xt) := hlt
        subst h1 h2 h3
        have s62 : (⟨#[6, 2]⟩ : ByteArray).size = 2 := rfl
        have ct1 : ¬ 9223372036854775807 < (⟨#[6, 2]⟩ : ByteArray).size + wt.size := by rw [s62]; omega
        have ct2 : ¬ 9223372036854775807 < ((⟨#[6, 2]⟩ : ByteArray) ++ wt).size + xt.size := by rw [ByteArray.size_append, s62]; omega
        clear HBAD HLO HOK HSZ z1 z2 hlt
        have hq : (lt.toList == ((⟨#[6, 2]⟩ ++ wt) ++ xt).toList) = true := by rw [HLT.out]; simp
        go_wp2
        go_ret
        first
          | exact ⟨rfl, P6.out.below⟩
          | exact ⟨congrArg (fun z => Ending.returned (Value.bool z)) hq, P6.out.below⟩
      · by_cases h4 : c = 0
        · have hlo := HLO.out h1 h2 h3 h4
          obtain ⟨ka, hka⟩ : ∃ ka, ka = wt.size := ⟨_, rfl⟩
          obtain ⟨kb, hkb⟩ : ∃ kb, kb = xt.size := ⟨_, rfl⟩
          obtain ⟨x, hx⟩ : ∃ x, x = ka + kb := ⟨_, rfl⟩
          obtain ⟨y, hy⟩ : ∃ y, y = x + 2 := ⟨_, rfl⟩
          have e5 : (16384 : Int) < (y : Int) := by omega
          have e1 : (wt.size : Int) = (ka : Int) := by omega
          have e2 : (xt.size : Int) = (kb : Int) := by omega
          have e3 : wrap64 ((ka : Int) + (kb : Int)) = (x : Int) := by unfold wrap64; omega
          have e4 : wrap64 ((x : Int) + 2) = (y : Int) := by unfold wrap64; omega
          have h3' : ¬ (le : Int) = 0 := by omega
          subst h1 h2 h4
          clear HBAD HLO HOK HSZ z1 z2 hlo hka hkb hx hy h3
          go_wp2_with (first
            | (go_at_call 8; refine (C8.out _ _ _ P6.out).mono ?_; rintro e w7 ⟨rfl, hb7⟩
               have B7 : Hid (Below w.heap.size w w7) := P6.out.below.trans (hb7.mono P6.out.below.size)
               clear hb7))
          go_ret
          exact ⟨rfl, B7.out⟩
        · have h4' : ¬ (c : Int) = 0 := by omega
          have h3' : ¬ (le : Int) = 0 := by omega
          subst h1 h2
          clear HBAD HLO HOK HSZ z1 z2 h3 h4
          go_wp2_with (first
            | (go_at_call 8; refine (C8.out _ _ _ P6.out).mono ?_; rintro e w7 ⟨rfl, hb7⟩
               have B7 : Hid (Below w.heap.size w w7) := P6.out.below.trans (hb7.mono P6.out.below.size)
               clear hb7))
          go_ret
          exact ⟨rfl, B7.out⟩
    · have h3' : ¬ (le : Int) = 0 := by have := HBAD.out (Or.inr h2); omega
      have h2' : ¬ (xe : Int) = 0 := by omega
      subst h1
      clear HBAD HLO HOK HSZ h2
      go_wp2
      go_ret
      exact ⟨congrArg (fun z => Ending.returned (Value.bool z)) (show ((le : Int) != 0) = true by simpa using h3'), P6.out.below⟩
  · have h3' : ¬ (le : Int) = 0 := by have := HBAD.out (Or.inl h1); omega
    have h1' : ¬ (we : Int) = 0 := by omega
    clear HBAD HLO HOK HSZ h1
    go_wp2
    go_ret
    exact ⟨congrArg (fun z => Ending.returned (Value.bool z)) (show ((le : Int) != 0) = true by simpa using h3'), P6.out.below⟩
end Go.Proofs.YtbogggnnmbjlfabDoor
