/- The cursor's value, walked, given what reading parts does. -/
import Derived.Test.YtcoaipcgpfpfiaaGreatDoorJEM
namespace Go.Proofs.YtcoaipcgpfpfiaaGreatDoor
open Go.RowKit
open Vl (V)
set_option maxHeartbeats 8000000 in
set_option maxRecDepth 10000 in
theorem value46_one (c : Nat) (s : ByteArray) (bad : Bool) (hs : s.size ≤ 65536) (hbad : bad = true → s = ⟨#[]⟩) (w : World) (h : Cur c s bad w)
    (CL : ∀ s1 W B v, s1.size < s.size → LSv w W c B v (.slice none 0 0) [] → Cur c s1 false W → Calls Tryz.prog 54 #[.pointer (some ⟨c, 0, none⟩), .func (.func 55) #[] #[.pointer (some ⟨v, 0, none⟩), .pointer (some ⟨B, 0, none⟩)]] W fun e w' => e = .returned (.tuple #[]) ∧ ∃ l lv s' bad', LSv w w' c B v lv l ∧ l.length ≤ 65 ∧ Cur c s' bad' w' ∧ PL s1 l s' bad')
    (CF : ∀ s1 W B v, s1.size < s.size → FSt w W c B v (.slice none 0 0) [] → Cur c s1 false W → Calls Tryz.prog 54 #[.pointer (some ⟨c, 0, none⟩), .func (.func 56) #[] #[.pointer (some ⟨v, 0, none⟩), .pointer (some ⟨B, 0, none⟩)]] W fun e w' => e = .returned (.tuple #[]) ∧ ∃ l lv s' bad', FSt w w' c B v lv l ∧ l.length ≤ 65 ∧ Cur c s' bad' w' ∧ QF s1 l s' bad') :
    Calls Tryz.prog 22 #[.pointer (some ⟨c, 0, none⟩)] w (Gave s c w) := by
  obtain ⟨B, hB⟩ : ∃ B, B = w.heap.size := ⟨_, rfl⟩
  obtain ⟨w1, hw1⟩ : ∃ w1, w1 = (w.alloc (.cells #[.pointer (some ⟨c, 0, none⟩)] 113)).alloc (.cells #[.int .u8 0, .bool false, .int .i64 0, .string ⟨#[]⟩, .slice none 0 0, .slice none 0 0] 28) := ⟨_, rfl⟩
  have V1 : Hid (VS w w1 c B) := by show VS _ _ _ _; rw [hw1, hB]; exact VS.start w c h.lt
  have H1 : Hid (Cur c s bad w1) := h.call (by rw [hw1]; exact (below_new _ _).trans ((below_new _ _).mono (by simp)))
  have C78 : Hid (Calls Tryz.prog 50 #[.pointer (some ⟨c, 0, none⟩), .int .u64 1] w1 fun e w' => Curw c w1 w' ∧ ((s.size < 1 ∧ e = .returned (.string ⟨#[]⟩) ∧ Cur c ⟨#[]⟩ true w') ∨ (1 ≤ s.size ∧ e = .returned (.string (s.extract 0 1)) ∧ Cur c (s.extract 1 s.size) bad w'))) := take78 c s (by omega) bad 1 (by omega) w1 H1.out
  obtain ⟨K, hK⟩ : ∃ K, K = Gave s c w := ⟨_, rfl⟩
  have HK : Hid (K = Gave s c w) := hK
  rw [← hK]
  have b1 := block_cells V1.out.box 0 _ rfl
  by_cases h0 : s.size = 0
  · have D78 : Hid (Calls Tryz.prog 50 #[.pointer (some ⟨c, 0, none⟩), .int .u64 1] w1 fun e w' => Curw c w1 w' ∧ e = .returned (.string ⟨#[]⟩) ∧ Cur c ⟨#[]⟩ true w') := C78.out.mono (fun e w' ⟨k1, k2⟩ => by
      rcases k2 with ⟨_, k3, k4⟩ | ⟨k3, _⟩
      · exact ⟨k1, k3, k4⟩
      · omega)
    have HP : Hid (PV s ⟨0, false, 0, ⟨#[]⟩, [], []⟩ ⟨#[]⟩ true) := Or.inr ⟨rfl, rfl, by rw [Vl.size_zero h0]; exact Bn.noV_nil⟩
    clear CL CF h hs hbad C78 hK
    go_enter Tryz.func22, Tryz.ntmps22
    go_upto_region 1 with fail
    rw [← hw1, ← hB]
    clear hw1 hB
    go_wp2_with (first
      | (go_at_call 50; refine D78.out.mono ?_; rintro e w2 ⟨k1, rfl, h1⟩
         have V2 : Hid (VS w w2 c B) := V1.out.call k1
         have H2 : Hid (Cur c ⟨#[]⟩ true w2) := h1
         have b2 := block_cells V2.out.box 0 _ rfl
         have c2 := h1.cells.2.1
         obtain ⟨q0, q1, q2, q3, q4, q5⟩ := Row6.cells V2.out.res
         have fz := Row6.free V2.out.res
         clear k1 h1))
    have F := V2.out.fin (repA_flat w2 _ 0 false 0 ⟨#[]⟩ (by omega) (by omega) (by decide)) H2.out HP.out
    rw [sets6]
    exact bodyPost_ret (v := .agg #[.int .u8 0, .bool false, .int .i64 0, .string ⟨#[]⟩, .slice none 0 0, .slice none 0 0]) (results_cell_row rfl _ _ (B + 1) 28 #[.int .u8 0, .bool false, .int .i64 0, .string ⟨#[]⟩, .slice none 0 0, .slice none 0 0] (0, 0) _ rfl F.1 Tryz.underlying28 rfl infoVal) rfl (by rw [HK.out]; exact F.2)
  · obtain rfl : bad = false := by
      cases bad with
      | false => rfl
      | true => exact absurd (by rw [hbad rfl]; rfl) h0
    obtain ⟨b, hb, hf1⟩ := Bn.split1 h0
    obtain ⟨f, hf⟩ : ∃ f, f = s.extract 0 1 := ⟨_, rfl⟩
    obtain ⟨s1, hs1⟩ : ∃ s1, s1 = s.extract 1 s.size := ⟨_, rfl⟩
    rw [← hs1] at hb
    rw [← hf] at hf1
    have D78 : Hid (Calls Tryz.prog 50 #[.pointer (some ⟨c, 0, none⟩), .int .u64 1] w1 fun e w' => Curw c w1 w' ∧ e = .returned (.string f) ∧ Cur c s1 false w') := C78.out.mono (fun e w' ⟨k1, k2⟩ => by
      rcases k2 with ⟨k3, _⟩ | ⟨_, k3, k4⟩
      · omega
      · rw [hf, hs1]; exact ⟨k1, k3, k4⟩)
    have hfs : f.size = 1 := by rw [Lib.size_eq, hf1]; rfl
    obtain ⟨bN, hbN⟩ : ∃ bN, bN = b.toNat := ⟨_, rfl⟩
    have IX : ∀ wx, (Instr.index 9 (.string f) (.int .i64 0)).run Tryz.prog wx = .ok (.int .u8 (bN : Int)) wx := fun wx => by
      rw [Bn.index_byte f 0 (by omega) (by omega) wx, hf1, hbN]; rfl
    have HSB : Hid (s.data.toList = b :: s1.data.toList) := hb
    have hlt1 : s1.size < s.size := by rw [Lib.size_eq, Lib.size_eq, hb, List.length_cons]; omega
    have C80 : Hid (∀ W, Cur c s1 false W → Calls Tryz.prog 52 #[.pointer (some ⟨c, 0, none⟩)] W fun e w' => Curw c W w' ∧ ∃ (n : Nat) (s' : ByteArray) (bad' : Bool), n < 18446744073709551616 ∧ e = .returned (.int .u64 (n : Int)) ∧ Cur c s' bad' w' ∧
      ((s1.data.toList = Bn.num n ++ s'.data.toList ∧ bad' = false) ∨ (n = 0 ∧ s' = ⟨#[]⟩ ∧ bad' = true ∧ Bn.noNum s1.data.toList))) := fun W hW => number80 c s1 (by omega) false W hW
    have C81 : Hid (∀ W, Cur c s1 false W → Calls Tryz.prog 53 #[.pointer (some ⟨c, 0, none⟩)] W fun e w' => Curw c W w' ∧ ∃ (t s' : ByteArray) (bad' : Bool), t.size ≤ 65536 ∧ e = .returned (.string t) ∧ Cur c s' bad' w' ∧
      ((s1.data.toList = Bn.text t ++ s'.data.toList ∧ bad' = false) ∨ (s' = ⟨#[]⟩ ∧ bad' = true ∧ Bn.noText s1.data.toList))) := fun W hW => text81 c s1 (by omega) false W hW
    have DL : Hid (∀ W B v, LSv w W c B v (.slice none 0 0) [] → Cur c s1 false W → Calls Tryz.prog 54 #[.pointer (some ⟨c, 0, none⟩), .func (.func 55) #[] #[.pointer (some ⟨v, 0, none⟩), .pointer (some ⟨B, 0, none⟩)]] W fun e w' => e = .returned (.tuple #[]) ∧ ∃ l lv s' bad', LSv w w' c B v lv l ∧ l.length ≤ 65 ∧ Cur c s' bad' w' ∧ PL s1 l s' bad') := fun W B v => CL s1 W B v hlt1
    have DF : Hid (∀ W B v, FSt w W c B v (.slice none 0 0) [] → Cur c s1 false W → Calls Tryz.prog 54 #[.pointer (some ⟨c, 0, none⟩), .func (.func 56) #[] #[.pointer (some ⟨v, 0, none⟩), .pointer (some ⟨B, 0, none⟩)]] W fun e w' => e = .returned (.tuple #[]) ∧ ∃ l lv s' bad', FSt w w' c B v lv l ∧ l.length ≤ 65 ∧ Cur c s' bad' w' ∧ QF s1 l s' bad') := fun W B v => CF s1 W B v hlt1
    have HBN : Hid (bN = b.toNat) := hbN
    have HB8 : bN < 256 := by rw [hbN]; exact UInt8.toNat_lt b
    clear CL CF h hs hbad C78 hK hf hs1 hlt1 hb hbN hf1 h0 H1
    go_enter Tryz.func22, Tryz.ntmps22
    go_upto_region 1 with fail
    rw [← hw1, ← hB]
    have HBW : Hid (B = w.heap.size) := hB
    clear hw1 hB
    go_upto_region 5 with (first
      | (go_at_call 50; refine D78.out.mono ?_; rintro e w2 ⟨k1, rfl, h1⟩
         have V2 : Hid (VS w w2 c B) := V1.out.call k1
         have H2 : Hid (Cur c s1 false w2) := h1
         have b2 := block_cells V2.out.box 0 _ rfl
         have c2 := h1.cells.2.1
         obtain ⟨q0, q1, q2, q3, q4, q5⟩ := Row6.cells V2.out.res
         have fz := Row6.free V2.out.res
         clear k1 h1))
    clear IX
    have hcase : bN = 0 ∨ bN = 1 ∨ bN = 2 ∨ bN = 3 ∨ bN = 4 ∨ bN = 5 ∨ bN = 6 ∨ bN = 7 ∨ 8 ≤ bN := by omega
    rcases hcase with rfl | rfl | rfl | rfl | rfl | rfl | rfl | rfl | h8
    · have F := V2.out.fin (repA_flat w2 _ 0 false 0 ⟨#[]⟩ (by omega) (by omega) (by decide)) H2.out (PV.zero HSB.out HBN.out.symm)
      have HF : Hid _ := F
      clear F
      go_wp2
      have F := HF.out
      rw [sets6]
      exact bodyPost_ret (v := .agg #[.int .u8 0, .bool false, .int .i64 0, .string ⟨#[]⟩, .slice none 0 0, .slice none 0 0]) (results_cell_row rfl _ _ (B + 1) 28 #[.int .u8 0, .bool false, .int .i64 0, .string ⟨#[]⟩, .slice none 0 0, .slice none 0 0] (0, 0) _ rfl F.1 Tryz.underlying28 rfl infoVal) rfl (by rw [HK.out]; exact F.2)
    · have F := V2.out.fin (repA_flat w2 _ 1 false 0 ⟨#[]⟩ (by omega) (by omega) (by decide)) H2.out (PV.no HSB.out HBN.out.symm)
      have HF : Hid _ := F
      clear F
      go_wp2
      have F := HF.out
      rw [sets6]
      exact bodyPost_ret (v := .agg #[.int .u8 1, .bool false, .int .i64 0, .string ⟨#[]⟩, .slice none 0 0, .slice none 0 0]) (results_cell_row rfl _ _ (B + 1) 28 #[.int .u8 1, .bool false, .int .i64 0, .string ⟨#[]⟩, .slice none 0 0, .slice none 0 0] (0, 0) _ rfl F.1 Tryz.underlying28 rfl infoVal) rfl (by rw [HK.out]; exact F.2)
    · have F := V2.out.fin (repA_flat w2 _ 1 true 0 ⟨#[]⟩ (by omega) (by omega) (by decide)) H2.out (PV.yes HSB.out HBN.out.symm)
      have HF : Hid _ := F
      clear F
      go_wp2
      have F := HF.out
      rw [sets6]
      exact bodyPost_ret (v := .agg #[.int .u8 1, .bool true, .int .i64 0, .string ⟨#[]⟩, .slice none 0 0, .slice none 0 0]) (results_cell_row rfl _ _ (B + 1) 28 #[.int .u8 1, .bool true, .int .i64 0, .string ⟨#[]⟩, .slice none 0 0, .slice none 0 0] (0, 0) _ rfl F.1 Tryz.underlying28 rfl infoVal) rfl (by rw [HK.out]; exact F.2)
    · go_wp2_with (first
        | (go_at_call 52; refine (C80.out _ H2.out).mono ?_; rintro e w3 ⟨k1, n, s2, b3, hn, rfl, h1, h2⟩
           have V3 : Hid (VS w w3 c B) := V2.out.call k1
           have H3 : Hid (Cur c s2 b3 w3) := h1
           have HP : Hid (PV s ⟨2, false, Bn.zag n, ⟨#[]⟩, [], []⟩ s2 b3) := PV.int hn HSB.out HBN.out.symm h2
           have HN : Hid (n < 18446744073709551616) := hn
           obtain ⟨q0, q1, q2, q3, q4, q5⟩ := Row6.cells V3.out.res
           have fz := Row6.free V3.out.res
           clear k1 h1 h2 hn)
        | (go_at_call 51; refine (unfolded79 n HN.out _).mono ?_; rintro e w4 ⟨rfl, rfl⟩))
      have hz := (Bn.zag_fold HN.out).2
      have F := V3.out.fin (repA_flat _ _ 2 false (Bn.zag n) ⟨#[]⟩ (by omega) (by omega) (by decide)) H3.out HP.out
      rw [sets6]
      exact bodyPost_ret (v := .agg #[.int .u8 2, .bool false, .int .i64 (Bn.zag n), .string ⟨#[]⟩, .slice none 0 0, .slice none 0 0]) (results_cell_row rfl _ _ (B + 1) 28 #[.int .u8 2, .bool false, .int .i64 (Bn.zag n), .string ⟨#[]⟩, .slice none 0 0, .slice none 0 0] (0, 0) _ rfl F.1 Tryz.underlying28 rfl infoVal) rfl (by rw [HK.out]; exact F.2)
    · go_wp2_with (first
        | (go_at_call 53; refine (C81.out _ H2.out).mono ?_; rintro e w3 ⟨k1, t, s2, b3, ht, rfl, h1, h2⟩
           have V3 : Hid (VS w w3 c B) := V2.out.call k1
           have H3 : Hid (Cur c s2 b3 w3) := h1
           have HP : Hid (PV s ⟨3, false, 0, t, [], []⟩ s2 b3) := PV.text (by omega) ht HSB.out HBN.out.symm h2
           have HT : Hid (t.size ≤ 65536) := ht
           obtain ⟨q0, q1, q2, q3, q4, q5⟩ := Row6.cells V3.out.res
           have fz := Row6.free V3.out.res
           clear k1 h1 h2 ht))
      have F := V3.out.fin (repA_flat w3 _ 3 false 0 t (by omega) (by omega) (by have := HT.out; unfold maxLen; omega)) H3.out HP.out
      rw [sets6]
      exact bodyPost_ret (v := .agg #[.int .u8 3, .bool false, .int .i64 0, .string t, .slice none 0 0, .slice none 0 0]) (results_cell_row rfl _ _ (B + 1) 28 #[.int .u8 3, .bool false, .int .i64 0, .string t, .slice none 0 0, .slice none 0 0] (0, 0) _ rfl F.1 Tryz.underlying28 rfl infoVal) rfl (by rw [HK.out]; exact F.2)
    · go_wp2_with (first
        | (go_at_call 53; refine (C81.out _ H2.out).mono ?_; rintro e w3 ⟨k1, t, s2, b3, ht, rfl, h1, h2⟩
           have V3 : Hid (VS w w3 c B) := V2.out.call k1
           have H3 : Hid (Cur c s2 b3 w3) := h1
           have HP : Hid (PV s ⟨4, false, 0, t, [], []⟩ s2 b3) := PV.text (by omega) ht HSB.out HBN.out.symm h2
           have HT : Hid (t.size ≤ 65536) := ht
           obtain ⟨q0, q1, q2, q3, q4, q5⟩ := Row6.cells V3.out.res
           have fz := Row6.free V3.out.res
           clear k1 h1 h2 ht))
      have F := V3.out.fin (repA_flat w3 _ 4 false 0 t (by omega) (by omega) (by have := HT.out; unfold maxLen; omega)) H3.out HP.out
      rw [sets6]
      exact bodyPost_ret (v := .agg #[.int .u8 4, .bool false, .int .i64 0, .string t, .slice none 0 0, .slice none 0 0]) (results_cell_row rfl _ _ (B + 1) 28 #[.int .u8 4, .bool false, .int .i64 0, .string t, .slice none 0 0, .slice none 0 0] (0, 0) _ rfl F.1 Tryz.underlying28 rfl infoVal) rfl (by rw [HK.out]; exact F.2)
    · go_upto_region 19 with fail
      obtain ⟨v, hv⟩ : ∃ v, v = w2.heap.size := ⟨_, rfl⟩
      obtain ⟨w3, hw3⟩ : ∃ w3, w3 = w2.alloc (.cells #[.int .u8 5, .bool false, .int .i64 0, .string ⟨#[]⟩, .slice none 0 0, .slice none 0 0] 28) := ⟨_, rfl⟩
      have S3 : Hid (LSv w w3 c B v (.slice none 0 0) []) := LSv.start V2.out hv (by rw [hw3, hv]; simp) (by rw [hw3]; exact below_new _ _) (by rw [hw3, hv]; exact heap_alloc_new w2 _)
      have H3 : Hid (Cur c s1 false w3) := H2.out.call (by rw [hw3]; exact below_new _ _)
      rw [← hv, ← hw3]
      clear hv hw3 q0 q1 q2 q3 q4 q5 fz b2 c2 b1
      have b3 := block_cells S3.out.box 0 _ rfl
      go_wp2_with (first
        | (go_at_call 54; refine (DL.out _ _ _ S3.out H3.out).mono ?_; rintro e w4 ⟨rfl, l, lv, s2, b4, h1, hl, h2, h3⟩
           obtain ⟨ao, lc, rfl, hr⟩ := h1.rep hl
           have V4 : Hid (VS w w4 c B) := VS.list h1 HBW.out
           have H4 : Hid (Cur c s2 b4 w4) := h2
           have HP : Hid (PV s ⟨5, false, 0, ⟨#[]⟩, l, []⟩ s2 b4) := PV.list HSB.out HBN.out.symm h3
           have HR : Hid (RepA w4 (fun g => B + 1 < g ∧ g < w4.heap.size) ⟨5, false, 0, ⟨#[]⟩, l, []⟩ (.agg #[.int .u8 5, .bool false, .int .i64 0, .string ⟨#[]⟩, .slice ao l.length lc, .slice none 0 0])) := hr
           obtain ⟨p0, p1, p2, p3, p4, p5⟩ := h1.row.cells
           obtain ⟨q0, q1, q2, q3, q4, q5⟩ := Row6.cells h1.res
           have fz := Row6.free h1.res
           clear h1 h2 h3 hr hl))
      have F := V4.out.fin HR.out H4.out HP.out
      rw [sets6]
      exact bodyPost_ret (v := .agg #[.int .u8 5, .bool false, .int .i64 0, .string ⟨#[]⟩, .slice ao l.length lc, .slice none 0 0]) (results_cell_row rfl _ _ (B + 1) 28 #[.int .u8 5, .bool false, .int .i64 0, .string ⟨#[]⟩, .slice ao l.length lc, .slice none 0 0] (0, 0) _ rfl F.1 Tryz.underlying28 rfl infoVal) rfl (by rw [HK.out]; exact F.2)
    · go_upto_region 23 with fail
      obtain ⟨v, hv⟩ : ∃ v, v = w2.heap.size := ⟨_, rfl⟩
      obtain ⟨w3, hw3⟩ : ∃ w3, w3 = w2.alloc (.cells #[.int .u8 6, .bool false, .int .i64 0, .string ⟨#[]⟩, .slice none 0 0, .slice none 0 0] 28) := ⟨_, rfl⟩
      have S3 : Hid (FSt w w3 c B v (.slice none 0 0) []) := FSt.start V2.out hv (by rw [hw3, hv]; simp) (by rw [hw3]; exact below_new _ _) (by rw [hw3, hv]; exact heap_alloc_new w2 _)
      have H3 : Hid (Cur c s1 false w3) := H2.out.call (by rw [hw3]; exact below_new _ _)
      rw [← hv, ← hw3]
      clear hv hw3 q0 q1 q2 q3 q4 q5 fz b2 c2 b1
      have b3 := block_cells S3.out.box 0 _ rfl
      go_wp2_with (first
        | (go_at_call 54; refine (DF.out _ _ _ S3.out H3.out).mono ?_; rintro e w4 ⟨rfl, l, lv, s2, b4, h1, hl, h2, h3⟩
           obtain ⟨ao, lc, rfl, hr⟩ := h1.rep hl
           have V4 : Hid (VS w w4 c B) := VS.struct h1 HBW.out
           have H4 : Hid (Cur c s2 b4 w4) := h2
           have HP : Hid (PV s ⟨6, false, 0, ⟨#[]⟩, [], l⟩ s2 b4) := PV.struct HSB.out HBN.out.symm h3
           have HR : Hid (RepA w4 (fun g => B + 1 < g ∧ g < w4.heap.size) ⟨6, false, 0, ⟨#[]⟩, [], l⟩ (.agg #[.int .u8 6, .bool false, .int .i64 0, .string ⟨#[]⟩, .slice none 0 0, .slice ao l.length lc])) := hr
           obtain ⟨p0, p1, p2, p3, p4, p5⟩ := h1.row.cells
           obtain ⟨q0, q1, q2, q3, q4, q5⟩ := Row6.cells h1.res
           have fz := Row6.free h1.res
           clear h1 h2 h3 hr hl))
      have F := V4.out.fin HR.out H4.out HP.out
      rw [sets6]
      exact bodyPost_ret (v := .agg #[.int .u8 6, .bool false, .int .i64 0, .string ⟨#[]⟩, .slice none 0 0, .slice ao l.length lc]) (results_cell_row rfl _ _ (B + 1) 28 #[.int .u8 6, .bool false, .int .i64 0, .string ⟨#[]⟩, .slice none 0 0, .slice ao l.length lc] (0, 0) _ rfl F.1 Tryz.underlying28 rfl infoVal) rfl (by rw [HK.out]; exact F.2)
    · have C86 : Hid (Calls Tryz.prog 58 #[.pointer (some ⟨c, 0, none⟩)] w2 fun e w' => e = .returned (.tuple #[]) ∧ Cur c ⟨#[]⟩ true w' ∧ Curw c w2 w') := fail86 c s1 false w2 H2.out
      have HP : Hid (PV s ⟨0, false, 0, ⟨#[]⟩, [], []⟩ ⟨#[]⟩ true) := Or.inr ⟨rfl, rfl, by rw [HSB.out]; exact Bn.noV_first (by rw [← HBN.out]; exact h8)⟩
      have e0 : ¬ (bN : Int) = 0 := by omega
      have e1 : ¬ (bN : Int) = 1 := by omega
      have e2 : ¬ (bN : Int) = 2 := by omega
      have e3 : ¬ (bN : Int) = 3 := by omega
      have e4 : ¬ (bN : Int) = 4 := by omega
      have e5 : ¬ (bN : Int) = 5 := by omega
      have e6 : ¬ (bN : Int) = 6 := by omega
      have e7 : ¬ (bN : Int) = 7 := by omega
      clear h8 HB8
      go_wp2_with (first
        | (go_at_call 58; refine C86.out.mono ?_; rintro e w3 ⟨rfl, h1, k1⟩
           have V3 : Hid (VS w w3 c B) := V2.out.call k1
           have H3 : Hid (Cur c ⟨#[]⟩ true w3) := h1
           obtain ⟨q0, q1, q2, q3, q4, q5⟩ := Row6.cells V3.out.res
           have fz := Row6.free V3.out.res
           clear k1 h1))
      have F := V3.out.fin (repA_flat w3 _ 0 false 0 ⟨#[]⟩ (by omega) (by omega) (by decide)) H3.out HP.out
      rw [sets6]
      exact bodyPost_ret (v := .agg #[.int .u8 0, .bool false, .int .i64 0, .string ⟨#[]⟩, .slice none 0 0, .slice none 0 0]) (results_cell_row rfl _ _ (B + 1) 28 #[.int .u8 0, .bool false, .int .i64 0, .string ⟨#[]⟩, .slice none 0 0, .slice none 0 0] (0, 0) _ rfl F.1 Tryz.underlying28 rfl infoVal) rfl (by rw [HK.out]; exact F.2)
end Go.Proofs.YtcoaipcgpfpfiaaGreatDoor
