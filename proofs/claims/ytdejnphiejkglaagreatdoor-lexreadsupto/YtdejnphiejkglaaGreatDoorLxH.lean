/- Words, numbers and signs are read: walked. -/
import Derived.Test.YtdejnphiejkglaaGreatDoorLxG
import Derived.Lib.ParseIntBTie
import Derived.Lib.SmallJoins
namespace Go.Proofs.YtdejnphiejkglaaGreatDoor
open Go.RowKit
theorem Lx.below_drewN (w : World) : ∀ k, Below w.heap.size w (w.drewN k)
  | 0 => Below.refl _ _
  | k + 1 => (Lx.below_drewN w k).drew
theorem Lx.below_grow {w W : World} (h : Below w.heap.size w W) (os : Array Obj) : Below w.heap.size w (Go.Sort.grow W os) := by
  refine ⟨h.os, h.tape, h.output, ?_, fun k hk => ?_⟩
  · have := h.size
    simp only [Go.Sort.grow, Array.size_append]
    omega
  · have h1 : k < W.heap.size := Nat.lt_of_lt_of_le hk h.size
    have e : (Go.Sort.grow W os).heap[k]? = W.heap[k]? := by
      simp only [Go.Sort.grow]
      rw [Array.getElem?_append_left h1]
    exact e.trans (h.block k hk)
theorem parseOk_c (s : ByteArray) (hs : s.size ≤ 16384) (v : Int) (h : Lib.parseIntB 64 s.data.toList = .ok v) (w : World) : Calls Tryz.prog 46 #[.string s, .int .i64 10, .int .i64 64] w fun e w' => e = .returned (.tuple #[.int .i64 v, .nilIface]) ∧ Below w.heap.size w w' := by
  refine (Tryz.strconv_ParseInt_10_at64_ok s (by omega) v h w).mono ?_
  rintro e w' ⟨rfl, h1⟩
  refine ⟨rfl, ?_⟩
  rcases h1 with rfl | ⟨t, rfl⟩
  · exact Below.refl _ _
  · exact Go.Joins.below_bytesWorld _ _ _ _ (Nat.le_refl _)
theorem format_c (v : Int) (h0 : -9223372036854775808 ≤ v) (h1 : v ≤ 9223372036854775807) (w : World) (hL : HasL w) : Calls Tryz.prog 42 #[.int .i64 v, .int .i64 10] w fun e w' => e = .returned (.string (Lx.bs (Lib.itoa v))) ∧ Below w.heap.size w w' := by
  refine (Tryz.strconv_FormatInt_10 v h0 h1 w hL.pow).mono ?_
  rintro e w' ⟨rfl, k, os, rfl⟩
  exact ⟨rfl, Lx.below_grow (Lx.below_drewN w k) os⟩
theorem Lx.str_ne {a b : Lx.Bs} (h : a ≠ b) : ((Lx.bs a).toList == (Lx.bs b).toList) = false := by
  rw [Lx.bs_toList, Lx.bs_toList, beq_eq_false_iff_ne]
  exact h
theorem Lx.str_eq {a b : Lx.Bs} (h : a = b) : ((Lx.bs a).toList == (Lx.bs b).toList) = true := by
  rw [h]; exact beq_self_eq_true _
theorem take_len {l : Lx.Bs} : (l.take (Lx.wsz l)).length = Lx.wsz l := by rw [List.length_take]; have := Lx.wsz_le l; omega
set_option maxHeartbeats 2000000 in
set_option maxRecDepth 100000 in
theorem readWord_c (l : Lx.Bs) (hl : l.length ≤ 16384) (w : World) : Calls Tryz.prog 25 #[.string (Lx.bs l)] w fun e w' => e = Lx.gave (Lx.word l) ∧ Below w.heap.size w w' := by
  obtain ⟨w1, hw1⟩ : ∃ w1, w1 = w.alloc (.cells #[.int .u8 0, .string ⟨#[]⟩, .int .i64 0, .int .i64 0] 24) := ⟨_, rfl⟩
  have X1 : Hid (T4 w w1) := by rw [hw1]; exact T4.start w
  obtain ⟨s, hs⟩ : ∃ s, s = Lx.bs l := ⟨_, rfl⟩
  obtain ⟨z, hz⟩ : ∃ z, z = Lx.wsz l := ⟨_, rfl⟩
  obtain ⟨d, hd⟩ : ∃ d, d = Lx.bs (l.take z) := ⟨_, rfl⟩
  have hle := Lx.wsz_le l
  have hzl : z ≤ 16384 := by omega
  have hdl : (l.take z).length = z := by rw [hz]; exact take_len
  have hsl : ∀ wx, (Instr.slice 9 (.string s) none (some (.int .i64 (z : Int))) none).run Tryz.prog wx = .ok (.string d) wx := fun wx => by rw [hs, hd]; exact Lx.slice_to l (z : Int) z rfl (by omega) wx
  have CW : Hid (Calls Tryz.prog 45 #[.string s] w1 fun e w' => e = .returned (.int .i64 (z : Int)) ∧ w' = w1) := by
    have h := wordSize_c s (by rw [hs, Lx.bs_size]; unfold maxLen; omega) w1
    rw [hs, Lx.bs_data, ← hz, ← hs] at h
    exact h
  obtain ⟨k, hk⟩ : ∃ k, k = Lx.isKey (l.take z) := ⟨_, rfl⟩
  have CK : Hid (Calls Tryz.prog 10 #[.string d] w1 fun e w' => e = .returned (.bool k) ∧ Below w1.heap.size w1 w') := by
    have h := keyword_c d w1
    rw [hd, Lx.bs_data, ← hk, ← hd] at h
    exact h
  obtain ⟨g, hg⟩ : ∃ g, g = Lx.bs (Lx.great (l.take z)) := ⟨_, rfl⟩
  have CG : Hid (∀ W, Calls Tryz.prog 21 #[.string d] W fun e w' => e = .returned (.string g) ∧ Below W.heap.size W w') := fun W => by
    have h := great_c d (by rw [hd, Lx.bs_size, hdl]; exact hzl) W
    rw [hd, Lx.bs_data, ← hd] at h
    rw [hg]
    exact h
  have CC : Hid (∀ W, Calls Tryz.prog 18 #[.string d] W fun e w' => e = .returned (.string d) ∧ Below W.heap.size W w') := fun W => sclone_c d (by rw [hd, Lx.bs_size, hdl]; omega) W
  have hds : (d.size : Int) = (z : Int) := by rw [hd, Lx.bs_size, hdl]
  have HR : Hid (Lx.word l = if k then ⟨0, 2, Lx.great (l.take z), 0, z⟩ else if 64 < z then Lx.no 13 else ⟨0, 1, l.take z, 0, z⟩) := by show _ = _; rw [Lx.word, ← hz, ← hk]
  have HG : Hid (g = Lx.bs (Lx.great (l.take z))) := hg
  have HD : Hid (d = Lx.bs (l.take z)) := hd
  rw [← hs]
  clear hs hz hd hk hg hle hdl hl
  go_enter Tryz.func25, Tryz.ntmps25
  go_upto_region 1 with fail
  rw [← hw1]
  clear hw1
  go_wp2_with fail
  refine CW.out.mono ?_
  rintro e w2 ⟨rfl, rfl⟩
  go_wp2_with fail
  refine CK.out.mono ?_
  rintro e w3 ⟨rfl, hb3⟩
  have X3 : Hid (T4 w w3) := X1.out.call hb3
  clear hb3 X1 CK CW
  cases k with
  | true =>
    go_wp2_with fail
    refine (CG.out _).mono ?_
    rintro e w4 ⟨rfl, hb4⟩
    have X4 : Hid (T4 w w4) := X3.out.call hb4
    obtain ⟨p0, p1, p2, p3, fz⟩ := X4.out.cells
    clear hb4
    go_wp2
    rw [HR.out, HG.out, if_pos trivial]
    exact tok_end (r := ⟨0, 2, Lx.great (l.take z), 0, z⟩) rfl X4.out rfl rfl rfl
  | false =>
    by_cases h64 : 64 < z
    · have q1 : (64 : Int) < (d.size : Int) := by omega
      obtain ⟨p0, p1, p2, p3, fz⟩ := X3.out.cells
      go_wp2
      rw [HR.out, if_neg (by decide), if_pos h64]
      exact tok_end (r := Lx.no 13) rfl X3.out rfl rfl rfl
    · have q1 : ¬ (64 : Int) < (d.size : Int) := by omega
      go_wp2_with fail
      refine (CC.out _).mono ?_
      rintro e w4 ⟨rfl, hb4⟩
      have X4 : Hid (T4 w w4) := X3.out.call hb4
      obtain ⟨p0, p1, p2, p3, fz⟩ := X4.out.cells
      clear hb4
      go_wp2
      rw [HR.out, HD.out, if_neg (by decide), if_neg h64]
      exact tok_end (r := ⟨0, 1, l.take z, 0, z⟩) rfl X4.out rfl rfl rfl
set_option maxHeartbeats 2000000 in
set_option maxRecDepth 100000 in
theorem readSign_c (x : UInt8) (r : Lx.Bs) (hl : (x :: r).length ≤ 16384) (w : World) : Calls Tryz.prog 33 #[.string (Lx.bs (x :: r))] w fun e w' => e = Lx.gave (Lx.sign (x :: r)) ∧ Below w.heap.size w w' := by
  obtain ⟨w1, hw1⟩ : ∃ w1, w1 = w.alloc (.cells #[.int .u8 0, .string ⟨#[]⟩, .int .i64 0, .int .i64 0] 24) := ⟨_, rfl⟩
  have X1 : Hid (T4 w w1) := by rw [hw1]; exact T4.start w
  obtain ⟨s, hs⟩ : ∃ s, s = Lx.bs (x :: r) := ⟨_, rfl⟩
  obtain ⟨z, hz⟩ : ∃ z, z = Lx.sgn (x :: r) := ⟨_, rfl⟩
  obtain ⟨d, hd⟩ : ∃ d, d = Lx.bs ((x :: r).take z) := ⟨_, rfl⟩
  have hle : z ≤ (x :: r).length := by
    rw [hz, Lx.sgn]
    cases r with
    | nil => simp [Lx.pre2]; split <;> omega
    | cons y r => simp; split <;> (try split) <;> omega
  have hdl : ((x :: r).take z).length = z := by rw [List.length_take]; omega
  have hsl : ∀ wx, (Instr.slice 9 (.string s) none (some (.int .i64 (z : Int))) none).run Tryz.prog wx = .ok (.string d) wx := fun wx => by rw [hs, hd]; exact Lx.slice_to (x :: r) (z : Int) z rfl hle wx
  have CW : Hid (Calls Tryz.prog 32 #[.string s] w1 fun e w' => e = .returned (.int .i64 (z : Int)) ∧ w' = w1) := by rw [hs, hz]; exact signSize_c x r w1
  have CC : Hid (∀ W, Calls Tryz.prog 18 #[.string d] W fun e w' => e = .returned (.string d) ∧ Below W.heap.size W w') := fun W => sclone_c d (by rw [hd, Lx.bs_size, hdl]; omega) W
  have HR : Hid (Lx.sign (x :: r) = ⟨0, 5, (x :: r).take z, 0, z⟩) := by show _ = _; rw [Lx.sign, ← hz]
  have HD : Hid (d = Lx.bs ((x :: r).take z)) := hd
  rw [← hs]
  clear hs hz hd hle hdl hl
  go_enter Tryz.func33, Tryz.ntmps33
  go_upto_region 1 with fail
  rw [← hw1]
  clear hw1
  go_wp2_with fail
  refine CW.out.mono ?_
  rintro e w2 ⟨rfl, rfl⟩
  go_wp2_with fail
  refine (CC.out _).mono ?_
  rintro e w4 ⟨rfl, hb4⟩
  have X4 : Hid (T4 w w4) := X1.out.call hb4
  obtain ⟨p0, p1, p2, p3, fz⟩ := X4.out.cells
  clear hb4
  go_wp2
  rw [HR.out, HD.out]
  exact tok_end (r := ⟨0, 5, (x :: r).take z, 0, z⟩) rfl X4.out rfl rfl rfl
set_option maxHeartbeats 2000000 in
set_option maxRecDepth 100000 in
theorem readNumber_c (l : Lx.Bs) (hl : l.length ≤ 16384) (w : World) (hL : HasL w) : Calls Tryz.prog 28 #[.string (Lx.bs l)] w fun e w' => e = Lx.gave (Lx.numb l) ∧ Below w.heap.size w w' := by
  obtain ⟨w1, hw1⟩ : ∃ w1, w1 = w.alloc (.cells #[.int .u8 0, .string ⟨#[]⟩, .int .i64 0, .int .i64 0] 24) := ⟨_, rfl⟩
  have X1 : Hid (T4 w w1) := by rw [hw1]; exact T4.start w
  have HL : Hid (∀ W, Below w.heap.size w W → HasL W) := fun W hW => hL.stays hW
  obtain ⟨s, hs⟩ : ∃ s, s = Lx.bs l := ⟨_, rfl⟩
  obtain ⟨z, hz⟩ : ∃ z, z = Lx.wsz l := ⟨_, rfl⟩
  obtain ⟨d, hd⟩ : ∃ d, d = Lx.bs (l.take z) := ⟨_, rfl⟩
  have hle := Lx.wsz_le l
  have hdl : (l.take z).length = z := by rw [hz]; exact take_len
  have hsl : ∀ wx, (Instr.slice 9 (.string s) none (some (.int .i64 (z : Int))) none).run Tryz.prog wx = .ok (.string d) wx := fun wx => by rw [hs, hd]; exact Lx.slice_to l (z : Int) z rfl (by omega) wx
  have CW : Hid (Calls Tryz.prog 45 #[.string s] w1 fun e w' => e = .returned (.int .i64 (z : Int)) ∧ w' = w1) := by
    have h := wordSize_c s (by rw [hs, Lx.bs_size]; unfold maxLen; omega) w1
    rw [hs, Lx.bs_data, ← hz, ← hs] at h
    exact h
  have hds : (d.size : Int) = (z : Int) := by rw [hd, Lx.bs_size, hdl]
  have hdn : d.size ≤ 16384 := by omega
  have HD : Hid (d = Lx.bs (l.take z)) := hd
  have HDL : Hid (d.data.toList = l.take z) := by show _ = _; rw [hd, Lx.bs_data]
  have HR : Hid (Lx.numb l = match Lx.numOf (l.take z) with
    | some v => ⟨0, 3, [], v, z⟩
    | none => Lx.no 13) := by show _ = _; rw [Lx.numb, ← hz]; cases Lx.numOf (l.take z) <;> rfl
  rw [← hs]
  clear hs hz hd hle hdl hl hL
  go_enter Tryz.func28, Tryz.ntmps28
  go_upto_region 1 with fail
  rw [← hw1]
  clear hw1
  go_wp2_with fail
  refine CW.out.mono ?_
  rintro e w2 ⟨rfl, rfl⟩
  clear CW
  cases hp : Lib.parseIntB 64 (l.take z) with
  | ok v =>
    have CP : Hid (Calls Tryz.prog 46 #[.string d, .int .i64 10, .int .i64 64] w2 fun e w' => e = .returned (.tuple #[.int .i64 v, .nilIface]) ∧ Below w2.heap.size w2 w') := parseOk_c d hdn v (by rw [HDL.out]; exact hp) w2
    have hb := Lib.parseIntB_bounds hp
    obtain ⟨f, hf⟩ : ∃ f, f = Lx.bs (Lib.itoa v) := ⟨_, rfl⟩
    have CF : Hid (∀ W, Below w.heap.size w W → Calls Tryz.prog 42 #[.int .i64 v, .int .i64 10] W fun e w' => e = .returned (.string f) ∧ Below W.heap.size W w') := fun W hW => by
      rw [hf]
      exact format_c v (by have := hb.1; simp at this; omega) (by have := hb.2; simp at this; omega) W (HL.out W hW)
    have HN : Hid (Lx.numOf (l.take z) = if Lib.itoa v = l.take z then some v else none) := by show _ = _; rw [Lx.numOf, hp]
    clear hb hp
    go_wp2_with fail
    refine CP.out.mono ?_
    rintro e w3 ⟨rfl, hb3⟩
    have X3 : Hid (T4 w w3) := X1.out.call hb3
    clear hb3 CP X1
    by_cases he : Lib.itoa v = l.take z
    · have q1 : (f.toList == d.toList) = true := by rw [hf, HD.out]; exact Lx.str_eq he
      clear hf
      go_wp2_with fail
      refine (CF.out _ X3.out.1).mono ?_
      rintro e w4 ⟨rfl, hb4⟩
      have X4 : Hid (T4 w w4) := X3.out.call hb4
      obtain ⟨p0, p1, p2, p3, fz⟩ := X4.out.cells
      clear hb4
      go_wp2
      rw [HR.out, HN.out, if_pos he]
      exact tok_end (r := ⟨0, 3, [], v, z⟩) rfl X4.out rfl rfl rfl
    · have q1 : (f.toList == d.toList) = false := by rw [hf, HD.out]; exact Lx.str_ne he
      clear hf
      go_wp2_with fail
      refine (CF.out _ X3.out.1).mono ?_
      rintro e w4 ⟨rfl, hb4⟩
      have X4 : Hid (T4 w w4) := X3.out.call hb4
      obtain ⟨p0, p1, p2, p3, fz⟩ := X4.out.cells
      clear hb4
      go_wp2
      rw [HR.out, HN.out, if_neg he]
      exact tok_end (r := Lx.no 13) rfl X4.out rfl rfl rfl
  | «syntax» =>
    have HN : Hid (Lx.numOf (l.take z) = none) := by show _ = _; rw [Lx.numOf, hp]
    obtain ⟨ev, hev, hev2⟩ := (HL.out _ X1.out.1).syn
    have CP : Hid (Calls Tryz.prog 46 #[.string d, .int .i64 10, .int .i64 64] w2 fun e w' => ∃ N, e = .returned (.tuple #[.int .i64 0, .iface 96 (.pointer (some ⟨N, 0, none⟩))]) ∧ Below w2.heap.size w2 w') := by
      refine (Tryz.strconv_ParseInt_10_at64_syntax d (by omega) (by rw [HDL.out]; exact hp) ev w2 hev hev2).mono ?_
      rintro e w' ⟨N, h1, _, _, h4⟩
      exact ⟨N, h1, h4⟩
    clear hp hev hev2
    go_wp2_with fail
    refine CP.out.mono ?_
    rintro e w3 ⟨N, rfl, hb3⟩
    have X3 : Hid (T4 w w3) := X1.out.call hb3
    obtain ⟨p0, p1, p2, p3, fz⟩ := X3.out.cells
    clear hb3
    go_wp2
    rw [HR.out, HN.out]
    exact tok_end (r := Lx.no 13) rfl X3.out rfl rfl rfl
  | range =>
    have HN : Hid (Lx.numOf (l.take z) = none) := by show _ = _; rw [Lx.numOf, hp]
    obtain ⟨ev, hev, hev2⟩ := (HL.out _ X1.out.1).rng
    have CP : Hid (Calls Tryz.prog 46 #[.string d, .int .i64 10, .int .i64 64] w2 fun e w' => ∃ N, e = .returned (.tuple #[.int .i64 (Lib.intSat 64 d.data.toList), .iface 96 (.pointer (some ⟨N, 0, none⟩))]) ∧ Below w2.heap.size w2 w') := by
      refine (Tryz.strconv_ParseInt_10_at64_range d (by omega) (by rw [HDL.out]; exact hp) ev w2 hev hev2).mono ?_
      rintro e w' ⟨N, h1, _, _, h4⟩
      exact ⟨N, h1, h4⟩
    clear hp hev hev2
    go_wp2_with fail
    refine CP.out.mono ?_
    rintro e w3 ⟨N, rfl, hb3⟩
    obtain ⟨sat, hsat⟩ : ∃ sat, sat = Lib.intSat 64 d.data.toList := ⟨_, rfl⟩
    rw [← hsat]
    clear hsat
    have X3 : Hid (T4 w w3) := X1.out.call hb3
    obtain ⟨p0, p1, p2, p3, fz⟩ := X3.out.cells
    clear hb3
    go_wp2
    rw [HR.out, HN.out]
    exact tok_end (r := Lx.no 13) rfl X3.out rfl rfl rfl
end Go.Proofs.YtdejnphiejkglaaGreatDoor
