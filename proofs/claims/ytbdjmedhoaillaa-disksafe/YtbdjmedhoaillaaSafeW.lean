/- DiskSafe, walked. -/
import Derived.Test.YtbdjmedhoaillaaFuseW
import Derived.Test.YtbdjmedhoaillaaRefusedW
namespace Go.Proofs.Ytbdjmedhoaillaa
open Go.RowKit
theorem elem40 : Try.prog.elem 40 = 30 := by kernel_rfl
theorem index40 (b off len cap k : Nat) (hk : k < len) (wx : World) : (Instr.indexAt 40 (.slice (some ⟨b, off, none⟩) len cap) (.int .i64 (k : Int))).run Try.prog wx = .ok (.pointer (some ⟨b, off + k * 3, none⟩)) wx := by
  rw [run_indexAt_slice (P := Try.prog) wx 40 _ len cap .i64 k Try.underlying40, if_pos ⟨by omega, by omega⟩, elem40]
  have hs : (sizeOf 30).run Try.prog wx = .ok 3 wx := by
    cases h : Try.prog.info? 30 with
    | none => have := info30; simp [h] at this
    | some i =>
      have h1 := info30
      rw [h] at h1
      simp only [Option.map_some, Option.some.injEq] at h1
      simp [sizeOf, typeInfo, h, h1]
  rw [hs]
  simp only [Result.andThen_ok]
  rw [show (k : Int).toNat * 3 = k * 3 by omega, Addr.add_mid]
/-- steps as they lie in memory -/
structure Lies (w : World) (b off : Nat) (l : List (Int × ByteArray × Int)) : Prop where
  low : b < w.heap.size
  kind : ∀ (j : Nat) (k : Int) (t : ByteArray) (z : Int), l[j]? = some (k, t, z) → 0 ≤ k ∧ k ≤ 255
  at_ : ∀ (j : Nat) (k : Int) (t : ByteArray) (z : Int), l[j]? = some (k, t, z) → w.cell? ⟨b, off + j * 3, none⟩ = some (.int .u8 k) ∧ w.cell? ⟨b, off + j * 3 + 1, none⟩ = some (.string t) ∧ w.cell? ⟨b, off + j * 3 + 2, none⟩ = some (.int .i64 z)
theorem Lies.stays {w W : World} {b off : Nat} {l : List (Int × ByteArray × Int)} (h : Lies w b off l) (hb : Below w.heap.size w W) : Lies W b off l :=
  ⟨Nat.lt_of_lt_of_le h.low hb.size, h.kind, fun j k t z hj => by
    obtain ⟨a0, a1, a2⟩ := h.at_ j k t z hj
    exact ⟨(hb.cell (p := ⟨b, off + j * 3, none⟩) h.low).trans a0, (hb.cell (p := ⟨b, off + j * 3 + 1, none⟩) h.low).trans a1, (hb.cell (p := ⟨b, off + j * 3 + 2, none⟩) h.low).trans a2⟩⟩
theorem runM_fuse (d : Dk) (k : Int) (t : ByteArray) (z : Int) (h1 : -9223372036854775808 ≤ d.f) (h2 : d.f ≤ 9223372036854775807) : -9223372036854775808 ≤ (runM d k t z).1.f ∧ (runM d k t z).1.f ≤ 9223372036854775807 := by
  unfold runM fuse
  repeat' split
  all_goals (dsimp only; omega)
theorem runM_told (d : Dk) (k : Int) (t : ByteArray) (z : Int) (d' : Dk) (n : Int) (h : runM d k t z = (d', n)) : (n = 0 → d.dn = false) ∧ (n = 12 → d'.dn = true) := by
  rcases runM_ways d k t z d' n h with ⟨rfl, h0, h1⟩ | ⟨h0, h1, h2, h3⟩ | ⟨h0, h1, h2, s', rfl, h3⟩
  · exact ⟨fun e => absurd e h0, fun e => by rcases h1 with h | h; exact absurd e h; exact h⟩
  · exact ⟨fun _ => h2, fun e => by omega⟩
  · exact ⟨fun e => by omega, fun _ => rfl⟩
theorem ok_room (room : Int) : okB ⟨#[]⟩ 0 room = (decide (0 ≤ room) && decide (room ≤ 262144)) := by
  have e : ((⟨#[]⟩ : ByteArray).size : Int) = 0 := rfl
  unfold okB
  rw [e]
  by_cases h : 0 ≤ room <;> simp [h]
set_option maxHeartbeats 4000000 in
theorem safe6_no (room fs keep : Int) (sl : Value) (w : World) (h : okB ⟨#[]⟩ 0 room = false) :
    Calls Try.prog 6 #[.int .i64 room, .int .i64 fs, sl, .int .i64 keep] w fun e w' => e = .returned (.bool true) ∧ Below w.heap.size w w' := by
  have HO : Hid (okB ⟨#[]⟩ 0 room = false) := h
  have hr : room < 0 ∨ 262144 < room := by
    rw [ok_room] at h
    simp only [Bool.and_eq_false_iff, decide_eq_false_iff_not] at h
    omega
  clear h
  go_enter Try.func6, Try.ntmps6
  go_wp2_with fail
  refine (lives8 _).mono ?_
  rintro e w1 ⟨rfl, hb1⟩
  have B1 : Hid (Below w.heap.size w w1) := hb1
  clear hb1
  go_wp2_with fail
  refine (check13_no ⟨#[]⟩ 0 room fs false HO.out _).mono ?_
  rintro e w2 ⟨rfl, hb2⟩
  have B2 : Hid (Below w.heap.size w w2) := (B1.out.alloc B1.out.size _).trans (hb2.mono (B1.out.alloc B1.out.size _).size)
  clear hb2
  rcases hr with hr | hr
  all_goals
    go_wp2
    go_ret
    exact ⟨rfl, B2.out⟩
set_option maxHeartbeats 8000000 in
set_option maxRecDepth 100000 in
theorem safe6_yes (room fs keep : Int) (b off len cap : Nat) (l : List (Int × ByteArray × Int)) (hl : l.length = len) (hlen : len ≤ 9223372036854775807) (w : World) (hL : 0 < len → Lies w b off l) (ao : Option Addr) (hao : 0 < len → ao = some ⟨b, off, none⟩) (h : okB ⟨#[]⟩ 0 room = true) (hf1 : -9223372036854775808 ≤ fs) (hf2 : fs ≤ 9223372036854775807) :
    Calls Try.prog 6 #[.int .i64 room, .int .i64 fs, .slice ao len cap, .int .i64 keep] w fun e w' => e = .returned (.bool true) ∧ Below w.heap.size w w' := by
  have HO : Hid (okB ⟨#[]⟩ 0 room = true) := h
  have HLL : Hid (l.length = len) := hl
  have HL : Hid (0 < len → Lies w b off l) := hL
  have HA : Hid (0 < len → ao = some ⟨b, off, none⟩) := hao
  clear h hl hL hao
  go_enter Try.func6, Try.ntmps6
  go_wp2_with fail
  refine (lives8 _).mono ?_
  rintro e w1 ⟨rfl, hb1⟩
  have U1 : Hid (FU w (w1.alloc (.cells #[.string ⟨#[]⟩, .int .i64 0, .int .i64 room, .bool false, .int .i64 fs] 24)) w1.heap.size ⟨#[]⟩ 0 room false fs) :=
    ⟨hb1.alloc hb1.size _, Box.new w1 _ _, hb1.size⟩
  clear hb1
  go_wp2_with fail
  refine (check13_yes ⟨#[]⟩ 0 room fs false HO.out _).mono ?_
  rintro e w2 ⟨rfl, hb2⟩
  have U2 : Hid (FU w w2 w1.heap.size ⟨#[]⟩ 0 room false fs) := U1.out.call hb2
  clear hb2 U1
  obtain ⟨D, hD⟩ : ∃ D, D = w1.heap.size := ⟨_, rfl⟩
  go_wp2_with fail
  rw [← hD] at U2 ⊢
  clear hD
  go_loopw [32] (fun i wr => ∃ (j : Nat) (s : ByteArray) (y c : Int) (dn : Bool) (f : Int), j ≤ len ∧ i = .int .i64 j ∧ okB s y c = true ∧ -9223372036854775808 ≤ f ∧ f ≤ 9223372036854775807 ∧ FU w wr D s y c dn f) (fun i _ => len - (intOf i).toNat)
  case atStart => exact ⟨0, _, _, _, _, _, Nat.zero_le _, rfl, HO.out, hf1, hf2, U2.out⟩
  case round =>
    obtain ⟨j, s, y, c, dn, f, hj, rfl, ho, hg1, hg2, hU⟩ := hrel
    have UR : Hid (FU w wr D s y c dn f) := hU
    have HOR : Hid (okB s y c = true) := ho
    clear ho hU U2 HO
    obtain ⟨p0, p1, p2, p3, p4⟩ := UR.out.box.five
    have lt1 := UR.out.box.1
    by_cases hlt : j < len
    · have hA := HA.out (by omega)
      subst hA
      have HLR : Hid (Lies wr b off l) := (HL.out (by omega)).stays UR.out.below
      obtain ⟨⟨k, t, z⟩, hx⟩ : ∃ x, l[j]? = some x := ⟨_, List.getElem?_eq_getElem (by have := HLL.out; omega)⟩
      obtain ⟨a0, a1, a2⟩ := HLR.out.at_ j k t z hx
      have hk := HLR.out.kind j k t z hx
      have hix := index40 b off len cap j hlt
      obtain ⟨⟨s', y', c', dn', f'⟩, n, hrun⟩ : ∃ d' n, runM ⟨s, y, c, dn, f⟩ k t z = (d', n) := ⟨_, _, rfl⟩
      have HRUN : Hid _ := hrun
      have HO' : Hid (okB s' y' c' = true) := by have := runM_ok ⟨s, y, c, dn, f⟩ k t z HOR.out; rw [hrun] at this; exact this
      have HF' : Hid (-9223372036854775808 ≤ f' ∧ f' ≤ 9223372036854775807) := by have := runM_fuse ⟨s, y, c, dn, f⟩ k t z hg1 hg2; rw [hrun] at this; exact this
      have HT : Hid ((n = 0 → dn = false) ∧ (n = 12 → dn' = true)) := runM_told ⟨s, y, c, dn, f⟩ k t z _ n hrun
      clear hrun hx
      go_wp2_with fail
      refine (do9_to s t y c f z k dn _ HOR.out hg1 hg2 hk.1 (by omega) s' y' c' dn' f' n HRUN.out).mono ?_
      rintro e w3 ⟨rfl, hb3⟩
      have U3 : Hid (FU w w3 D s y c dn f) := (UR.out.call (below_new _ _)).call hb3
      clear hb3 a0 a1 a2 hix p0 p1 p2 p3 p4 lt1 UR HLR HRUN
      go_wp2_with fail
      refine (check13_yes s' y' c' f' dn' HO'.out _).mono ?_
      rintro e w4 ⟨rfl, hb4⟩
      have U4 : Hid (FU w w4 D s y c dn f) := (U3.out.call (below_new _ _)).call hb4
      have E4 : Hid (Box w4 w3.heap.size #[.string s', .int .i64 y', .int .i64 c', .bool dn', .int .i64 f'] 24) := (Box.new w3 _ _).call hb4
      clear hb4 U3
      obtain ⟨p0, p1, p2, p3, p4⟩ := U4.out.box.five
      obtain ⟨q0, q1, q2, q3, q4⟩ := Box.five E4.out
      have fp := U4.out.box.free
      have UN : Hid _ := U4.out.put s' y' c' dn' f'
      by_cases hn0 : n = 0
      · have hd := HT.out.1 hn0
        subst hn0 hd
        go_wp2
        go_roundw
        case rel => exact ⟨j + 1, s', y', c', dn', f', by omega, by go_num, HO'.out, HF'.out.1, HF'.out.2, UN.out⟩
        case measure => simp [intOf]; omega
      have e0 : (n == 0) = false := by simp [hn0]
      by_cases hn12 : n = 12
      · have hd := HT.out.2 hn12
        subst hn12 hd
        go_wp2
        go_roundw
        case rel => exact ⟨j + 1, s', y', c', true, f', by omega, by go_num, HO'.out, HF'.out.1, HF'.out.2, UN.out⟩
        case measure => simp [intOf]; omega
      · have e12 : (n == 12) = false := by simp [hn12]
        go_wp2
        go_roundw
        case rel => exact ⟨j + 1, s', y', c', dn', f', by omega, by go_num, HO'.out, HF'.out.1, HF'.out.2, UN.out⟩
        case measure => simp [intOf]; omega
    · have hj' : j = len := by omega
      subst hj'
      clear hlt
      go_wp2_with fail
      refine (crash11_yes s y c f keep dn _ HOR.out).mono ?_
      rintro e w3 ⟨x, m, rfl, hx, hm, hb3⟩
      obtain ⟨k1, k2, k3, k4, k5⟩ := ok_mk HOR.out
      have hkp := kept_at s y keep k5
      have hz : (x.size : Int) = m := by rw [hx, hm]; exact size_cut s _ (by omega) (by omega)
      have hex : x = s.extract 0 x.size := by
        have e1 : x.size = (keptM s y keep).toNat := by omega
        rw [e1]; exact hx
      rw [← hm] at hkp
      rw [← hz] at hkp
      have HOX : Hid (okB x (x.size : Int) c = true) := ok_of ⟨k1, k2, by omega, by omega, by omega⟩
      have hl1 := hkp.1
      have hl2 := hkp.2
      have heq : (x.toList == (s.extract 0 x.size).toList) = true := by rw [← hex]; exact beq_self_eq_true _
      subst hz
      have U3 : Hid (FU w (w3.alloc (.cells #[.string x, .int .i64 (x.size : Int), .int .i64 c, .bool false, .int .i64 (-1)] 24)) D s y c dn f) := (UR.out.call hb3).call (below_new _ _)
      have E3 : Hid (Box (w3.alloc (.cells #[.string x, .int .i64 (x.size : Int), .int .i64 c, .bool false, .int .i64 (-1)] 24)) w3.heap.size #[.string x, .int .i64 (x.size : Int), .int .i64 c, .bool false, .int .i64 (-1)] 24) := Box.new w3 _ _
      clear hx hm hb3 hex hkp p0 p1 p2 p3 p4 lt1 UR
      go_wp2_with fail
      obtain ⟨w4, hw4⟩ : ∃ W, W = w3.alloc (.cells #[.string x, .int .i64 (x.size : Int), .int .i64 c, .bool false, .int .i64 (-1)] 24) := ⟨_, rfl⟩
      obtain ⟨X, hX⟩ : ∃ X, X = w3.heap.size := ⟨_, rfl⟩
      rw [← hw4] at U3 E3 ⊢
      rw [← hX] at E3 ⊢
      clear hw4 hX
      obtain ⟨p0, p1, p2, p3, p4⟩ := U3.out.box.five
      obtain ⟨q0, q1, q2, q3, q4⟩ := Box.five E3.out
      go_region_held3 (fun W' => W'.cell? ⟨D, 0, none⟩ = some (.string s) ∧ W'.cell? ⟨D, 1, none⟩ = some (.int .i64 y) ∧ W'.cell? ⟨D, 2, none⟩ = some (.int .i64 c) ∧ W'.cell? ⟨D, 3, none⟩ = some (.bool dn) ∧ W'.cell? ⟨D, 4, none⟩ = some (.int .i64 f) ∧ W'.cell? ⟨X, 0, none⟩ = some (.string x) ∧ W'.cell? ⟨X, 1, none⟩ = some (.int .i64 (x.size : Int)) ∧ W'.cell? ⟨X, 2, none⟩ = some (.int .i64 c) ∧ W'.cell? ⟨X, 3, none⟩ = some (.bool false) ∧ W'.cell? ⟨X, 4, none⟩ = some (.int .i64 (-1))) (go_keep) (first
        | (go_at_call 13; refine (check13_yes x (x.size : Int) c (-1) false HOX.out _).mono ?_; rintro e w5 ⟨rfl, hb5⟩
           have E3 : Hid (Box w5 X #[.string x, .int .i64 (x.size : Int), .int .i64 c, .bool false, .int .i64 (-1)] 24) := Box.call E3.out (by first | exact hb5 | exact (Below.refl _ _).drew.trans hb5)
           have U3 : Hid (FU w w5 D s y c dn f) := U3.out.call (by first | exact hb5 | exact (Below.refl _ _).drew.trans hb5)
           clear hb5
           obtain ⟨p0, p1, p2, p3, p4⟩ := U3.out.box.five
           obtain ⟨q0, q1, q2, q3, q4⟩ := Box.five E3.out))
      go_wp2
      go_ret
      exact ⟨rfl, U3.out.below⟩
end Go.Proofs.Ytbdjmedhoaillaa
