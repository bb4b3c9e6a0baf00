/- Read, walked: the right value whose bytes are handed in, or why there is none. -/
import Derived.Test.YtcoaipcgpfpfiaaGreatDoorBinRVM
import Derived.Test.YtcoaipcgpfpfiaaGreatDoorBinUM
namespace Go.Proofs.YtcoaipcgpfpfiaaGreatDoor
open Go.RowKit
open Vl (V)
/-- the right value of a text -/
def Bn.Is (s : ByteArray) (t : V) : Prop := s.size ≤ 16384 ∧ Bn.fit t ∧ s.data.toList = Bn.bytes t ∧ Vl.check Bn.u8 0 t = 0
theorem Bn.Is.one {s : ByteArray} {t u : V} (h : Bn.Is s t) (k : Bn.Is s u) : t = u := by
  have e : Bn.bytes t ++ [] = Bn.bytes u ++ [] := by rw [← h.2.2.1, k.2.2.1]
  exact (Bn.bytes_app t u [] [] h.2.1 k.2.1 e).1
/-- what Read answers -/
def ReadGave (s : ByteArray) (w : World) (e : Ending) (w' : World) : Prop := Below w.heap.size w w' ∧ ((∃ (t : V) (zk : Nat) (zb : Bool) (zn : Int) (zs : ByteArray) (za : Option Addr) (zl zc : Nat) (ta : Option Addr) (tl tc : Nat), Bn.Is s t ∧ e = .returned (.tuple #[.agg #[.int .u8 (zk : Int), .bool zb, .int .i64 zn, .string zs, .slice za zl zc, .slice ta tl tc], .int .i64 0]) ∧ RepA w' (fun g => w.heap.size ≤ g ∧ g < w'.heap.size) t (.agg #[.int .u8 (zk : Int), .bool zb, .int .i64 zn, .string zs, .slice za zl zc, .slice ta tl tc])) ∨
  ((∀ t, ¬ Bn.Is s t) ∧ e = .returned (.tuple #[.agg #[.int .u8 0, .bool false, .int .i64 0, .string ⟨#[]⟩, .slice none 0 0, .slice none 0 0], .int .i64 (if 16384 < s.size then 4 else 11)])))
/-- Read's own variables -/
structure RS (w0 W : World) (c : Nat) : Prop where
  below : Below w0.heap.size w0 W
  res : Z6 W w0.heap.size
  hc : c = w0.heap.size + 1
theorem RS.call {w0 W W' : World} {c : Nat} (h : RS w0 W c) (k : Curw c W W') : RS w0 W' c := by
  have a1 := h.below.size
  have a2 := h.res.1
  have a3 := h.hc
  exact ⟨h.below.trans (k.below (by omega) (by omega)), h.res.keep k.size (k.block _ a2 (by omega)), h.hc⟩
theorem RS.ok {w0 W : World} {c : Nat} {s : ByteArray} {t : V} {zk : Nat} {zb : Bool} {zn : Int} {zs : ByteArray} {za : Option Addr} {zl zc : Nat} {ta : Option Addr} {tl tc : Nat} (h : RS w0 W c) (hi : Bn.Is s t) (hr : RepA W (fun g => w0.heap.size < g ∧ g < W.heap.size) t (.agg #[.int .u8 (zk : Int), .bool zb, .int .i64 zn, .string zs, .slice za zl zc, .slice ta tl tc])) :
    (W.setCells w0.heap.size 0 [.int .u8 (zk : Int), .bool zb, .int .i64 zn, .string zs, .slice za zl zc, .slice ta tl tc]).heap[w0.heap.size]? = some (.cells #[.int .u8 (zk : Int), .bool zb, .int .i64 zn, .string zs, .slice za zl zc, .slice ta tl tc] 28 (0, 0)) ∧ ReadGave s w0 (.returned (.tuple #[.agg #[.int .u8 (zk : Int), .bool zb, .int .i64 zn, .string zs, .slice za zl zc, .slice ta tl tc], .int .i64 0])) (W.setCells w0.heap.size 0 [.int .u8 (zk : Int), .bool zb, .int .i64 zn, .string zs, .slice za zl zc, .slice ta tl tc]) := by
  refine ⟨Z6.put h.res _ _ _ _ _ _, below_setCellsV (Nat.le_refl _) _ _ h.below, Or.inl ⟨t, zk, zb, zn, zs, za, zl, zc, ta, tl, tc, hi, rfl, ?_⟩⟩
  rw [size_setCellsV']
  exact repA_stays (fun g hg => setCells_block (by omega) _) (fun g hg => ⟨by omega, hg.2⟩) t _ hr
theorem RS.no {w0 W : World} {c : Nat} {s : ByteArray} {e : Int} (h : RS w0 W c) (hi : ∀ t, ¬ Bn.Is s t) (he : e = if 16384 < s.size then 4 else 11) :
    (W.setCells w0.heap.size 0 [.int .u8 0, .bool false, .int .i64 0, .string ⟨#[]⟩, .slice none 0 0, .slice none 0 0]).heap[w0.heap.size]? = some (.cells #[.int .u8 0, .bool false, .int .i64 0, .string ⟨#[]⟩, .slice none 0 0, .slice none 0 0] 28 (0, 0)) ∧ ReadGave s w0 (.returned (.tuple #[.agg #[.int .u8 0, .bool false, .int .i64 0, .string ⟨#[]⟩, .slice none 0 0, .slice none 0 0], .int .i64 e])) (W.setCells w0.heap.size 0 [.int .u8 0, .bool false, .int .i64 0, .string ⟨#[]⟩, .slice none 0 0, .slice none 0 0]) := by
  refine ⟨Z6.put h.res _ _ _ _ _ _, below_setCellsV (Nat.le_refl _) _ _ h.below, Or.inr ⟨hi, by rw [he]⟩⟩
set_option maxHeartbeats 8000000 in
set_option maxRecDepth 10000 in
theorem read20 (s : ByteArray) (w : World) (hT : Bn.HasU w) : Calls Tryz.prog 8 #[.string s] w (ReadGave s w) := by
  obtain ⟨R, hR⟩ : ∃ R, R = w.heap.size := ⟨_, rfl⟩
  obtain ⟨K, hK⟩ : ∃ K, K = ReadGave s w := ⟨_, rfl⟩
  have HK : Hid (K = ReadGave s w) := hK
  rw [← hK]
  by_cases hlong : 16384 < s.size
  · have hli : (16384 : Int) < (s.size : Int) := by omega
    have HNO : Hid (∀ t, ¬ Bn.Is s t) := fun t h => by have := h.1; omega
    have HLE : Hid ((4 : Int) = if 16384 < s.size then 4 else 11) := by show _ = _; rw [if_pos hlong]
    obtain ⟨w1, hw1⟩ : ∃ w1, w1 = w.alloc (.cells #[.int .u8 0, .bool false, .int .i64 0, .string ⟨#[]⟩, .slice none 0 0, .slice none 0 0] 28) := ⟨_, rfl⟩
    have S1 : Hid (RS w w1 (R + 1)) := by
      show RS _ _ _
      rw [hw1, hR]
      exact ⟨below_new _ _, ⟨by simp, heap_alloc_new w _⟩, rfl⟩
    clear hlong hK
    go_enter Tryz.func8, Tryz.ntmps8
    go_upto_region 1 with fail
    rw [← hw1, ← hR]
    clear hw1
    have S1' := S1.out.res
    rw [← hR] at S1'
    obtain ⟨q0, q1, q2, q3, q4, q5⟩ := Row6.cells S1'
    have fz := Row6.free S1'
    have HR : Hid (R = w.heap.size) := hR
    clear S1' hR
    go_wp2
    have F := S1.out.no HNO.out HLE.out
    rw [← HR.out] at F
    rw [sets6]
    exact bodyPost_ret (v := .tuple #[.agg #[.int .u8 0, .bool false, .int .i64 0, .string ⟨#[]⟩, .slice none 0 0, .slice none 0 0], .int .i64 4]) ((results_row_tmpV (fn := Tryz.f8) (p := 2) (u := 3) (ty := 28) (by rfl) _ _ R 28 _ (0, 0) _ (by rfl) F.1 Tryz.underlying28 rfl infoVal).trans (by rfl)) rfl (by rw [HK.out]; exact F.2)
  · have hli : ¬ (16384 : Int) < (s.size : Int) := by omega
    have HLE : Hid ((11 : Int) = if 16384 < s.size then 4 else 11) := by show _ = _; rw [if_neg hlong]
    have HLS : Hid (s.size ≤ 16384) := by show _ ≤ _; omega
    obtain ⟨c, hc⟩ : ∃ c, c = R + 1 := ⟨_, rfl⟩
    obtain ⟨w2, hw2⟩ : ∃ w2, w2 = (w.alloc (.cells #[.int .u8 0, .bool false, .int .i64 0, .string ⟨#[]⟩, .slice none 0 0, .slice none 0 0] 28)).alloc (.cells #[.string s, .bool false] 74) := ⟨_, rfl⟩
    have S2 : Hid (RS w w2 c) := by
      show RS _ _ _
      rw [hw2, hc, hR]
      exact ⟨(below_new _ _).trans ((below_new _ _).mono (by simp)), ⟨by simp; omega, (Below.heap_alloc _ _ _ (by simp)).trans (heap_alloc_new w _)⟩, rfl⟩
    have H2 : Hid (Cur c s false w2) := by
      show Cur _ _ _ _
      rw [hw2, hc, hR]
      refine ⟨by simp, ?_⟩
      have := heap_alloc_new (w.alloc (.cells #[.int .u8 0, .bool false, .int .i64 0, .string ⟨#[]⟩, .slice none 0 0, .slice none 0 0] 28)) (.cells #[.string s, .bool false] 74)
      simpa using this
    have C46 : Hid (Calls Tryz.prog 22 #[.pointer (some ⟨c, 0, none⟩)] w2 (Gave s c w2)) := value46 c s.size s false (Nat.le_refl _) (by omega) (fun e => by cases e) w2 H2.out
    clear hlong hK H2
    go_enter Tryz.func8, Tryz.ntmps8
    go_upto_region 4 with fail
    rw [← hR, ← hc, ← hw2]
    have HR : Hid (R = w.heap.size) := hR
    have HC : Hid (c = R + 1) := hc
    clear hw2 hR hc
    go_upto_region 5 with (first
      | (go_at_call 22; refine C46.out.mono ?_; rintro e w3 ⟨x, xv, s', bad', rfl, k3, h3, h4, h5⟩
         obtain ⟨zk, zb, zn, zs, za, zl, zc, ta, tl, tc, rfl⟩ := repA_form h3
         have S3 : Hid (RS w w3 c) := S2.out.call k3
         have H3 : Hid (RepA w3 (fun g => w2.heap.size ≤ g ∧ g < w3.heap.size) x (.agg #[.int .u8 (zk : Int), .bool zb, .int .i64 zn, .string zs, .slice za zl zc, .slice ta tl tc])) := h3
         have H4 : Hid (Cur c s' bad' w3) := h4
         have H5 : Hid (PV s x s' bad') := h5
         clear k3 h3 h4 h5))
    obtain ⟨v, hv⟩ : ∃ v, v = w3.heap.size := ⟨_, rfl⟩
    obtain ⟨w4, hw4⟩ : ∃ w4, w4 = w3.alloc (.cells #[.int .u8 (zk : Int), .bool zb, .int .i64 zn, .string zs, .slice za zl zc, .slice ta tl tc] 28) := ⟨_, rfl⟩
    have hb4 : Below w3.heap.size w3 w4 := by rw [hw4]; exact below_new _ _
    have S4 : Hid (RS w w4 c) := S3.out.call (Curw.of hb4)
    have R4 : Hid (Row6 w4 v (.int .u8 (zk : Int)) (.bool zb) (.int .i64 zn) (.string zs) (.slice za zl zc) (.slice ta tl tc)) := by
      show Row6 _ _ _ _ _ _ _ _
      rw [hw4, hv]; exact ⟨by simp, heap_alloc_new w3 _⟩
    have HX : Hid (RepA w4 (fun g => w.heap.size < g ∧ g < w4.heap.size) x (.agg #[.int .u8 (zk : Int), .bool zb, .int .i64 zn, .string zs, .slice za zl zc, .slice ta tl tc])) := by
      have a1 := S2.out.below.size
      have a2 := S2.out.res.1
      have a3 := hb4.size
      exact repA_stays (fun g hg => hb4.block g hg.2) (fun g hg => ⟨by omega, by omega⟩) x _ H3.out
    have HQ : Hid (Cur c s' bad' w4) := H4.out.call hb4
    have HU : Hid (Bn.HasU w4) := hT.stays S4.out.below
    rw [← hv, ← hw4]
    clear hw4 hv hb4 S3 H3 H4 C46 S2
    have S4' := S4.out.res
    rw [← HR.out] at S4'
    obtain ⟨q0, q1, q2, q3, q4, q5⟩ := Row6.cells S4'
    have fz := Row6.free S4'
    clear S4'
    obtain ⟨p0, p1, p2, p3, p4, p5⟩ := R4.out.cells
    obtain ⟨c0, c1, f0, f1⟩ := HQ.out.cells
    cases bad' with
    | true =>
      have HNO : Hid (∀ t, ¬ Bn.Is s t) := fun t h => by
        rcases H5.out with ⟨e, _⟩ | ⟨_, _, e⟩
        · cases e
        · exact e t [] h.2.1 (by rw [List.append_nil]; exact h.2.2.1)
      clear H5
      go_wp2
      have F := S4.out.no HNO.out HLE.out
      rw [← HR.out] at F
      rw [sets6]
      exact bodyPost_ret (v := .tuple #[.agg #[.int .u8 0, .bool false, .int .i64 0, .string ⟨#[]⟩, .slice none 0 0, .slice none 0 0], .int .i64 11]) ((results_row_tmpV (fn := Tryz.f8) (p := 2) (u := 3) (ty := 28) (by rfl) _ _ R 28 _ (0, 0) _ (by rfl) F.1 Tryz.underlying28 rfl infoVal).trans (by rfl)) rfl (by rw [HK.out]; exact F.2)
    | false =>
      have hfit : Bn.fit x ∧ s.data.toList = Bn.bytes x ++ s'.data.toList := by
        rcases H5.out with ⟨_, e⟩ | ⟨e, _⟩
        · exact e
        · cases e
      by_cases he : s' = ⟨#[]⟩
      · subst he
        have HIS : Hid (∀ t, Bn.Is s t → t = x) := fun t h => by
          have e : Bn.bytes t ++ [] = Bn.bytes x ++ [] := by rw [List.append_nil, ← h.2.2.1]; exact hfit.2
          exact (Bn.bytes_app t x [] [] h.2.1 hfit.1 e).1
        have HI : Hid (Vl.check Bn.u8 0 x = 0 → Bn.Is s x) := fun h => ⟨HLS.out, hfit.1, by rw [hfit.2]; exact List.append_nil _, h⟩
        obtain ⟨k, hk⟩ : ∃ k, k = Vl.check Bn.u8 0 x := ⟨_, rfl⟩
        have C27 : Hid (Calls Tryz.prog 15 #[.agg #[.int .u8 (zk : Int), .bool zb, .int .i64 zn, .string zs, .slice za zl zc, .slice ta tl tc]] w4 fun e w' => e = .returned (.int .i64 (k : Int)) ∧ Below w4.heap.size w4 w') := by
          rw [hk]
          exact check27 x w4 HU.out w4.heap.size _ (Nat.le_refl _) (repA_rep (fun g hg => hg.2) x _ HX.out)
        by_cases hk0 : k = 0
        · have HIX : Hid (Bn.Is s x) := HI.out (by rw [← hk]; exact hk0)
          subst hk0
          clear hk H5 hfit HI HIS
          go_wp2_with (first
            | (go_at_call 15; refine C27.out.mono ?_; rintro e w5 ⟨rfl, hb5⟩
               have S5 : Hid (RS w w5 c) := S4.out.call (Curw.of hb5)
               have HX5 : Hid (RepA w5 (fun g => w.heap.size < g ∧ g < w5.heap.size) x (.agg #[.int .u8 (zk : Int), .bool zb, .int .i64 zn, .string zs, .slice za zl zc, .slice ta tl tc])) := repA_stays (fun g hg => hb5.block g hg.2) (fun g hg => ⟨hg.1, Nat.lt_of_lt_of_le hg.2 hb5.size⟩) x _ HX.out
               obtain ⟨p0, p1, p2, p3, p4, p5⟩ := (R4.out.call hb5).cells
               have S5' := S5.out.res
               rw [← HR.out] at S5'
               obtain ⟨q0, q1, q2, q3, q4, q5⟩ := Row6.cells S5'
               have fz := Row6.free S5'
               clear S5' hb5))
          have F := S5.out.ok HIX.out HX5.out
          rw [← HR.out] at F
          rw [sets6]
          exact bodyPost_ret (v := .tuple #[.agg #[.int .u8 (zk : Int), .bool zb, .int .i64 zn, .string zs, .slice za zl zc, .slice ta tl tc], .int .i64 0]) ((results_row_tmpV (fn := Tryz.f8) (p := 2) (u := 3) (ty := 28) (by rfl) _ _ R 28 _ (0, 0) _ (by rfl) F.1 Tryz.underlying28 rfl infoVal).trans (by rfl)) rfl (by rw [HK.out]; exact F.2)
        · have HNO : Hid (∀ t, ¬ Bn.Is s t) := fun t h => by
            obtain rfl := HIS.out t h
            exact hk0 (by rw [hk]; exact h.2.2.2)
          have hk1 : ¬ (k : Int) = 0 := by omega
          clear hk H5 hfit HI HIS hk0
          go_wp2_with (first
            | (go_at_call 15; refine C27.out.mono ?_; rintro e w5 ⟨rfl, hb5⟩
               have S5 : Hid (RS w w5 c) := S4.out.call (Curw.of hb5)
               have S5' := S5.out.res
               rw [← HR.out] at S5'
               obtain ⟨q0, q1, q2, q3, q4, q5⟩ := Row6.cells S5'
               have fz := Row6.free S5'
               clear S5' hb5))
          have F := S5.out.no HNO.out HLE.out
          rw [← HR.out] at F
          rw [sets6]
          exact bodyPost_ret (v := .tuple #[.agg #[.int .u8 0, .bool false, .int .i64 0, .string ⟨#[]⟩, .slice none 0 0, .slice none 0 0], .int .i64 11]) ((results_row_tmpV (fn := Tryz.f8) (p := 2) (u := 3) (ty := 28) (by rfl) _ _ R 28 _ (0, 0) _ (by rfl) F.1 Tryz.underlying28 rfl infoVal).trans (by rfl)) rfl (by rw [HK.out]; exact F.2)
      · have HNO : Hid (∀ t, ¬ Bn.Is s t) := fun t h => by
          have e : Bn.bytes t ++ [] = Bn.bytes x ++ s'.data.toList := by rw [List.append_nil, ← h.2.2.1]; exact hfit.2
          exact he (Bn.data_ext ((Bn.bytes_app t x [] _ h.2.1 hfit.1 e).2.symm))
        have hne := Bn.neq he
        have hne2 : ¬ s'.toList = [] := fun e => he (Bn.data_ext (by rw [← Go.ByteArray.toList_eq, e]))
        have hne3 : (s'.toList == []) = false := by simpa using hne2
        have hne4 : s'.toList.isEmpty = false := by simpa using hne2
        clear H5 hfit
        go_wp2
        have F := S4.out.no HNO.out HLE.out
        rw [← HR.out] at F
        rw [sets6]
        exact bodyPost_ret (v := .tuple #[.agg #[.int .u8 0, .bool false, .int .i64 0, .string ⟨#[]⟩, .slice none 0 0, .slice none 0 0], .int .i64 11]) ((results_row_tmpV (fn := Tryz.f8) (p := 2) (u := 3) (ty := 28) (by rfl) _ _ R 28 _ (0, 0) _ (by rfl) F.1 Tryz.underlying28 rfl infoVal).trans (by rfl)) rfl (by rw [HK.out]; exact F.2)
end Go.Proofs.YtcoaipcgpfpfiaaGreatDoor
