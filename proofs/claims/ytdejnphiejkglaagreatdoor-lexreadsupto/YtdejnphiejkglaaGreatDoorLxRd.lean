/- The document's sign, walked. -/
import Derived.Test.YtdejnphiejkglaaGreatDoorLxRc
import Derived.Lib.SlBytesConst
namespace Go.Proofs.YtdejnphiejkglaaGreatDoor
open Go.RowKit
/-- the signs of one byte in a row -/
def SG (w W : World) : Prop := Below w.heap.size w W ∧ ∀ (j : Nat) (k : UInt8), Lx.signs[j]? = some k → W.cell? ⟨w.heap.size, j, none⟩ = some (.int .u8 (k.toNat : Int))
theorem SG.start (w : World) (t : TypeId) (fr : Nat × Nat) : SG w (w.alloc (.cells #[.int .u8 61, .int .u8 60, .int .u8 62, .int .u8 43, .int .u8 45, .int .u8 42, .int .u8 40, .int .u8 41, .int .u8 91, .int .u8 93, .int .u8 123, .int .u8 125, .int .u8 44, .int .u8 58, .int .u8 46] t fr)) := by
  refine ⟨(Below.refl _ _).alloc (Nat.le_refl _) _, fun j k hk => ?_⟩
  rw [cell_of_row _ _ _ _ _ _ (heap_alloc_new w _)]
  have e : (#[.int .u8 61, .int .u8 60, .int .u8 62, .int .u8 43, .int .u8 45, .int .u8 42, .int .u8 40, .int .u8 41, .int .u8 91, .int .u8 93, .int .u8 123, .int .u8 125, .int .u8 44, .int .u8 58, .int .u8 46] : Array Value) = (Lx.signs.map fun k => Value.int .u8 (k.toNat : Int)).toArray := rfl
  rw [e]
  simp [hk]
namespace Lx
theorem rsgn_one (x : UInt8) (r : Bs) (h : (pre2 60 62 (x :: r) || pre2 60 61 (x :: r) || pre2 62 61 (x :: r)) = false) : sgn (x :: r) = if signs.contains x then 1 else 0 := by
  rw [sgn, if_neg (by rw [h]; decide)]
theorem pre2_eq (a b x y : UInt8) (r : Bs) : pre2 a b (x :: y :: r) = (([x, y] : Bs) == [a, b]) := by
  rw [pre2]
  simp
end Lx
set_option maxHeartbeats 4000000 in
set_option maxRecDepth 100000 in
theorem rsign_c (x : UInt8) (r : Lx.Bs) (w : World) : Calls Tryz.prog 41 #[.string (Lx.bs (x :: r))] w fun e w' => e = .returned (.string (Lx.bs ((x :: r).take (Lx.sgn (x :: r))))) ∧ Below w.heap.size w w' := by
  obtain ⟨l, hxl⟩ : ∃ l, l = x :: r := ⟨_, rfl⟩
  obtain ⟨s, hs⟩ : ∃ s, s = Lx.bs l := ⟨_, rfl⟩
  obtain ⟨n, hn⟩ : ∃ n : Int, n = (l.length : Int) := ⟨_, rfl⟩
  have hsz : (s.size : Int) = n := by rw [hs, Lx.bs_size, hn]
  have HX : Hid (l = x :: r ∧ n = (l.length : Int)) := ⟨hxl, hn⟩
  have hx0 : ∀ wx, (Instr.index 9 (.string s) (.int .i64 0)).run Tryz.prog wx = .ok (.int .u8 (x.toNat : Int)) wx := fun wx => by rw [hs]; exact Lx.index_at l 0 0 x rfl (by rw [hxl]; rfl) wx
  have hs1 : ∀ wx, (Instr.slice 9 (.string s) none (some (.int .i64 1)) none).run Tryz.prog wx = .ok (.string (Lx.bs [x])) wx := fun wx => by
    have h := Lx.slice_to l 1 1 rfl (by rw [hxl]; simp) wx
    rw [hxl] at h
    rw [hs, hxl]; exact h
  have HS2 : Hid (∀ (y : UInt8) (t : Lx.Bs), r = y :: t → ∀ wx, (Instr.slice 9 (.string s) none (some (.int .i64 2)) none).run Tryz.prog wx = .ok (.string (Lx.bs [x, y])) wx) := fun y t hr wx => by
    have h := Lx.slice_to l 2 2 rfl (by rw [hxl, hr]; simp) wx
    rw [hxl, hr] at h
    rw [hs, hxl, hr]; exact h
  rw [← hxl, ← hs]
  clear hs hxl hn
  have kc := fun (W : World) (C : Array Value) (m c : Nat) => Lib.run_convert_bytes_const (P := Tryz.prog) W 56 5 C m c Tryz.underlying56 Tryz.underlying5
  by_cases hm : (Lx.pre2 60 62 (x :: r) || Lx.pre2 60 61 (x :: r) || Lx.pre2 62 61 (x :: r)) = true
  · cases r with
    | nil => exact absurd hm (by simp [Lx.pre2])
    | cons y t =>
      have hs2 := HS2.out y t rfl
      have HF : Hid (l.take (Lx.sgn l) = [x, y]) := by
        show _ = _
        rw [HX.out.1, Lx.sgn, if_pos hm]; rfl
      have q0 : (1 : Int) < n := by rw [HX.out.2, HX.out.1]; simp; omega
      rw [Lx.pre2_eq, Lx.pre2_eq, Lx.pre2_eq] at hm
      obtain ⟨tb, htb⟩ : ∃ tb, tb = Lx.bs [x, y] := ⟨_, rfl⟩
      have hl2 : tb.toList = [x, y] := by rw [htb, Lx.bs_toList]
      rw [← hl2] at hm
      rw [← htb] at hs2
      have HTB : Hid (tb = Lx.bs [x, y]) := htb
      clear htb hl2 kc hx0 hs1
      obtain ⟨b1, h1⟩ : ∃ b, b = (tb.toList == [60, 62]) := ⟨_, rfl⟩
      obtain ⟨b2, h2⟩ : ∃ b, b = (tb.toList == [60, 61]) := ⟨_, rfl⟩
      obtain ⟨b3, h3⟩ : ∃ b, b = (tb.toList == [62, 61]) := ⟨_, rfl⟩
      rw [← h1, ← h2, ← h3] at hm
      have k1 := h1.symm
      have k2 := h2.symm
      have k3 := h3.symm
      clear h1 h2 h3
      go_enter Tryz.func41, Tryz.ntmps41
      cases b1 with
      | true =>
        go_wp2
        go_ret
        exact ⟨by rw [HF.out, ← HTB.out]; rfl, Below.refl _ _⟩
      | false =>
        cases b2 with
        | true =>
          go_wp2
          go_ret
          exact ⟨by rw [HF.out, ← HTB.out]; rfl, Below.refl _ _⟩
        | false =>
          cases b3 with
          | true =>
            go_wp2
            go_ret
            exact ⟨by rw [HF.out, ← HTB.out]; rfl, Below.refl _ _⟩
          | false => cases hm
  · have hm2 : (Lx.pre2 60 62 (x :: r) || Lx.pre2 60 61 (x :: r) || Lx.pre2 62 61 (x :: r)) = false := by simpa using hm
    have HF : Hid (l.take (Lx.sgn l) = if Lx.signs.contains x then [x] else []) := by
      show _ = _
      rw [HX.out.1, Lx.rsgn_one x r hm2]
      split <;> rfl
    clear hm
    obtain ⟨w1, hw1⟩ : ∃ w1, w1 = w.alloc (.cells #[.int .u8 61, .int .u8 60, .int .u8 62, .int .u8 43, .int .u8 45, .int .u8 42, .int .u8 40, .int .u8 41, .int .u8 91, .int .u8 93, .int .u8 123, .int .u8 125, .int .u8 44, .int .u8 58, .int .u8 46] 5 (15, 16)) := ⟨_, rfl⟩
    have S1 : Hid (SG w w1) := by rw [hw1]; exact SG.start w 5 _
    have hc1 : (convert 56 56 (.slice (some ⟨w.heap.size, 0, none⟩) 15 15)).run Tryz.prog (w.alloc (.cells #[.int .u8 61, .int .u8 60, .int .u8 62, .int .u8 43, .int .u8 45, .int .u8 42, .int .u8 40, .int .u8 41, .int .u8 91, .int .u8 93, .int .u8 123, .int .u8 125, .int .u8 44, .int .u8 58, .int .u8 46] 5)) = .ok (.slice (some ⟨w.heap.size, 0, none⟩) 15 15) w1 := by rw [hw1]; exact kc w _ 15 15
    clear hw1 kc
    go_enter Tryz.func41, Tryz.ntmps41
    cases r with
    | nil =>
      have q0 : ¬ (1 : Int) < n := by rw [HX.out.2, HX.out.1]; simp
      clear hm2
      go_upto_region 4 with fail
      go_loopw [28] (fun i wr => ∃ j : Nat, j ≤ 15 ∧ i = .int .i64 (j : Int) ∧ wr = w1 ∧ ∀ b ∈ Lx.signs.take j, b ≠ x) (fun i _ => 15 - (intOf i).toNat)
      case atStart => exact ⟨0, Nat.zero_le _, rfl, rfl, fun b hb => by simp at hb⟩
      case round =>
        obtain ⟨j, hj, rfl, hwr, hno⟩ := hrel
        subst hwr
        have HNO : Hid (∀ b ∈ Lx.signs.take j, b ≠ x) := hno
        have HB := S1.out.1
        clear hno
        by_cases hlt : j < 15
        · have q1 : (j : Int) < 15 := by omega
          obtain ⟨k, hk⟩ : ∃ k, Lx.signs[j]? = some k := ⟨_, List.getElem?_eq_getElem (show j < Lx.signs.length from hlt)⟩
          have p0 := S1.out.2 j k hk
          have HK : Hid (Lx.signs[j]? = some k) := hk
          clear hk
          by_cases he : x = k
          · have q2 : ((x.toNat : Int) == (k.toNat : Int)) = true := by rw [he]; simp
            have HFF : Hid (l.take (Lx.sgn l) = [x]) := by
              show _ = _
              rw [HF.out, if_pos]
              have := List.mem_of_getElem? HK.out
              rw [he]
              simpa using this
            clear he
            go_wp2
            go_ret
            exact ⟨by rw [HFF.out]; rfl, HB⟩
          · have q2 : ((x.toNat : Int) == (k.toNat : Int)) = false := by
              rw [beq_eq_false_iff_ne]
              intro e
              exact he (by rw [← UInt8.toNat_inj]; omega)
            have HN : Hid (∀ b ∈ Lx.signs.take (j + 1), b ≠ x) := fun b hb => by
              rw [List.take_add_one, HK.out] at hb
              rcases List.mem_append.1 hb with h | h
              · exact HNO.out b h
              · simp at h
                subst h
                exact fun e => he e.symm
            clear he
            go_wp2
            go_roundw
            case rel => first | exact ⟨j + 1, by omega, by go_num, rfl, HN.out⟩ | exact ⟨j + 1, by omega, by go_num, trivial, HN.out⟩
            case measure => simp [intOf]; omega
        · have q1 : ¬ (j : Int) < 15 := by omega
          have HFF : Hid (l.take (Lx.sgn l) = []) := by
            show _ = _
            rw [HF.out, if_neg]
            intro h
            have h1 : x ∈ Lx.signs := by simpa using h
            refine HNO.out x ?_ rfl
            rw [List.take_of_length_le (show Lx.signs.length ≤ j by show 15 ≤ j; omega)]
            exact h1
          go_wp2
          go_ret
          exact ⟨by rw [HFF.out]; rfl, HB⟩
    | cons y t =>
      have hs2 := HS2.out y t rfl
      have q0 : (1 : Int) < n := by rw [HX.out.2, HX.out.1]; simp; omega
      rw [Lx.pre2_eq, Lx.pre2_eq, Lx.pre2_eq] at hm2
      obtain ⟨tb, htb⟩ : ∃ tb, tb = Lx.bs [x, y] := ⟨_, rfl⟩
      have hl2 : tb.toList = [x, y] := by rw [htb, Lx.bs_toList]
      rw [← hl2] at hm2
      rw [← htb] at hs2
      obtain ⟨hm3, k3⟩ := Bool.or_eq_false_iff.1 hm2
      obtain ⟨k1, k2⟩ := Bool.or_eq_false_iff.1 hm3
      clear htb hl2 hm2 hm3
      go_upto_region 4 with fail
      go_loopw [28] (fun i wr => ∃ j : Nat, j ≤ 15 ∧ i = .int .i64 (j : Int) ∧ wr = w1 ∧ ∀ b ∈ Lx.signs.take j, b ≠ x) (fun i _ => 15 - (intOf i).toNat)
      case atStart => exact ⟨0, Nat.zero_le _, rfl, rfl, fun b hb => by simp at hb⟩
      case round =>
        obtain ⟨j, hj, rfl, hwr, hno⟩ := hrel
        subst hwr
        have HNO : Hid (∀ b ∈ Lx.signs.take j, b ≠ x) := hno
        have HB := S1.out.1
        clear hno
        by_cases hlt : j < 15
        · have q1 : (j : Int) < 15 := by omega
          obtain ⟨k, hk⟩ : ∃ k, Lx.signs[j]? = some k := ⟨_, List.getElem?_eq_getElem (show j < Lx.signs.length from hlt)⟩
          have p0 := S1.out.2 j k hk
          have HK : Hid (Lx.signs[j]? = some k) := hk
          clear hk
          by_cases he : x = k
          · have q2 : ((x.toNat : Int) == (k.toNat : Int)) = true := by rw [he]; simp
            have HFF : Hid (l.take (Lx.sgn l) = [x]) := by
              show _ = _
              rw [HF.out, if_pos]
              have := List.mem_of_getElem? HK.out
              rw [he]
              simpa using this
            clear he
            go_wp2
            go_ret
            exact ⟨by rw [HFF.out]; rfl, HB⟩
          · have q2 : ((x.toNat : Int) == (k.toNat : Int)) = false := by
              rw [beq_eq_false_iff_ne]
              intro e
              exact he (by rw [← UInt8.toNat_inj]; omega)
            have HN : Hid (∀ b ∈ Lx.signs.take (j + 1), b ≠ x) := fun b hb => by
              rw [List.take_add_one, HK.out] at hb
              rcases List.mem_append.1 hb with h | h
              · exact HNO.out b h
              · simp at h
                subst h
                exact fun e => he e.symm
            clear he
            go_wp2
            go_roundw
            case rel => first | exact ⟨j + 1, by omega, by go_num, rfl, HN.out⟩ | exact ⟨j + 1, by omega, by go_num, trivial, HN.out⟩
            case measure => simp [intOf]; omega
        · have q1 : ¬ (j : Int) < 15 := by omega
          have HFF : Hid (l.take (Lx.sgn l) = []) := by
            show _ = _
            rw [HF.out, if_neg]
            intro h
            have h1 : x ∈ Lx.signs := by simpa using h
            refine HNO.out x ?_ rfl
            rw [List.take_of_length_le (show Lx.signs.length ≤ j by show 15 ≤ j; omega)]
            exact h1
          go_wp2
          go_ret
          exact ⟨by rw [HFF.out]; rfl, HB⟩
end Go.Proofs.YtdejnphiejkglaaGreatDoor
