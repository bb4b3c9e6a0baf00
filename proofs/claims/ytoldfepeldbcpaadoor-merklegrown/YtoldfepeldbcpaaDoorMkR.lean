/- The root of all that came. -/
import Derived.Test.YtoldfepeldbcpaaDoorMkQ
namespace Go.Proofs.YtoldfepeldbcpaaDoor
open Go.RowKit
namespace Mk
theorem topM_step {l : List Bs} {j : Nat} {x : Bs} (hx : l[j]? = some x) (hj : j + 1 < l.length) : topM (l.drop j) = node x (topM (l.drop (j + 1))) := by
  obtain ⟨hjl, e⟩ := List.getElem?_eq_some_iff.1 hx
  rw [List.drop_eq_getElem_cons hjl, e, topM_cons]
  intro h
  have := congrArg List.length h
  rw [List.length_drop] at this
  simp at this
  omega
theorem topM_last {l : List Bs} {j : Nat} {x : Bs} (hx : l[j]? = some x) (hj : j + 1 = l.length) : topM (l.drop j) = x := by
  obtain ⟨hjl, e⟩ := List.getElem?_eq_some_iff.1 hx
  rw [List.drop_eq_getElem_cons hjl, e, List.drop_eq_nil_of_le (by omega)]
  rfl
theorem topM_32 {l : List Bs} (h : ∀ x ∈ l, x.length = 32) : (topM l).length = 32 := by
  match l with
  | [] => exact sum_length _
  | [x] => exact h x (by simp)
  | x :: y :: l => exact node_length _ _
end Mk
theorem ones_ne {n : Nat} (h : n ≠ 0) : Mk.ones n ≠ 0 := by
  induction n using Nat.strongRecOn with
  | _ n ih =>
    rw [Mk.ones_step]
    by_cases h1 : n % 2 = 1
    · omega
    · have := ih (n / 2) (by omega) (by omega)
      omega
set_option maxHeartbeats 4000000 in
set_option maxRecDepth 10000 in
theorem top_no (c : Int) (ta : Option Addr) (tn tc : Nat) (l : List (List UInt8)) (hl : l.length ≤ 9223372036854775807) (H : Nat) (w : World) (hH : H ≤ w.heap.size) (hS : Sl w H (.slice ta tn tc) l) (hr : Mk.rightP c l = false) :
    Calls Tryd.prog 13 #[.agg #[.int .i64 c, .slice ta tn tc]] w fun e w' => e = .returned (.tuple #[.string ⟨#[]⟩, .int .i64 6]) ∧ Below w.heap.size w w' := by
  have CR : Hid (∀ W, Below w.heap.size w W → Calls Tryd.prog 30 #[.agg #[.int .i64 c, .slice ta tn tc]] W fun e w' => e = .returned (.bool false) ∧ Below W.heap.size W w') := fun W hW => by
    rw [← hr]; exact rightPeaks_c c ta tn tc l hl H W (Nat.le_trans hH hW.size) (hS.stays hW hH)
  clear hS hr hl
  go_enter Tryd.func13, Tryd.ntmps13
  go_wp2_with fail
  refine (CR.out _ ((Below.refl _ _).alloc (Nat.le_refl _) _)).mono ?_
  rintro e w1 ⟨rfl, hb1⟩
  have X : Hid (Bx2 w w.heap.size 35 (.int .i64 c) (.slice ta tn tc) w1) := (Bx2.start w _ _ _).call hb1
  clear hb1
  go_wp2
  go_ret2
  exact ⟨rfl, X.out.2.2.2⟩
set_option maxHeartbeats 8000000 in
set_option maxRecDepth 10000 in
theorem top_yes (n : Nat) (hn : n ≤ 1024) (ta : Option Addr) (tn tc : Nat) (l : List (List UInt8)) (hl : l.length = Mk.ones n) (hl2 : l.length ≤ 1024) (h32 : ∀ x ∈ l, x.length = 32) (H : Nat) (w : World) (hK : HasK w) (hH : H ≤ w.heap.size) (hS : Sl w H (.slice ta tn tc) l) :
    Calls Tryd.prog 13 #[.agg #[.int .i64 (n : Int), .slice ta tn tc]] w fun e w' => e = .returned (.tuple #[.string (bs (Mk.topM l)), .int .i64 0]) ∧ Below w.heap.size w w' := by
  have hr : Mk.rightP (n : Int) l = true := by
    rw [Mk.rightP_in hn, hl, all32_mk h32]; simp
  have CR : Hid (∀ W, Below w.heap.size w W → Calls Tryd.prog 30 #[.agg #[.int .i64 (n : Int), .slice ta tn tc]] W fun e w' => e = .returned (.bool true) ∧ Below W.heap.size W w') := fun W hW => by
    rw [← hr]; exact rightPeaks_c n ta tn tc l (by omega) H W (Nat.le_trans hH hW.size) (hS.stays hW hH)
  have HK : Hid (HasK w) := hK
  by_cases h0 : n = 0
  · subst h0
    have e : l = [] := List.eq_nil_of_length_eq_zero (by rw [hl, Mk.ones_zero])
    subst e
    obtain ⟨d, hd⟩ : ∃ d : ByteArray, d = bs (Mk.topM []) := ⟨_, rfl⟩
    have C : Hid (∀ W, Below w.heap.size w W → Calls Tryd.prog 10 #[.string ⟨#[]⟩] W fun e w' => e = .returned (.string d) ∧ Below W.heap.size W w') := fun W hW => by
      rw [hd]; exact sum9 ⟨#[]⟩ (by decide) W (hK.below hK.1 hW)
    rw [← hd]
    clear hS hr hl hd h32 hl2
    go_enter Tryd.func13, Tryd.ntmps13
    go_wp2_with fail
    refine (CR.out _ ((Below.refl _ _).alloc (Nat.le_refl _) _)).mono ?_
    rintro e w1 ⟨rfl, hb1⟩
    have X : Hid (Bx2 w w.heap.size 35 (.int .i64 0) (.slice ta tn tc) w1) := (Bx2.start w _ _ _).call hb1
    obtain ⟨c0, c1⟩ := X.out.cells
    clear hb1
    go_wp2_with fail
    refine (C.out _ X.out.2.2.2).mono ?_
    rintro e w2 ⟨rfl, hb2⟩
    have X2 : Hid (Below w.heap.size w w2) := (X.out.call hb2).2.2.2
    clear hb2
    go_wp2
    go_ret2
    exact ⟨rfl, X2.out⟩
  · have HTN : Hid (tn = l.length) := hS.len
    have hpos : 1 ≤ tn := by have := ones_ne h0; have := HTN.out; omega
    obtain ⟨L, hL⟩ : ∃ L, tn = L + 1 := ⟨tn - 1, by omega⟩
    subst hL
    obtain ⟨b, off, rfl, -, hbH, hc⟩ := hS.at (by have := HTN.out; omega)
    obtain ⟨x, hx⟩ : ∃ x, l[L]? = some x := ⟨_, List.getElem?_eq_getElem (by have := HTN.out; omega)⟩
    obtain ⟨xs, hxs⟩ : ∃ xs : ByteArray, xs = bs x := ⟨_, rfl⟩
    have hx32 : x.length = 32 := h32 x (List.mem_of_getElem? hx)
    have hxz : xs.size ≤ 281474976710656 := by rw [hxs, bs_size]; omega
    have cx : w.cell? ⟨b, off + L, none⟩ = some (.string xs) := by rw [hxs]; exact hc L x hx
    have HXS : Hid (xs = bs (Mk.topM (l.drop L))) := by show _ = _; rw [hxs, Mk.topM_last hx (by have := HTN.out; omega)]
    have HC : Hid (∀ k x, l[k]? = some x → w.cell? ⟨b, off + k, none⟩ = some (encS x)) := hc
    have H32 : Hid (∀ x ∈ l, x.length = 32) := h32
    have q0 : ((n : Int) == 0) = false := by rw [beq_eq_false_iff_ne]; omega
    have hbw : b < w.heap.size := by omega
    have r0 : (0 : Int) ≤ (L : Int) := by omega
    have r1 : (L : Int) < (L : Int) + 1 := by omega
    have hL2 : L + 1 ≤ 1024 := by have := HTN.out; omega
    clear hS hr hl h32 hc hx hxs hx32 hl2
    go_enter Tryd.func13, Tryd.ntmps13
    go_wp2_with fail
    refine (CR.out _ ((Below.refl _ _).alloc (Nat.le_refl _) _)).mono ?_
    rintro e w1 ⟨rfl, hb1⟩
    have X : Hid (Bx2 w w.heap.size 35 (.int .i64 (n : Int)) (.slice (some ⟨b, off, none⟩) (L + 1) tc) w1) := (Bx2.start w _ _ _).call hb1
    obtain ⟨c0, c1⟩ := X.out.cells
    have cx1 : w1.cell? ⟨b, off + L, none⟩ = some (.string xs) := (X.out.2.2.2.cell (p := ⟨b, off + L, none⟩) hbw).trans cx
    clear hb1 CR cx
    go_wp2_with fail
    refine (sclone_c xs hxz _).mono ?_
    rintro e w2 ⟨rfl, hb2⟩
    have X2 : Hid (Bx2 w w.heap.size 35 (.int .i64 (n : Int)) (.slice (some ⟨b, off, none⟩) (L + 1) tc) w2) := X.out.call hb2
    clear hb2 X c0 c1 cx1
    go_wp2
    go_loopw [5, 27] (fun rv iv wr => ∃ (k : Nat) (rs : ByteArray), k ≤ L ∧ iv = .int .i64 (k : Int) ∧ rv = .string rs ∧ Hid (rs = bs (Mk.topM (l.drop (L - k)))) ∧ Bx2 w w.heap.size 35 (.int .i64 (n : Int)) (.slice (some ⟨b, off, none⟩) (L + 1) tc) wr) (fun _ iv _ => L - (intOf iv).toNat)
    case atStart => exact ⟨0, xs, Nat.zero_le _, rfl, rfl, HXS, X2.out⟩
    case round =>
      obtain ⟨k, rs, hk, rfl, rfl, hrs, hX⟩ := hrel
      clear X2
      by_cases hlt : k < L
      · obtain ⟨q, hq⟩ : ∃ q : Nat, q = L - 1 - k := ⟨_, rfl⟩
        have eq : (L : Int) - 1 - (k : Int) = (q : Int) := by omega
        have hqL : q < L := by omega
        obtain ⟨y, hy⟩ : ∃ y, l[q]? = some y := ⟨_, List.getElem?_eq_getElem (by have := HTN.out; omega)⟩
        obtain ⟨ys, hys⟩ : ∃ ys : ByteArray, ys = bs y := ⟨_, rfl⟩
        have cy : wr.cell? ⟨b, off + q, none⟩ = some (.string ys) := by rw [hys, hX.2.2.2.cell (p := ⟨b, off + q, none⟩) hbw]; exact HC.out q y hy
        obtain ⟨t2, ht2⟩ : ∃ t : ByteArray, t = bs (Mk.nodeT ys.data.toList rs.data.toList) := ⟨_, rfl⟩
        obtain ⟨d2, hd2⟩ : ∃ d : ByteArray, d = bs (Mk.topM (l.drop (L - (k + 1)))) := ⟨_, rfl⟩
        have hlk : L - (k + 1) = q := by omega
        have hlk2 : L - k = q + 1 := by omega
        have e2 : Mk.topM (l.drop (L - (k + 1))) = Sh.sum (Mk.nodeT ys.data.toList rs.data.toList) := by
          rw [hlk, Mk.topM_step hy (by have := HTN.out; omega), hys, hrs.out, hlk2]; rfl
        have CN : Hid (Calls Tryd.prog 32 #[.string ys, .string rs] wr fun e w' => e = .returned (.agg #[.string t2, .string d2]) ∧ Below wr.heap.size wr w') := by
          have := node_c ys rs (by rw [hys, bs_size, H32.out y (List.mem_of_getElem? hy)]; omega) (by rw [hrs.out, bs_size, Mk.topM_32 (fun z hz => H32.out z (List.mem_of_mem_drop hz))]; omega) wr (HK.out.below HK.out.1 hX.2.2.2)
          rw [ht2, hd2, e2]
          exact this
        have HD2 : Hid (d2 = bs (Mk.topM (l.drop (L - (k + 1))))) := hd2
        have hf2 := fun wx => field_made (.string t2) (.string d2) wx
        obtain ⟨c0, c1⟩ := hX.cells
        have HX : Hid (Bx2 w w.heap.size 35 (.int .i64 (n : Int)) (.slice (some ⟨b, off, none⟩) (L + 1) tc) wr) := hX
        have s1 : (0 : Int) ≤ (q : Int) := by omega
        have s2 : (q : Int) < (L : Int) + 1 := by omega
        clear hX hrs hq hy hys ht2 hd2 hlk hlk2 e2
        go_wp2_with fail
        refine CN.out.mono ?_
        rintro e w4 ⟨rfl, hb4⟩
        have X4 : Hid (Bx2 w w.heap.size 35 (.int .i64 (n : Int)) (.slice (some ⟨b, off, none⟩) (L + 1) tc) w4) := HX.out.call hb4
        clear hb4
        go_wp2
        go_roundw
        case rel => exact ⟨k + 1, d2, by omega, by go_num, rfl, HD2, X4.out⟩
        case measure => simp [intOf]; omega
      · have hkL : k = L := by omega
        subst hkL
        have HR : Hid (rs = bs (Mk.topM l)) := by show _ = _; rw [hrs.out, Nat.sub_self]; rfl
        clear hrs
        go_wp2
        go_ret2
        exact ⟨by rw [← HR.out]; rfl, hX.2.2.2⟩
end Go.Proofs.YtoldfepeldbcpaaDoor
