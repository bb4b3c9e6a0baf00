/- The law MerkleAsked, walked: a tree answers the same however often it is asked; what it answered is its asker's own. -/
import Derived.Test.YthheebnmdfggnabDoorMkT
import Derived.Test.YthheebnmdfggnabDoorMkNd
import Derived.Test.YthheebnmdfggnabDoorMkRb
namespace Go.Proofs.YthheebnmdfggnabDoor
open Go.RowKit
attribute [local go_sem ↓] Go.wp_at_zero Go.wp_at_succ
/-- a row of texts whose cells may be turned -/
def Rw (W : World) (base g m : Nat) : Prop := base ≤ g ∧ ∃ cur, W.heap[g]? = some (.cells cur 9 (0, 0)) ∧ cur.size = m
theorem Rw.of {W : World} {base g m : Nat} {xs : List Value} (h : W.ownsRow base 9 1 (.slice (some ⟨g, 0, none⟩) m m) m xs) : Rw W base g m := by
  rcases h.2 with ⟨e, _⟩ | ⟨g', cap, cur, e, hb, hc, _, _, hs, _⟩
  · cases e
  · injection e with e1 _ e3
    injection e1 with e1
    injection e1 with e1
    subst e1 e3
    exact ⟨hb, cur, hc, by rw [hs, Nat.mul_one]⟩
theorem Rw.set {W : World} {base g m j : Nat} (h : Rw W base g m) (x : Value) : Rw (W.setCell ⟨g, j, none⟩ x) base g m := by
  obtain ⟨h1, cur, h2, h3⟩ := h
  exact ⟨h1, _, heap_setCell_same W g j cur 9 x h2, by rw [Array.size_setIfInBounds]; exact h3⟩
theorem Rw.cell {W : World} {base g m : Nat} (h : Rw W base g m) (j : Nat) (hj : j < m) : (∃ v, W.cell? ⟨g, j, none⟩ = some v) ∧ W.frozen? ⟨g, j, none⟩ = false := by
  obtain ⟨h1, cur, h2, h3⟩ := h
  exact ⟨⟨_, by rw [cell_of_row W _ _ _ 9 (0, 0) h2]; exact Array.getElem?_eq_getElem (by omega)⟩, row_free h2 j⟩
theorem grt_heap {W W' : World} {b g : Nat} {l : List (List UInt8)} {cur : Array Value} {fr : Nat × Nat} (hT : Tr W b l) (hg : Gr b W W') (h : W.heap[g]? = some (.cells cur 9 fr)) : W'.heap[g]? = some (.cells cur 9 fr) := by
  refine (hg.block g (Array.getElem?_eq_some_iff.1 h).1 (fun q => ?_)).trans h
  injection q with q
  subst q
  rcases hT with ⟨_, ⟨g', _, h2, _⟩ | ⟨p, h2, _⟩⟩
  · rw [h2] at h; simp at h
  · rw [h2] at h; simp at h
theorem Rw.gr {W W' : World} {base b g m : Nat} {l : List (List UInt8)} (h : Rw W base g m) (hT : Tr W b l) (hg : Gr b W W') : Rw W' base g m := by
  obtain ⟨h1, cur, h2, h3⟩ := h
  exact ⟨h1, cur, grt_heap hT hg h2, h3⟩
set_option maxHeartbeats 16000000 in
set_option maxRecDepth 10000 in
theorem asked_c (a : Option Addr) (c n : Nat) (hnc : n ≤ c) (l : List (List UInt8)) (hx : ∀ x ∈ l, x.length ≤ 140737488355328) (i : Int) (w : World) (hK : HasK w) (hS : Sl w w.heap.size (.slice a n c) l) :
    Calls Tryd.prog 3 #[.slice a n c, .int .i64 i] w fun e w' => e = .returned (.bool true) ∧ Below w.heap.size w w' := by
  have HK : Hid (∀ W, Below w.heap.size w W → HasK W) := fun W hW => hK.below hK.1 hW
  have h0 : 0 < w.heap.size := hK.1
  have HS : Hid (Sl w w.heap.size (.slice a n c) l) := hS
  have HN : Hid (n = l.length) := hS.len
  have CL : Hid (Calls Tryd.prog 5 #[] w fun e w' => e = .returned (.bool true) ∧ Below w.heap.size w w') := lives_c w hK
  by_cases hbig : 1024 < n
  · have CN : Hid (∀ W, Calls Tryd.prog 6 #[.slice a n c] W _) := fun W => new_no a c n hbig W
    clear hS hK hx
    go_enter Tryd.func3, Tryd.ntmps3
    go_wp2_with fail
    refine CL.out.mono ?_
    rintro e w1 ⟨rfl, hb⟩
    clear CL
    go_wp2_with fail
    refine (CN.out _).mono ?_
    rintro e w2 ⟨rfl, rfl⟩
    clear CN
    go_wp2
    go_ret
    exact ⟨rfl, hb⟩
  have hn : n ≤ 1024 := by omega
  have CN : Hid (∀ W, Below w.heap.size w W → Calls Tryd.prog 6 #[.slice a n c] W fun e w' => ∃ b : Nat, e = .returned (.tuple #[.pointer (some ⟨b, 0, none⟩), .int .i64 0]) ∧ w.heap.size ≤ b ∧ Tr w' b l ∧ Below w.heap.size w w') := fun W hW => by
    refine (new_yes a c n hn w.heap.size l hx W hW.size (HS.out.stays hW (Nat.le_refl _))).mono ?_
    rintro e w' ⟨b, rfl, hb, hT, hB⟩
    have hsz := hW.size
    exact ⟨b, rfl, by omega, hT.tr (by omega), hW.trans (hB.mono hsz)⟩
  obtain ⟨r, hr⟩ : ∃ r : ByteArray, r = bs (Mk.root l) := ⟨_, rfl⟩
  have hrs : r.size = 32 := by rw [hr, bs_size, Mk.root_length]
  have CR : Hid (∀ W b, Below w.heap.size w W → Tr W b l → Calls Tryd.prog 8 #[.pointer (some ⟨b, 0, none⟩)] W fun e w' => e = .returned (.string r) ∧ Td w' b l ∧ Gr b W w') := fun W b hW hT => by
    rw [hr]; exact root_d b l (by rw [← HN.out]; exact hn) hx W (HK.out W hW) hT
  have qr : (r.toList == r.toList) = true := beq_self_eq_true _
  by_cases hi : i < 0 ∨ (n : Int) ≤ i
  · have CP : Hid (∀ W b, Tr W b l → Calls Tryd.prog 7 #[.pointer (some ⟨b, 0, none⟩), .int .i64 i] W fun e w' => e = .returned (.tuple #[.slice none 0 0, .int .i64 2]) ∧ W = w') := fun W b hT => path_out b l.length i W hT.cells.1 (by rw [← HN.out]; exact hi)
    have CQ : Hid (∀ W, Calls Tryd.prog 9 #[.slice a n c, .int .i64 i] W fun e w' => e = .returned (.tuple #[.slice none 0 0, .int .i64 2]) ∧ W = w') := fun W => rPath_out a n c i hi W
    have CS : Hid (∀ W, Calls Tryd.prog 10 #[.slice none 0 0, .slice none 0 0] W fun e w' => e = .returned (.bool true) ∧ Below W.heap.size W w') := fun W => by
      have := same_c none 0 0 none 0 0 [] [] (by simp) (by simp) 0 W (Nat.zero_le _) (.inl ⟨rfl, none, 0, rfl⟩) (.inl ⟨rfl, none, 0, rfl⟩)
      simpa using this
    clear hS hK hx hr hi
    go_enter Tryd.func3, Tryd.ntmps3
    go_wp2_with fail
    refine CL.out.mono ?_
    rintro e w1 ⟨rfl, hb1⟩
    clear CL
    go_wp2_with fail
    refine (CN.out _ hb1).mono ?_
    rintro e w2 ⟨b, rfl, hab, hT2, hB2⟩
    have T2 : Hid (Tr w2 b l ∧ w.heap.size ≤ b ∧ Below w.heap.size w w2) := ⟨hT2, hab, hB2⟩
    clear CN hT2 hab hB2 hb1
    go_wp2_with fail
    refine (CP.out _ _ T2.out.1).mono ?_
    rintro e w3 ⟨rfl, rfl⟩
    go_wp2_with fail
    refine (CR.out _ _ T2.out.2.2 T2.out.1).mono ?_
    rintro e w4 ⟨rfl, hT4, hG4⟩
    have T4 : Hid (Tr w4 b l ∧ w.heap.size ≤ b ∧ Below w.heap.size w w4) := ⟨hT4.tr, T2.out.2.1, T2.out.2.2.trans (hG4.below T2.out.2.1 T2.out.2.2.size)⟩
    clear hT4 hG4 T2
    go_wp2
    go_loopw [36] (fun u wr => u = .int .i64 0 ∧ wr = w4) (fun _ _ => 0)
    case atStart => exact ⟨rfl, rfl⟩
    case round =>
      obtain ⟨rfl, rfl⟩ := hrel
      go_wp2_with fail
      refine (CP.out _ _ T4.out.1).mono ?_
      rintro e w5 ⟨rfl, rfl⟩
      go_wp2_with fail
      refine (CQ.out _).mono ?_
      rintro e w6 ⟨rfl, rfl⟩
      go_wp2_with fail
      refine (CS.out _).mono ?_
      rintro e w7 ⟨rfl, hb7⟩
      have T7 : Hid (Tr w7 b l ∧ w.heap.size ≤ b ∧ Below w.heap.size w w7) := ⟨T4.out.1.call hb7, T4.out.2.1, T4.out.2.2.trans (hb7.mono T4.out.2.2.size)⟩
      clear hb7
      go_wp2_with fail
      refine (CR.out _ _ T7.out.2.2 T7.out.1).mono ?_
      rintro e w8 ⟨rfl, hT8, hG8⟩
      have B8 : Hid (Below w.heap.size w w8) := T7.out.2.2.trans (hG8.below T7.out.2.1 T7.out.2.2.size)
      clear hT8 hG8
      go_wp2
      go_ret
      exact ⟨rfl, B8.out⟩
  · obtain ⟨j, rfl⟩ := Int.eq_ofNat_of_zero_le (show 0 ≤ i by omega)
    have hj : j < n := by omega
    obtain ⟨P, hP⟩ : ∃ P, P = Mk.path l j := ⟨_, rfl⟩
    have hPl : P.length ≤ 10 := by rw [hP]; exact Mk.path_len _ _ (by rw [← HN.out]; exact hn)
    obtain ⟨m, hm⟩ : ∃ m, m = P.length := ⟨_, rfl⟩
    have CP : Hid (∀ W b, Below w.heap.size w W → Tr W b l → Calls Tryd.prog 7 #[.pointer (some ⟨b, 0, none⟩), .int .i64 (j : Int)] W fun e w' => ∃ g, e = .returned (.tuple #[.slice (some ⟨g, 0, none⟩) m m, .int .i64 0]) ∧ w'.ownsRow W.heap.size 9 1 (.slice (some ⟨g, 0, none⟩) m m) m (scs P) ∧ Td w' b l ∧ Gr b W w') := fun W b hW hT => by
      refine (path_d b l (by rw [← HN.out]; exact hn) hx j (by rw [← HN.out]; exact hj) W (HK.out W hW) hT).mono ?_
      rintro e w' ⟨g, m', rfl, ho, hT', hG⟩
      rw [← hP] at ho
      have : m' = m := by have := ho.1; rw [scs_length] at this; omega
      subst this
      exact ⟨g, rfl, ho, hT', hG⟩
    have CQ : Hid (∀ W, Below w.heap.size w W → Calls Tryd.prog 9 #[.slice a n c, .int .i64 (j : Int)] W fun e w' => ∃ va vc, e = .returned (.tuple #[.slice va m vc, .int .i64 0]) ∧ w'.ownsRow W.heap.size 9 1 (.slice va m vc) m (scs P) ∧ Below W.heap.size W w') := fun W hW => by
      refine (rPath_in l (by rw [← HN.out]; exact hn) hx j (by rw [← HN.out]; exact hj) a n c w.heap.size W hW.size hnc (HS.out.stays hW (Nat.le_refl _))).mono ?_
      rintro e w' ⟨v, rfl, ho, hb⟩
      rw [← hP, ← hm] at ho
      rcases ho.2 with ⟨e1, e2⟩ | ⟨g, cap, cur, e1, _⟩
      · subst e1
        rw [e2] at ho ⊢
        exact ⟨_, _, rfl, ho, hb⟩
      · subst e1
        exact ⟨_, _, rfl, ho, hb⟩
    have CS : Hid (∀ W va vc g, Sl W W.heap.size (.slice va m vc) P → Sl W W.heap.size (.slice (some ⟨g, 0, none⟩) m m) P → Calls Tryd.prog 10 #[.slice (some ⟨g, 0, none⟩) m m, .slice va m vc] W fun e w' => e = .returned (.bool true) ∧ Below W.heap.size W w') := fun W va vc g h1 h2 => by
      have := same_c (some ⟨g, 0, none⟩) m m va m vc P P (by omega) (by omega) W.heap.size W (Nat.le_refl _) h2 h1
      simpa using this
    have HM : Hid (m = P.length) := hm
    have hm10 : m ≤ 10 := by omega
    clear hS hK hx hr hi hP hm hPl
    go_enter Tryd.func3, Tryd.ntmps3
    go_wp2_with fail
    refine CL.out.mono ?_
    rintro e w1 ⟨rfl, hb1⟩
    clear CL
    go_wp2_with fail
    refine (CN.out _ hb1).mono ?_
    rintro e w2 ⟨b, rfl, hab, hT2, hB2⟩
    have T2 : Hid (Tr w2 b l ∧ w.heap.size ≤ b ∧ Below w.heap.size w w2) := ⟨hT2, hab, hB2⟩
    clear CN hT2 hab hB2 hb1
    go_wp2_with fail
    refine (CP.out _ _ T2.out.2.2 T2.out.1).mono ?_
    rintro e w3 ⟨g, rfl, ho3, hT3, hG3⟩
    have T3 : Hid (Td w3 b l ∧ w.heap.size ≤ b ∧ Below w.heap.size w w3) := ⟨hT3, T2.out.2.1, T2.out.2.2.trans (hG3.below T2.out.2.1 T2.out.2.2.size)⟩
    have R3 : Hid (Rw w3 w.heap.size g m) := by
      have := Rw.of ho3
      exact ⟨Nat.le_trans T2.out.2.2.size this.1, this.2⟩
    clear ho3 hT3 hG3 T2
    go_wp2_with fail
    refine (CR.out _ _ T3.out.2.2 T3.out.1.tr).mono ?_
    rintro e w4 ⟨rfl, hT4, hG4⟩
    have T4 : Hid (Td w4 b l ∧ w.heap.size ≤ b ∧ Below w.heap.size w w4) := ⟨hT4, T3.out.2.1, T3.out.2.2.trans (hG4.below T3.out.2.1 T3.out.2.2.size)⟩
    have R4 : Hid (Rw w4 w.heap.size g m) := R3.out.gr T3.out.1.tr hG4
    clear hT4 hG4 T3 R3
    go_wp2
    go_loopw [36] (fun u wr => ∃ k : Nat, k ≤ m ∧ u = .int .i64 (k : Int) ∧ Td wr b l ∧ Below w.heap.size w wr ∧ Rw wr w.heap.size g m) (fun u _ => m - (intOf u).toNat)
    case atStart => exact ⟨0, Nat.zero_le _, rfl, T4.out.1, T4.out.2.2, R4.out⟩
    case round =>
      obtain ⟨k, hk, rfl, hT, hB, hR⟩ := hrel
      have AB : Hid (w.heap.size ≤ b) := T4.out.2.1
      clear T4 R4
      by_cases hlt : k < m
      · obtain ⟨⟨vv, cc⟩, fz⟩ := hR.cell k hlt
        have HT : Hid (Td wr b l ∧ Below w.heap.size w wr ∧ Rw wr w.heap.size g m) := ⟨hT, hB, hR⟩
        have k0 : (0 : Int) ≤ (k : Int) := by omega
        have k1 : (k : Int) < (m : Int) := by omega
        clear hT hB hR
        go_wp2
        go_roundw
        case rel =>
          obtain ⟨h1, cur, h2, h3⟩ := HT.out.2.2
          exact ⟨k + 1, by omega, by go_num, HT.out.1.stored h2 _, HT.out.2.1.setCell (p := ⟨g, k, none⟩) h1 _, HT.out.2.2.set _⟩
        case measure => simp [intOf]; omega
      · have hkm : k = m := by omega
        subst hkm
        have T5 : Hid (Tr wr b l ∧ Below w.heap.size w wr) := ⟨hT.tr, hB⟩
        clear hT hB hR
        go_wp2_with fail
        refine (CP.out _ _ T5.out.2 T5.out.1).mono ?_
        rintro e w5 ⟨g5, rfl, ho5, hT5, hG5⟩
        have T6 : Hid (Tr w5 b l ∧ Below w.heap.size w w5) := ⟨hT5.tr, T5.out.2.trans (hG5.below AB.out T5.out.2.size)⟩
        have O5 : Hid (w5.ownsRow wr.heap.size 9 1 (.slice (some ⟨g5, 0, none⟩) k k) k (scs P)) := ho5
        clear ho5 hT5 hG5
        go_wp2_with fail
        refine (CQ.out _ T6.out.2).mono ?_
        rintro e w6 ⟨va, vc, rfl, ho6, hb6⟩
        have T7 : Hid (Tr w6 b l ∧ Below w.heap.size w w6) := ⟨T6.out.1.call hb6, T6.out.2.trans (hb6.mono T6.out.2.size)⟩
        have S6 : Hid (Sl w6 w6.heap.size (.slice va k vc) P ∧ Sl w6 w6.heap.size (.slice (some ⟨g5, 0, none⟩) k k) P) := ⟨own_sl (by rw [← HM.out]; exact ho6), own_sl (by rw [← HM.out]; exact own_stays O5.out hb6)⟩
        clear ho6 hb6 O5 T6
        go_wp2_with fail
        refine (CS.out _ _ _ _ S6.out.1 S6.out.2).mono ?_
        rintro e w7 ⟨rfl, hb7⟩
        have T8 : Hid (Tr w7 b l ∧ Below w.heap.size w w7) := ⟨T7.out.1.call hb7, T7.out.2.trans (hb7.mono T7.out.2.size)⟩
        clear hb7 T7 S6
        go_wp2_with fail
        refine (CR.out _ _ T8.out.2 T8.out.1).mono ?_
        rintro e w8 ⟨rfl, hT8, hG8⟩
        have B8 : Hid (Below w.heap.size w w8) := T8.out.2.trans (hG8.below AB.out T8.out.2.size)
        clear hT8 hG8
        go_wp2
        go_ret
        exact ⟨rfl, B8.out⟩
end Go.Proofs.YthheebnmdfggnabDoor
