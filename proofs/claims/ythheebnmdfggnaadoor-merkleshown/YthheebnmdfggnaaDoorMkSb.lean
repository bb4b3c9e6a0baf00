/- Two texts of one digest, found by a path that shows another text. -/
import Derived.Test.YthheebnmdfggnaaDoorMkSa
import Derived.Test.YthheebnmdfggnaaDoorMkZ
namespace Go.Proofs.YthheebnmdfggnaaDoor
open Go.RowKit
attribute [local go_sem ↓] Go.wp_at_zero Go.wp_at_succ
namespace Mk
/-- what is found -/
def clashM (l : List Bs) (s x : Bs) (i : Nat) (q : List Bs) : Option (Bs × Bs) :=
  if showsZ (root l) s (i : Int) (l.length : Int) q && !(s == x) then alike (chainT (leafT s) (tw e1 (i + 1) l.length).reverse q) (chainT (leafT x) (tw e1 (i + 1) l.length).reverse (path l i)) else none
theorem shows_parts {r s : Bs} {i n : Nat} {q : List Bs} (hi : i < n) (hn : n ≤ 1024) (h : showsZ r s (i : Int) (n : Int) q = true) : q.length = (tw e1 (i + 1) n).length ∧ (∀ y ∈ q, y.length = 32) ∧ climb (leaf s) (tw e1 (i + 1) n).reverse q = r := by
  rw [showsZ_in hi hn] at h
  simp only [Bool.and_eq_true, beq_iff_eq] at h
  exact ⟨by omega, all32_of h.1.2, h.2⟩
/-- if something is shown that is not there, two unlike texts with one digest are found -/
theorem clash_some {l : List Bs} {s x : Bs} {i : Nat} {q : List Bs} (hi : l[i]? = some x) (hn : l.length ≤ 1024) (h : showsZ (root l) s (i : Int) (l.length : Int) q = true) (hne : s ≠ x) : ∃ a b, clashM l s x i q = some (a, b) ∧ a ≠ b ∧ Sh.sum a = Sh.sum b := by
  have h1 := (List.getElem?_eq_some_iff.1 hi).1
  obtain ⟨g1, g2, g3⟩ := shows_parts h1 hn h
  have hc : clashM l s x i q = alike (chainT (leafT s) (tw e1 (i + 1) l.length).reverse q) (chainT (leafT x) (tw e1 (i + 1) l.length).reverse (path l i)) := by
    unfold clashM
    rw [if_pos]
    rw [h]
    simpa using hne
  rw [hc]
  refine alike_chain _ q (path l i) _ _ (by rw [List.length_reverse]; exact g1.symm) (by simp [path, aside_length]) g2 (path_32 l i) (fun e => hne (by injection e)) ?_
  show climb (leaf s) _ _ = climb (leaf x) _ _
  rw [g3, climb_path hi]
end Mk
set_option maxHeartbeats 16000000 in
set_option maxRecDepth 10000 in
theorem clash_c (a : Option Addr) (c n : Nat) (l : List (List UInt8)) (hx : ∀ x ∈ l, x.length ≤ 140737488355328) (hn : n ≤ 1024) (i : Nat) (x : List UInt8) (hi : l[i]? = some x) (s : ByteArray) (hs : s.size ≤ 140737488355328) (qa : Option Addr) (qn qc : Nat) (q : List (List UInt8)) (hql : q.length ≤ 9223372036854775807) (w : World) (hK : HasK w) (hS : Sl w w.heap.size (.slice a n c) l) (hQ : Sl w w.heap.size (.slice qa qn qc) q) :
    Calls Tryd.prog 18 #[.slice a n c, .string s, .int .i64 (i : Int), .slice qa qn qc] w fun e w' => e = .returned (alikeV (Mk.clashM l s.data.toList x i q)) ∧ Below w.heap.size w w' := by
  have hnl : n = l.length := hS.len
  have hin : i < n := by have := (List.getElem?_eq_some_iff.1 hi).1; omega
  have hl : l.length ≤ 1024 := by omega
  have HK : Hid (∀ W, Below w.heap.size w W → HasK W) := fun W hW => hK.below hK.1 hW
  have h0 : 0 < w.heap.size := hK.1
  obtain ⟨b0, off, rfl, -, hb0, hc⟩ := hS.at (by omega)
  obtain ⟨xs, hxs⟩ : ∃ xs : ByteArray, xs = bs x := ⟨_, rfl⟩
  have HCX : Hid (∀ W, Below w.heap.size w W → W.cell? ⟨b0, off + i, none⟩ = some (.string xs)) := fun W hW => by
    rw [hxs]; exact (hW.cell (p := ⟨b0, off + i, none⟩) hb0).trans (hc i x hi)
  have hxsz : xs.size ≤ 140737488355328 := by rw [hxs, bs_size]; exact hx x (List.mem_of_getElem? hi)
  obtain ⟨r, hr⟩ : ∃ r : ByteArray, r = bs (Mk.root l) := ⟨_, rfl⟩
  obtain ⟨sh, hsh⟩ : ∃ sh, sh = Mk.showsZ (Mk.root l) s.data.toList (i : Int) (l.length : Int) q := ⟨_, rfl⟩
  have CN : Hid (Calls Tryd.prog 14 #[.slice (some ⟨b0, off, none⟩) n c] w fun e w' => ∃ b : Nat, e = .returned (.tuple #[.pointer (some ⟨b, 0, none⟩), .int .i64 0]) ∧ w.heap.size ≤ b ∧ Tr w' b l ∧ Below w.heap.size w w') := by
    show Calls _ _ _ _ _
    refine (new_yes _ c n hn w.heap.size l hx w (Nat.le_refl _) hS).mono ?_
    rintro e w' ⟨b, rfl, hb, hT, hB⟩
    exact ⟨b, rfl, hb, hT.tr (by omega), hB⟩
  have CR : Hid (∀ W b, Below w.heap.size w W → Tr W b l → Calls Tryd.prog 17 #[.pointer (some ⟨b, 0, none⟩)] W fun e w' => e = .returned (.string r) ∧ Tr w' b l ∧ Gr b W w') := fun W b hW hT => by
    rw [hr]; exact root_c b l hl hx W (HK.out W hW) hT
  have CS : Hid (∀ W, Below w.heap.size w W → Calls Tryd.prog 16 #[.string r, .string s, .int .i64 (i : Int), .int .i64 (n : Int), .slice qa qn qc] W fun e w' => e = .returned (.bool sh) ∧ Below W.heap.size W w') := fun W hW => by
    have := shows_c r s hs (i : Int) (n : Int) qa qn qc q hql w.heap.size W (HK.out W hW) hW.size (hQ.stays hW (Nat.le_refl _))
    rw [hr, data_bs, hnl, ← hsh] at this
    rw [hr, hnl]; exact this
  have CP : Hid (∀ W b, Below w.heap.size w W → Tr W b l → Calls Tryd.prog 15 #[.pointer (some ⟨b, 0, none⟩), .int .i64 (i : Int)] W fun e w' => ∃ g m, e = .returned (.tuple #[.slice (some ⟨g, 0, none⟩) m m, .int .i64 0]) ∧ w'.ownsRow W.heap.size 9 1 (.slice (some ⟨g, 0, none⟩) m m) m (scs (Mk.path l i)) ∧ Tr w' b l ∧ Gr b W w') := fun W b hW hT => path_in b l hl hx i (by omega) W (HK.out W hW) hT
  obtain ⟨way, hway⟩ : ∃ way, way = Mk.tw Mk.e1 (i + 1) l.length := ⟨_, rfl⟩
  obtain ⟨m, hm⟩ : ∃ m, m = way.length := ⟨_, rfl⟩
  have hm10 : m ≤ 10 := by rw [hm, hway]; exact Mk.tw_len _ 10 _ _ (by omega)
  have CT : Hid (∀ W, Calls Tryd.prog 35 #[.int .i64 (i : Int), .int .i64 (n : Int)] W fun e w' => ∃ wa wc, e = .returned (.slice wa m wc) ∧ Bl w' w'.heap.size (.slice wa m wc) way ∧ Below W.heap.size W w') := fun W => by
    refine (toText_c i n hin hn W).mono ?_
    rintro e w' ⟨v, rfl, ho, hb⟩
    rw [hnl, ← hway] at ho
    have hbl := own_bl ho
    obtain ⟨wa, wc, rfl⟩ := hbl.form
    rw [hm]
    exact ⟨wa, wc, rfl, hbl, hb⟩
  obtain ⟨o, ho⟩ : ∃ o, o = Mk.clashM l s.data.toList x i q := ⟨_, rfl⟩
  have HPL : Hid ((Mk.path l i).length = m) := by show _ = _; rw [hm, hway]; simp [Mk.path, Mk.aside_length]
  have CC : Hid (∀ W (t : ByteArray) ra rn rc wa wc (R : List (List UInt8)), Below w.heap.size w W → t.size ≤ 140737488355328 → R.length = m → (∀ y ∈ R, y.length = 32) → Bl W W.heap.size (.slice wa m wc) way → Sl W W.heap.size (.slice ra rn rc) R → Calls Tryd.prog 37 #[.string t, .slice wa m wc, .slice ra rn rc] W fun e w' => ∃ g c, e = .returned (.slice (some ⟨g, 0, none⟩) (m + 1) c) ∧ w'.ownsRow W.heap.size 51 2 (.slice (some ⟨g, 0, none⟩) (m + 1) c) (m + 1) (mcs (Mk.chainT (Mk.leafT t.data.toList) way.reverse R)) ∧ Below W.heap.size W w') := fun W t ra rn rc wa wc R hW ht hR h32 hB hS => by
    refine (chain_c t ht way R (by omega) (by omega) h32 (.slice wa m wc) ra rn rc W.heap.size W (HK.out W hW) (Nat.le_refl _) hB hS).mono ?_
    rintro e w' ⟨v, rfl, ho, hb⟩
    rw [← hm] at ho
    rcases ho.2 with ⟨_, h⟩ | ⟨g, cap, cur, h, _⟩
    · omega
    · subst h; exact ⟨g, cap, rfl, ho, hb⟩
  have HQ : Hid (∀ W, Below w.heap.size w W → Sl W W.heap.size (.slice qa qn qc) q) := fun W hW => (hQ.stays hW (Nat.le_refl _)).mono hW.size
  have k0 : (0 : Int) ≤ (i : Int) := by omega
  have k1 : (i : Int) < (n : Int) := by omega
  rw [← ho]
  have HO : Hid (o = Mk.clashM l s.data.toList x i q) := ho
  have HSH : Hid (sh = Mk.showsZ (Mk.root l) s.data.toList (i : Int) (l.length : Int) q) := hsh
  have HWY : Hid (way = Mk.tw Mk.e1 (i + 1) l.length ∧ m = way.length ∧ i < l.length ∧ l.length ≤ 1024) := ⟨hway, hm, by omega, hl⟩
  have HXS : Hid (xs = bs x) := hxs
  clear hS hQ hK hx hnl hl hc hi hr hsh hway hm ho hxs hql
  cases sh
  · have HNO : Hid (o = none) := by
      show o = none
      rw [HO.out]; unfold Mk.clashM; rw [if_neg]; rw [← HSH.out]; simp
    go_enter Tryd.func18, Tryd.ntmps18
    go_wp2_with fail
    refine CN.out.mono ?_
    rintro e w1 ⟨b, rfl, hab, hT1, hB1⟩
    have T1 : Hid (Tr w1 b l ∧ w.heap.size ≤ b ∧ Below w.heap.size w w1) := ⟨hT1, hab, hB1⟩
    clear CN hT1 hab hB1
    go_wp2_with fail
    refine (CR.out _ _ T1.out.2.2 T1.out.1).mono ?_
    rintro e w2 ⟨rfl, hT2, hG2⟩
    have T2 : Hid (Below w.heap.size w w2) := T1.out.2.2.trans (hG2.below T1.out.2.1 T1.out.2.2.size)
    clear hT2 hG2
    go_wp2_with fail
    refine (CS.out _ T2.out).mono ?_
    rintro e w3 ⟨rfl, hb3⟩
    have T3 : Hid (Below w.heap.size w w3) := T2.out.trans (hb3.mono T2.out.size)
    clear hb3
    go_wp2
    go_ret3
    exact ⟨by rw [HNO.out]; rfl, T3.out⟩
  · by_cases hsx : s = xs
    · have HNO : Hid (o = none) := by
        show o = none
        rw [HO.out]; unfold Mk.clashM; rw [if_neg]; rw [hsx, HXS.out]; simp
      have qq : (s.toList == s.toList) = true := beq_self_eq_true _
      subst hsx
      go_enter Tryd.func18, Tryd.ntmps18
      go_wp2_with fail
      refine CN.out.mono ?_
      rintro e w1 ⟨b, rfl, hab, hT1, hB1⟩
      have T1 : Hid (Tr w1 b l ∧ w.heap.size ≤ b ∧ Below w.heap.size w w1) := ⟨hT1, hab, hB1⟩
      clear CN hT1 hab hB1
      go_wp2_with fail
      refine (CR.out _ _ T1.out.2.2 T1.out.1).mono ?_
      rintro e w2 ⟨rfl, hT2, hG2⟩
      have T2 : Hid (Below w.heap.size w w2) := T1.out.2.2.trans (hG2.below T1.out.2.1 T1.out.2.2.size)
      clear hT2 hG2
      go_wp2_with fail
      refine (CS.out _ T2.out).mono ?_
      rintro e w3 ⟨rfl, hb3⟩
      have T3 : Hid (Below w.heap.size w w3) := T2.out.trans (hb3.mono T2.out.size)
      have cx := HCX.out w3 T3.out
      clear hb3
      go_wp2
      go_ret3
      exact ⟨by rw [HNO.out]; rfl, T3.out⟩
    · have qq : (s.toList == xs.toList) = false := by
        rw [beq_eq_false_iff_ne, Lib.toList_data, Lib.toList_data]
        intro e
        apply hsx
        rw [← bs_data s, ← bs_data xs, e]
      have HSM : Hid (o = Mk.alike (Mk.chainT (Mk.leafT s.data.toList) way.reverse q) (Mk.chainT (Mk.leafT xs.data.toList) way.reverse (Mk.path l i))) := by
        show o = _
        have e1 : xs.data.toList = x := by rw [HXS.out]
        rw [HO.out, e1, HWY.out.1]; unfold Mk.clashM; rw [if_pos]; rw [← HSH.out]
        have : s.data.toList ≠ x := fun e => hsx (by rw [HXS.out, ← e, bs_data])
        simpa using this
      have HQP : Hid (q.length = m ∧ ∀ y ∈ q, y.length = 32) := by
        obtain ⟨p1, p2, _⟩ := Mk.shows_parts HWY.out.2.2.1 HWY.out.2.2.2 HSH.out.symm
        exact ⟨by rw [HWY.out.2.1, HWY.out.1]; exact p1, p2⟩
      have CF : Hid (∀ W g c g2 c2 b1 b2, W.ownsRow b1 51 2 (.slice (some ⟨g, 0, none⟩) (m + 1) c) (m + 1) (mcs (Mk.chainT (Mk.leafT s.data.toList) way.reverse q)) → W.ownsRow b2 51 2 (.slice (some ⟨g2, 0, none⟩) (m + 1) c2) (m + 1) (mcs (Mk.chainT (Mk.leafT xs.data.toList) way.reverse (Mk.path l i))) → Calls Tryd.prog 38 #[.slice (some ⟨g, 0, none⟩) (m + 1) c, .slice (some ⟨g2, 0, none⟩) (m + 1) c2] W fun e w' => ∃ x y z, e = .returned (.tuple #[x, y, z]) ∧ .tuple #[x, y, z] = alikeV o ∧ Below W.heap.size W w') := fun W g c g2 c2 b1 b2 h1 h2 => by
        refine (firstAlike_c _ _ (m + 1) (by rw [Mk.chainT_length _ _ _ (by rw [List.length_reverse, HQP.out.1, HWY.out.2.1]), List.length_reverse, HWY.out.2.1]) (by rw [Mk.chainT_length _ _ _ (by rw [List.length_reverse, HPL.out, HWY.out.2.1]), List.length_reverse, HWY.out.2.1]) (by omega) g c g2 c2 b1 b2 W h1 h2).mono ?_
        rintro e w' ⟨rfl, hb⟩
        rw [← HSM.out]
        cases o with
        | none => exact ⟨_, _, _, rfl, rfl, hb⟩
        | some o => exact ⟨_, _, _, rfl, rfl, hb⟩
      clear hsx
      go_enter Tryd.func18, Tryd.ntmps18
      go_wp2_with fail
      refine CN.out.mono ?_
      rintro e w1 ⟨b, rfl, hab, hT1, hB1⟩
      have T1 : Hid (Tr w1 b l ∧ w.heap.size ≤ b ∧ Below w.heap.size w w1) := ⟨hT1, hab, hB1⟩
      clear CN hT1 hab hB1
      go_wp2_with fail
      refine (CR.out _ _ T1.out.2.2 T1.out.1).mono ?_
      rintro e w2 ⟨rfl, hT2, hG2⟩
      have T2 : Hid (Tr w2 b l ∧ w.heap.size ≤ b ∧ Below w.heap.size w w2) := ⟨hT2, T1.out.2.1, T1.out.2.2.trans (hG2.below T1.out.2.1 T1.out.2.2.size)⟩
      clear hT2 hG2 T1
      go_wp2_with fail
      refine (CS.out _ T2.out.2.2).mono ?_
      rintro e w3 ⟨rfl, hb3⟩
      have T3 : Hid (Tr w3 b l ∧ w.heap.size ≤ b ∧ Below w.heap.size w w3) := ⟨T2.out.1.call hb3, T2.out.2.1, T2.out.2.2.trans (hb3.mono T2.out.2.2.size)⟩
      have cx := HCX.out w3 T3.out.2.2
      clear hb3 T2 CS CR
      go_wp2_with fail
      refine (CP.out _ _ T3.out.2.2 T3.out.1).mono ?_
      rintro e w4 ⟨g4, m4, rfl, ho4, hT4, hG4⟩
      have hm4 : m4 = m := by have := ho4.1; rw [scs_length, HPL.out] at this; omega
      subst hm4
      have B4 : Hid (Below w.heap.size w w4) := T3.out.2.2.trans (hG4.below T3.out.2.1 T3.out.2.2.size)
      have O4 : Hid (w4.ownsRow w3.heap.size 9 1 (.slice (some ⟨g4, 0, none⟩) m4 m4) m4 (scs (Mk.path l i))) := ho4
      clear ho4 hT4 hG4 T3 cx CP
      go_wp2_with fail
      refine (CT.out _).mono ?_
      rintro e w5 ⟨wa, wc, rfl, hbl5, hb5⟩
      have B5 : Hid (Below w.heap.size w w5) := B4.out.trans (hb5.mono B4.out.size)
      have L5 : Hid (Bl w5 w5.heap.size (.slice wa m4 wc) way) := hbl5
      have S5 : Hid (Sl w5 w5.heap.size (.slice (some ⟨g4, 0, none⟩) m4 m4) (Mk.path l i)) := own_sl (by rw [HPL.out]; exact own_stays O4.out hb5)
      have C1 : Hid (∀ W, Below w5.heap.size w5 W → Calls Tryd.prog 37 #[.string s, .slice wa m4 wc, .slice qa qn qc] W fun e w' => ∃ g c, e = .returned (.slice (some ⟨g, 0, none⟩) (m4 + 1) c) ∧ w'.ownsRow W.heap.size 51 2 (.slice (some ⟨g, 0, none⟩) (m4 + 1) c) (m4 + 1) (mcs (Mk.chainT (Mk.leafT s.data.toList) way.reverse q)) ∧ Below W.heap.size W w') := fun W hW =>
        CC.out W s qa qn qc wa wc q (B5.out.trans (hW.mono B5.out.size)) hs HQP.out.1 HQP.out.2 ((L5.out.stays hW (Nat.le_refl _)).mono hW.size) (HQ.out W (B5.out.trans (hW.mono B5.out.size)))
      have C2 : Hid (∀ W, Below w5.heap.size w5 W → Calls Tryd.prog 37 #[.string xs, .slice wa m4 wc, .slice (some ⟨g4, 0, none⟩) m4 m4] W fun e w' => ∃ g c, e = .returned (.slice (some ⟨g, 0, none⟩) (m4 + 1) c) ∧ w'.ownsRow W.heap.size 51 2 (.slice (some ⟨g, 0, none⟩) (m4 + 1) c) (m4 + 1) (mcs (Mk.chainT (Mk.leafT xs.data.toList) way.reverse (Mk.path l i))) ∧ Below W.heap.size W w') := fun W hW =>
        CC.out W xs _ m4 m4 wa wc (Mk.path l i) (B5.out.trans (hW.mono B5.out.size)) hxsz HPL.out (Mk.path_32 l i) ((L5.out.stays hW (Nat.le_refl _)).mono hW.size) ((S5.out.stays hW (Nat.le_refl _)).mono hW.size)
      have cx5 := HCX.out w5 B5.out
      have HC6 : Hid (∀ W, Below w5.heap.size w5 W → W.cell? ⟨b0, off + i, none⟩ = some (.string xs)) := fun W hW => HCX.out W (B5.out.trans (hW.mono B5.out.size))
      clear hbl5 hb5 CC CT O4 B4 L5 S5 hs hxsz
      go_wp2
      go_region_law (first
        | (go_simp; go_at_call_of 37 (Value.string s); refine (C1.out _ ?_).mono ?_; (first | exact Below.refl _ _ | exact (Below.refl _ _).drew); rintro e w6 ⟨g6, c6, rfl, ho6, hb6⟩
           have B6 : Hid (Below w5.heap.size w5 w6) := (by first | exact hb6 | exact (Below.refl _ _).drew.trans hb6)
           have O6 : Hid (w6.ownsRow w5.heap.size 51 2 (.slice (some ⟨g6, 0, none⟩) (m4 + 1) c6) (m4 + 1) (mcs (Mk.chainT (Mk.leafT s.data.toList) way.reverse q))) := ho6
           have cx6 := HC6.out w6 B6.out
           clear ho6 hb6)
        | (go_simp; go_at_call_of 37 (Value.string xs); refine (C2.out _ ?_).mono ?_; (first | exact B6.out | exact B6.out.drew); rintro e w7 ⟨g7, c7, rfl, ho7, hb7⟩
           have B67 : Hid (Below w6.heap.size w6 w7) := (by first | exact hb7 | exact (Below.refl _ _).drew.trans hb7)
           have O7 : Hid (w7.ownsRow w5.heap.size 51 2 (.slice (some ⟨g6, 0, none⟩) (m4 + 1) c6) (m4 + 1) (mcs (Mk.chainT (Mk.leafT s.data.toList) way.reverse q))) := own_stays O6.out B67.out
           have P7 : Hid (w7.ownsRow w6.heap.size 51 2 (.slice (some ⟨g7, 0, none⟩) (m4 + 1) c7) (m4 + 1) (mcs (Mk.chainT (Mk.leafT xs.data.toList) way.reverse (Mk.path l i)))) := ho7
           clear ho7 hb7)
        | (go_simp; go_at_call 38; refine (CF.out _ _ _ _ _ _ _ O7.out P7.out).mono ?_; rintro e w8 ⟨rx, ry, rz, rfl, hv8, hb8⟩
           have B8 : Hid (Below w.heap.size w w8) := (by
             have h57 : Below w5.heap.size w5 w7 := B6.out.trans (B67.out.mono B6.out.size)
             have h58 : Below w5.heap.size w5 w8 := h57.trans (hb8.mono h57.size)
             exact B5.out.trans (h58.mono B5.out.size))
           have V8 : Hid (.tuple #[rx, ry, rz] = alikeV o) := hv8
           clear hv8 hb8))
      all_goals
        go_wp2
        go_ret3
        refine ⟨?_, B8.out⟩
        rw [← V8.out]
        simp [Act.put]
end Go.Proofs.YthheebnmdfggnaaDoor
