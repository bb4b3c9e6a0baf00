/- The law MerkleAdds, walked: it answers true whatever the texts. -/
import Derived.Test.YthheebnmdfggnaaDoorMkT
namespace Go.Proofs.YthheebnmdfggnaaDoor
open Go.RowKit
attribute [local go_sem ↓] Go.wp_at_zero Go.wp_at_succ
theorem own_set2v {w : World} {base t n : Nat} {v : Value} {xs : List Value} (h : w.ownsRow base t 1 v n xs) (B : Nat) (hB : B < base) (y0 y1 : Value) : ((w.setCell ⟨B, 0, none⟩ y0).setCell ⟨B, 1, none⟩ y1).ownsRow base t 1 v n xs := by
  refine ⟨h.1, ?_⟩
  rcases h.2 with h2 | ⟨g', cap', cur, h1, hg, hc, h3⟩
  · exact .inl h2
  · refine .inr ⟨g', cap', cur, h1, hg, ?_, h3⟩
    rw [heap_setCell_other _ _ _ _ (by show g' ≠ B; omega), heap_setCell_other _ _ _ _ (by show g' ≠ B; omega)]
    exact hc
/-- the peaks so far -/
def PK (l : List (List UInt8)) (k : Nat) (pk : List (List UInt8)) : Prop := pk = Mk.peaks (l.take k) ∧ pk.length = Mk.ones k ∧ ∀ x ∈ pk, x.length = 32
theorem PK.next {l : List (List UInt8)} {k : Nat} {pk : List (List UInt8)} (h : PK l k pk) {x : List UInt8} (hx : l[k]? = some x) : PK l (k + 1) (Mk.addM k pk (Mk.leaf x)) := by
  have hk := (List.getElem?_eq_some_iff.1 hx).1
  refine ⟨?_, Mk.addM_length k pk _ h.2.1, Mk.addM_32 k pk _ h.2.2 (Mk.leaf_length _)⟩
  have e := Mk.addM_one (l.take k) x
  rw [List.length_take, Nat.min_eq_left (by omega)] at e
  rw [h.1, e, List.take_add_one, hx]
  rfl
theorem ones_le : ∀ n : Fin 1025, Mk.ones n.val ≤ 1024 := by decide +kernel
set_option maxHeartbeats 16000000 in
set_option maxRecDepth 10000 in
theorem adds_c (a : Option Addr) (c n : Nat) (l : List (List UInt8)) (hx : ∀ x ∈ l, x.length ≤ 140737488355328) (hl : l.length ≤ 9223372036854775807) (w : World) (hK : HasK w) (hS : Sl w w.heap.size (.slice a n c) l) :
    Calls Tryd.prog 6 #[.slice a n c] w fun e w' => e = .returned (.bool true) ∧ Below w.heap.size w w' := by
  have HK : Hid (∀ W, Below w.heap.size w W → HasK W) := fun W hW => hK.below hK.1 hW
  have h0 : 0 < w.heap.size := hK.1
  have HS : Hid (Sl w w.heap.size (.slice a n c) l) := hS
  have HN : Hid (n = l.length) := hS.len
  have HX : Hid (∀ x ∈ l, x.length ≤ 140737488355328) := hx
  have hn63 : n ≤ 9223372036854775807 := by have := HN.out; omega
  clear hS hx hl hK
  go_enter Tryd.func6, Tryd.ntmps6
  go_wp2_with fail
  refine (lives_c _ (HK.out _ (Below.refl _ _))).mono ?_
  rintro e w1 ⟨rfl, hb1⟩
  have B1 : Hid (Bx2 w w1.heap.size 24 (.int .i64 0) (.slice none 0 0) (w1.alloc (.cells #[.int .i64 0, .slice none 0 0] 24))) := ⟨heap_alloc_new w1 _, by simp, hb1.size, hb1.alloc hb1.size _⟩
  have hP : w.heap.size ≤ w1.heap.size := hb1.size
  clear hb1
  go_wp2
  go_loopw [17] (fun i wr => ∃ (k m : Nat) (va : Option Addr) (vc : Nat) (pk : List (List UInt8)), k ≤ n ∧ k ≤ 1024 ∧ i = .int .i64 (k : Int) ∧ Hid (PK l k pk) ∧ m = pk.length ∧ wr.ownsRow (w1.heap.size + 1) 9 1 (.slice va m vc) m (scs pk) ∧ Bx2 w w1.heap.size 24 (.int .i64 (k : Int)) (.slice va m vc) wr) (fun i _ => n - (intOf i).toNat)
  case atStart => exact ⟨0, 0, none, 0, [], Nat.zero_le _, Nat.zero_le _, rfl, ⟨by rw [List.take_zero, Mk.peaks_none], by rw [Mk.ones_zero]; rfl, fun x hx => by cases hx⟩, rfl, ⟨rfl, .inl ⟨rfl, rfl⟩⟩, B1.out⟩
  case round =>
    obtain ⟨k, m, va, vc, pk, hk, hk24, rfl, hPK, hm, hown, hX⟩ := hrel
    have hm24 : m ≤ 1024 := by rw [hm, hPK.out.2.1]; exact ones_le ⟨k, by omega⟩
    have HM : Hid (m = pk.length) := hm
    have HX2 : Hid (Bx2 w w1.heap.size 24 (.int .i64 (k : Int)) (.slice va m vc) wr) := hX
    have HO : Hid (wr.ownsRow (w1.heap.size + 1) 9 1 (.slice va m vc) m (scs pk)) := hown
    have HSP : Hid (Sl wr wr.heap.size (.slice va m vc) pk) := own_sl (by rw [← hm]; exact hown)
    obtain ⟨c0, c1⟩ := hX.cells
    clear hm hown hX B1
    by_cases hlt : k < n
    · obtain ⟨b, off, rfl, -, hbw, hc⟩ := HS.out.at (by have := HN.out; omega)
      obtain ⟨x, hx⟩ : ∃ x, l[k]? = some x := ⟨_, List.getElem?_eq_getElem (by have := HN.out; omega)⟩
      obtain ⟨s, hs⟩ : ∃ s : ByteArray, s = bs x := ⟨_, rfl⟩
      have hss : s.size ≤ 140737488355328 := by rw [hs, bs_size]; exact HX.out x (List.mem_of_getElem? hx)
      have hcell : wr.cell? ⟨b, off + k, none⟩ = some (.string s) := by rw [hs, HX2.out.2.2.2.cell (p := ⟨b, off + k, none⟩) hbw]; exact hc k x hx
      have k0 : (0 : Int) ≤ (k : Int) := by omega
      have k1 : (k : Int) < (n : Int) := by omega
      by_cases hful : k = 1024
      · have e24 : (k : Int) = 1024 := by omega
        have CA : Hid (Calls Tryd.prog 8 #[.agg #[.int .i64 (k : Int), .slice va m vc], .string s] wr fun e w' => e = .returned (.tuple #[.agg #[.int .i64 0, .slice none 0 0], .int .i64 3]) ∧ Below wr.heap.size wr w') := by
          show Calls _ _ _ _ _
          rw [e24]
          refine add_full s va m vc pk (by have := HM.out; omega) wr.heap.size wr (Nat.le_refl _) HSP.out ?_
          have := hPK.out
          rw [hful] at this
          rw [show (1024 : Int) = ((1024 : Nat) : Int) from rfl, Mk.rightP_in (Nat.le_refl _), this.2.1, all32_mk this.2.2]; simp
        have q1 : (1024 : Int) ≤ (k : Int) := by omega
        have HB : Hid (Below w.heap.size w wr) := HX2.out.2.2.2
        clear hc hx hs hful e24
        go_wp2_with fail
        refine CA.out.mono ?_
        rintro e w2 ⟨rfl, hb2⟩
        have B2 : Hid (Below w.heap.size w w2) := HB.out.trans (hb2.mono HB.out.size)
        clear hb2
        go_wp2
        go_ret
        exact ⟨rfl, B2.out.alloc B2.out.size _⟩
      · obtain ⟨pk2, hpk2⟩ : ∃ pk2, pk2 = Mk.addM k pk (Mk.leaf x) := ⟨_, rfl⟩
        have HPK2 : Hid (PK l (k + 1) pk2) := by show PK _ _ _; rw [hpk2]; exact hPK.out.next hx
        have CA : Hid (Calls Tryd.prog 8 #[.agg #[.int .i64 (k : Int), .slice va m vc], .string s] wr fun e w' => ∃ va2 m2 vc2, e = .returned (.tuple #[.agg #[.int .i64 ((k : Int) + 1), .slice va2 m2 vc2], .int .i64 0]) ∧ m2 = pk2.length ∧ w'.ownsRow wr.heap.size 9 1 (.slice va2 m2 vc2) m2 (scs pk2) ∧ Below wr.heap.size wr w') := by
          refine (add_yes k (by omega) s hss va m vc pk hPK.out.2.1 (by rw [← HM.out]; exact hm24) hPK.out.2.2 wr.heap.size wr (HK.out _ HX2.out.2.2.2) (Nat.le_refl _) HSP.out).mono ?_
          rintro e w' ⟨v, rfl, ho, hb⟩
          have es : s.data.toList = x := by rw [hs]
          rw [es, ← hpk2] at ho
          obtain ⟨va2, vc2, hv⟩ := (own_sl ho).form
          subst hv
          exact ⟨va2, pk2.length, vc2, rfl, rfl, ho, hb⟩
        have q1 : ¬ (1024 : Int) ≤ (k : Int) := by omega
        clear hc hx hs hpk2
        go_wp2_with fail
        refine CA.out.mono ?_
        rintro e w2 ⟨va2, m2, vc2, rfl, hm2, ho2, hb2⟩
        have HM2 : Hid (m2 = pk2.length) := hm2
        have X2 : Hid (Bx2 w w1.heap.size 24 (.int .i64 (k : Int)) (.slice va m vc) w2) := HX2.out.call hb2
        have O2 : Hid (w2.ownsRow (w1.heap.size + 1) 9 1 (.slice va2 m2 vc2) m2 (scs pk2)) := own_mono ho2 HX2.out.2.1
        have lt1 : w1.heap.size < w2.heap.size := X2.out.2.1
        obtain ⟨d0, d1⟩ := X2.out.cells
        have fz2 := X2.out.free
        clear hm2 ho2 hb2 c0 c1 hcell
        go_wp2
        go_roundw
        case rel => exact ⟨k + 1, m2, va2, vc2, pk2, by omega, by omega, by go_num, HPK2, HM2.out, (own_set2v O2.out w1.heap.size (Nat.lt_succ_self _) _ _).alloc _, (X2.out.set (.int .i64 ((k : Int) + 1)) (.slice va2 m2 vc2)).call ((Below.refl _ _).alloc (Nat.le_refl _) _)⟩
        case measure => simp [intOf]; omega
    · have hkn : k = n := by omega
      subst hkn
      obtain ⟨r, hr⟩ : ∃ r : ByteArray, r = bs (Mk.root l) := ⟨_, rfl⟩
      have hpl : pk = Mk.peaks l := by rw [hPK.out.1, List.take_of_length_le (by rw [← HN.out]; exact Nat.le_refl _)]
      have CN : Hid (∀ W, Below w.heap.size w W → Calls Tryd.prog 14 #[.slice a k c] W fun e w' => ∃ b : Nat, e = .returned (.tuple #[.pointer (some ⟨b, 0, none⟩), .int .i64 0]) ∧ W.heap.size ≤ b ∧ TrN w' b l ∧ Below W.heap.size W w') := fun W hW => new_yes a c k hk24 w.heap.size l HX.out W hW.size (HS.out.stays hW (Nat.le_refl _))
      have CT : Hid (∀ W, Below wr.heap.size wr W → Calls Tryd.prog 10 #[.agg #[.int .i64 (k : Int), .slice va m vc]] W fun e w' => e = .returned (.tuple #[.string r, .int .i64 0]) ∧ Below W.heap.size W w') := fun W hW => by
        have hbw : Below w.heap.size w W := HX2.out.2.2.2.trans (hW.mono HX2.out.2.2.2.size)
        have := top_yes k hk24 va m vc pk hPK.out.2.1 (by rw [← HM.out]; exact hm24) hPK.out.2.2 wr.heap.size W (HK.out W hbw) hW.size (HSP.out.stays hW (Nat.le_refl _))
        rw [hpl, Mk.topM_peaks _ l rfl] at this
        rw [hr]; exact this
      have CR : Hid (∀ W b, Below w.heap.size w W → Tr W b l → Calls Tryd.prog 17 #[.pointer (some ⟨b, 0, none⟩)] W fun e w' => e = .returned (.string r) ∧ Tr w' b l ∧ Gr b W w') := fun W b hW hT => by
        rw [hr]; exact root_c b l (by rw [← HN.out]; exact hk24) HX.out W (HK.out W hW) hT
      have HB : Hid (Below w.heap.size w wr) := HX2.out.2.2.2
      clear hr hpl hPK HO HSP HM c0 c1
      go_wp2_with fail
      refine (CN.out _ HB.out).mono ?_
      rintro e w2 ⟨b, rfl, hb, hT, hb2⟩
      have X2 : Hid (Bx2 w w1.heap.size 24 (.int .i64 (k : Int)) (.slice va m vc) w2) := HX2.out.call hb2
      have T2 : Hid (Tr w2 b l) := hT.tr (by have := HB.out.size; omega)
      have HB2 : Hid (Below wr.heap.size wr w2) := hb2
      have hbw : w.heap.size ≤ b := by have := HB.out.size; omega
      obtain ⟨d0, d1⟩ := X2.out.cells
      clear hT hb2 hb
      go_wp2_with fail
      refine (CT.out _ HB2.out).mono ?_
      rintro e w3 ⟨rfl, hb3⟩
      have T3 : Hid (Tr w3 b l) := T2.out.call hb3
      have B3 : Hid (Below w.heap.size w w3) := (X2.out.call hb3).2.2.2
      clear hb3
      go_wp2_with fail
      refine (CR.out _ b B3.out T3.out).mono ?_
      rintro e w4 ⟨rfl, _, hG⟩
      have B4 : Hid (Below w.heap.size w w4) := B3.out.trans (hG.below hbw B3.out.size)
      clear hG
      go_wp2
      go_ret
      exact ⟨rfl, B4.out⟩
end Go.Proofs.YthheebnmdfggnaaDoor
