/- What stage 2's theorem begins with; values that are kept in a row. -/
import Derived.Test.YtcoaipcgpfpfiaaGreatDoorShSumM
import Derived.Test.YtcoaipcgpfpfiaaGreatDoorShHexM
import Derived.Test.YtcoaipcgpfpfiaaGreatDoorJPM
import Derived.Test.YtcoaipcgpfpfiaaGreatDoorJOM
import Derived.Test.YtcoaipcgpfpfiaaGreatDoorJIM
import Derived.Test.YtcoaipcgpfpfiaaGreatDoorBinBxM
import Derived.Test.YtcoaipcgpfpfiaaGreatDoorSameM
namespace Go.Proofs.YtcoaipcgpfpfiaaGreatDoor
open Go.RowKit
open Vl (V)
attribute [local go_sem ↓] Go.wp_at_zero Go.wp_at_succ
theorem none_hex : Sh.hexOf (Sh.sum []) = [101, 51, 98, 48, 99, 52, 52, 50, 57, 56, 102, 99, 49, 99, 49, 52, 57, 97, 102, 98, 102, 52, 99, 56, 57, 57, 54, 102, 98, 57, 50, 52, 50, 55, 97, 101, 52, 49, 101, 52, 54, 52, 57, 98, 57, 51, 52, 99, 97, 52, 57, 53, 57, 57, 49, 98, 55, 56, 53, 50, 98, 56, 53, 53] := by decide +kernel
theorem rep_none (W : World) (H : Nat) : Rep W H ⟨0, false, 0, ⟨#[]⟩, [], []⟩ (.agg #[.int .u8 0, .bool false, .int .i64 0, .string ⟨#[]⟩, .slice none 0 0, .slice none 0 0]) := by
  rw [Rep]
  exact ⟨none, 0, none, 0, rfl, by omega, by omega, by decide, by simp, by simp, fun h => by simp at h, fun h => by simp at h⟩
set_option maxHeartbeats 1000000 in
theorem begins_c (w : World) (hK : HasK w) : Calls Tryz.prog 4 #[] w fun e w' => e = .returned (.bool true) ∧ Below w.heap.size w w' := by
  obtain ⟨d, hd⟩ : ∃ d : ByteArray, d = ⟨(Sh.sum []).toArray⟩ := ⟨_, rfl⟩
  obtain ⟨x, hx⟩ : ∃ x : ByteArray, x = ⟨(Sh.hexOf d.data.toList).toArray⟩ := ⟨_, rfl⟩
  have hdl : d.size ≤ 2147483648 := by rw [hd, Lib.size_eq]; show (Sh.sum []).length ≤ 2147483648; rw [Sh.sum, Sh.fin_length]; omega
  have c1 : ∀ W, HasK W → Calls Tryz.prog 13 #[.string ⟨#[]⟩] W fun e w' => e = .returned (.string d) ∧ Below W.heap.size W w' := fun W hW => by
    rw [hd]; exact sum9 ⟨#[]⟩ (by decide) W hW
  have c2 : ∀ W, Calls Tryz.prog 12 #[.string d] W fun e w' => e = .returned (.string x) ∧ Below W.heap.size W w' := fun W => by
    rw [hx]; exact hex11 d hdl W
  have c3 : ∀ W, Calls Tryz.prog 14 #[.agg #[.int .u8 0, .bool false, .int .i64 0, .string ⟨#[]⟩, .slice none 0 0, .slice none 0 0]] W fun e w' => e = .returned (.int .i64 1) ∧ Below W.heap.size W w' := fun W => by
    have := count13 1 ⟨0, false, 0, ⟨#[]⟩, [], []⟩ (by simp [Vl.count, Vl.countL, Vl.countF]) W W.heap.size _ (Nat.le_refl _) (rep_none W _)
    simpa [Vl.count, Vl.countL, Vl.countF, wrap64] using this
  have hxe : (x.toList == [101, 51, 98, 48, 99, 52, 52, 50, 57, 56, 102, 99, 49, 99, 49, 52, 57, 97, 102, 98, 102, 52, 99, 56, 57, 57, 54, 102, 98, 57, 50, 52, 50, 55, 97, 101, 52, 49, 101, 52, 54, 52, 57, 98, 57, 51, 52, 99, 97, 52, 57, 53, 57, 57, 49, 98, 55, 56, 53, 50, 98, 56, 53, 53]) = true := by
    rw [Lib.toList_data, hx]
    have e : Sh.hexOf d.data.toList = Sh.hexOf (Sh.sum []) := by rw [hd]
    show (Sh.hexOf d.data.toList == _) = true
    rw [e, none_hex]
    rfl
  have C1 : Hid (∀ W, _) := c1
  have C2 : Hid (∀ W, _) := c2
  have C3 : Hid (∀ W, _) := c3
  have HK : Hid (HasK w) := hK
  clear c1 c2 c3 hx hd hK hdl
  go_enter Tryz.func4, Tryz.ntmps4
  go_wp2_with fail
  refine (C1.out _ HK.out).mono ?_
  rintro e w1 ⟨rfl, hb1⟩
  have B1 : Hid (Below w.heap.size w w1) := hb1
  clear hb1
  go_wp2_with fail
  refine (C2.out _).mono ?_
  rintro e w2 ⟨rfl, hb2⟩
  have B2 : Hid (Below w.heap.size w w2) := B1.out.trans (hb2.mono B1.out.size)
  clear hb2
  go_wp2_with fail
  refine (C3.out _).mono ?_
  rintro e w3 ⟨rfl, hb3⟩
  have B3 : Hid (Below w.heap.size w w3) := B2.out.trans (hb3.mono B2.out.size)
  clear hb3
  go_wp2
  go_ret
  exact ⟨rfl, B3.out⟩
/-- cells that hold values, one behind the other -/
def Kept (w : World) (H : Nat) (cs : List Value) (K : List V) : Prop :=
  cs.length = K.length * 6 ∧ ∀ j t, K[j]? = some t → ∃ c0 c1 c2 c3 c4 c5, cs[j * 6]? = some c0 ∧ cs[j * 6 + 1]? = some c1 ∧ cs[j * 6 + 2]? = some c2 ∧ cs[j * 6 + 3]? = some c3 ∧ cs[j * 6 + 4]? = some c4 ∧ cs[j * 6 + 5]? = some c5 ∧ Rep w H t (.agg #[c0, c1, c2, c3, c4, c5])
theorem Kept.none (w : World) (H : Nat) : Kept w H [] [] := ⟨rfl, fun j t h => by simp at h⟩
theorem Kept.more {w : World} {H : Nat} {cs : List Value} {K : List V} {t : V} {c0 c1 c2 c3 c4 c5 : Value} (h : Kept w H cs K) (hr : Rep w H t (.agg #[c0, c1, c2, c3, c4, c5])) : Kept w H (cs ++ [c0, c1, c2, c3, c4, c5]) (K ++ [t]) := by
  refine ⟨by simp [h.1]; omega, fun j u hj => ?_⟩
  rcases Nat.lt_or_ge j K.length with hlt | hge
  · rw [List.getElem?_append_left hlt] at hj
    obtain ⟨d0, d1, d2, d3, d4, d5, e0, e1, e2, e3, e4, e5, hd⟩ := h.2 j u hj
    have hl := h.1
    exact ⟨d0, d1, d2, d3, d4, d5, by rw [List.getElem?_append_left (by omega)]; exact e0, by rw [List.getElem?_append_left (by omega)]; exact e1, by rw [List.getElem?_append_left (by omega)]; exact e2, by rw [List.getElem?_append_left (by omega)]; exact e3, by rw [List.getElem?_append_left (by omega)]; exact e4, by rw [List.getElem?_append_left (by omega)]; exact e5, hd⟩
  · have hj2 : j = K.length := by
      have := (List.getElem?_eq_some_iff.1 hj).1
      simp at this; omega
    subst hj2
    rw [List.getElem?_append_right (Nat.le_refl _), Nat.sub_self] at hj
    simp at hj
    subst hj
    have hl := h.1
    refine ⟨c0, c1, c2, c3, c4, c5, ?_, ?_, ?_, ?_, ?_, ?_, hr⟩
    all_goals
      rw [List.getElem?_append_right (by omega), ← hl]
      simp
/-- rows of two types lie apart -/
theorem own_apart {W W' : World} {base base' e e' sz sz' n n' : Nat} {v v' : Value} {xs xs' : List Value} (h : W.ownsRow base e sz v n xs) (h' : W.ownsRow base' e' sz' v' n' xs') (he : e ≠ e') (hg : W.grownBy W' v'.ownBlock) : W'.ownsRow base e sz v n xs := by
  refine ⟨h.1, ?_⟩
  rcases h.2 with h2 | ⟨g, cap, cur, h1, h3, h4, h5⟩
  · exact .inl h2
  · refine .inr ⟨g, cap, cur, h1, h3, (hg.block g (Array.getElem?_eq_some_iff.1 h4).1 (fun q => ?_)).trans h4, h5⟩
    rcases h'.2 with ⟨rfl, _⟩ | ⟨g', cap', cur', rfl, _, k4, _⟩
    · simp [Value.ownBlock] at q
    · simp [Value.ownBlock] at q
      subst q
      rw [k4] at h4
      simp at h4
      exact he h4.2.symm
theorem own_gr6 {W W' : World} {b base n t sz : Nat} {l : List (List UInt8)} {v : Value} {xs : List Value} (hT : Tr W b l) (hg : Gr b W W') (ht : t ≠ 65) (h : W.ownsRow base t sz v n xs) : W'.ownsRow base t sz v n xs := by
  refine ⟨h.1, ?_⟩
  rcases h.2 with h2 | ⟨g, cap, cur, h1, h3, h4, h5⟩
  · exact .inl h2
  · refine .inr ⟨g, cap, cur, h1, h3, (hg.block g (Array.getElem?_eq_some_iff.1 h4).1 (fun q => ?_)).trans h4, h5⟩
    injection q with q
    subst q
    rcases hT with ⟨_, ⟨g', _, h2, _⟩ | ⟨p, h2, _⟩⟩
    · rw [h2] at h4; simp at h4; exact ht h4.2.symm
    · rw [h2] at h4; simp at h4; exact ht h4.2.symm
theorem row6_apart {W W' : World} {B base n : Nat} {c0 c1 c2 c3 c4 c5 v : Value} {xs : List Value} (h : Row6 W B c0 c1 c2 c3 c4 c5) (h' : W.ownsRow base 9 1 v n xs) (hg : W.grownBy W' v.ownBlock) : Row6 W' B c0 c1 c2 c3 c4 c5 := by
  refine h.keep hg.size (hg.block B h.1 (fun q => ?_))
  rcases h'.2 with ⟨rfl, _⟩ | ⟨g', cap', cur', rfl, _, k4, _⟩
  · simp [Value.ownBlock] at q
  · simp [Value.ownBlock] at q
    subst q
    have := h.2
    rw [k4] at this
    simp at this
theorem own_cell {W : World} {base e sz g n cap q : Nat} {xs : List Value} {x : Value} (h : W.ownsRow base e sz (.slice (some ⟨g, 0, none⟩) n cap) n xs) (hq : xs[q]? = some x) : W.cell? ⟨g, q, none⟩ = some x := by
  rcases h.2 with ⟨h1, _⟩ | ⟨g', cap', cur, h1, _, h4, _, _, _, h7⟩
  · cases h1
  · injection h1 with h1
    injection h1 with h1
    injection h1 with h1
    subst h1
    rw [cell_of_row W _ _ _ _ _ h4]
    rw [← h7, List.getElem?_take] at hq
    split at hq
    · simpa using hq
    · cases hq
/-- a row of one value, just made -/
theorem six_new (w : World) (c0 c1 c2 c3 c4 c5 : Value) (t : TypeId) (j : Nat) (x : Value) (hj : [c0, c1, c2, c3, c4, c5][j]? = some x) : (w.alloc (.cells #[c0, c1, c2, c3, c4, c5] t)).cell? ((⟨w.heap.size, 0, none⟩ : Addr).add j) = some x :=
  World.news_of_block (heap_alloc_new w _) j x hj
end Go.Proofs.YtcoaipcgpfpfiaaGreatDoor
