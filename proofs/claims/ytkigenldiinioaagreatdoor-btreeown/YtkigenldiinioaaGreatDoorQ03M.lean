/- Several texts, joined: BtC, BtU, BtG, BtH -/
import Derived.Test.YtkigenldiinioaaGreatDoorQ02M
import Derived.BigQuiet
/- Where a question cuts a list in two, by halves: place, walked, at numbers and at entries. -/
namespace Go.Proofs.YtkigenldiinioaaGreatDoor
open Go.RowKit
open Vl (V)
attribute [local go_sem ↓] Go.wp_at_zero Go.wp_at_succ
theorem halfs {lo hi m s : Nat} (hm : m = (lo + hi) / 2) (hs : s = lo + hi) (hlt : lo < hi) (hh : hi ≤ 1000000) : IntKind.i64.wrap ((lo : Int) + (hi : Int)) = (s : Int) ∧ wrap64 ((lo : Int) + (hi : Int)) = (s : Int) ∧ (s : Int).tdiv 2 = (m : Int) ∧ (s : Int) / 2 = (m : Int) := by
  have h := Bt.wr (x := (lo : Int) + (hi : Int)) (c := s) (by omega) (by omega)
  exact ⟨h.1, h.2, by rw [hm, ← hs]; rfl, by omega⟩
theorem succs {m m1 : Nat} (h : m1 = m + 1) (hm : m ≤ 1000000) : IntKind.i64.wrap ((m : Int) + 1) = (m1 : Int) ∧ wrap64 ((m : Int) + 1) = (m1 : Int) := Bt.wr (by omega) (by omega)
theorem cut_no {m k : Nat} (h : false = true ↔ m < k) : k ≤ m := by
  rcases Nat.lt_or_ge m k with h1 | h1
  · exact absurd (h.2 h1) Bool.false_ne_true
  · exact h1
theorem mea1 {lo m hi : Nat} (h1 : lo ≤ m) (h2 : m < hi) : ((m : Int)).toNat - ((lo : Int)).toNat < ((hi : Int)).toNat - ((lo : Int)).toNat := by omega
theorem mea2 {lo m hi m1 : Nat} (h1 : lo ≤ m) (h2 : m < hi) (h3 : m1 = m + 1) : ((hi : Int)).toNat - ((m1 : Int)).toNat < ((hi : Int)).toNat - ((lo : Int)).toNat := by omega
theorem half_of {lo hi : Nat} (h : lo < hi) : lo ≤ (lo + hi) / 2 ∧ (lo + hi) / 2 < hi := by omega
set_option maxHeartbeats 4000000 in
set_option maxRecDepth 100000 in
theorem placeU_c (cap : Value) (p : Nat → Bool) (xs : List Nat) (g o n c k : Nat) (w : World) (hn : n = xs.length) (hl : n ≤ 1000000) (hg : g < w.heap.size)
    (hx : ∀ (j : Nat) (x : Nat), xs[j]? = some x → w.cell? ⟨g, o + j, none⟩ = some (.int .u64 (x : Int))) (hc : Bt.Cut p xs k)
    (hp : ∀ (x : Nat) (W : World), x ∈ xs → Below w.heap.size w W → Calls Tryz.prog 62 #[.int .u64 (x : Int), cap] W fun e w' => e = .returned (.bool (p x)) ∧ Below W.heap.size W w') :
    Calls Tryz.prog 61 #[.slice (some ⟨g, o, none⟩) n c, .func (.func 62) #[] #[cap]] w fun e w' => e = .returned (.int .i64 (k : Int)) ∧ Below w.heap.size w w' := by
  have HX : Hid (∀ (j : Nat) (x : Nat), xs[j]? = some x → w.cell? ⟨g, o + j, none⟩ = some (.int .u64 (x : Int))) := hx
  have HC : Hid (Bt.Cut p xs k) := hc
  have HP : Hid (∀ (x : Nat) (W : World), x ∈ xs → Below w.heap.size w W → Calls Tryz.prog 62 #[.int .u64 (x : Int), cap] W fun e w' => e = .returned (.bool (p x)) ∧ Below W.heap.size W w') := hp
  have HN : Hid (n = xs.length ∧ g < w.heap.size) := ⟨hn, hg⟩
  clear hx hc hp hn hg
  go_enter Tryz.func61, Tryz.ntmps61
  go_wp2
  go_loopw [5, 6] (fun v u wr => ∃ (lo hi : Nat), v = .int .i64 (lo : Int) ∧ u = .int .i64 (hi : Int) ∧ lo ≤ k ∧ k ≤ hi ∧ hi ≤ n ∧ Below w.heap.size w wr) (fun v u _ => (intOf u).toNat - (intOf v).toNat)
  case atStart => exact ⟨0, n, rfl, rfl, Nat.zero_le _, by rw [HN.out.1]; exact HC.out.1, Nat.le_refl _, Below.refl _ _⟩
  case round =>
    obtain ⟨lo, hi, rfl, rfl, h1, h2, h3, hb⟩ := hrel
    have HB : Hid (Below w.heap.size w wr) := hb
    clear hb
    by_cases hlt : lo < hi
    · have q1 : (lo : Int) < (hi : Int) := Int.ofNat_lt.2 hlt
      obtain ⟨m, hm⟩ : ∃ m, m = (lo + hi) / 2 := ⟨_, rfl⟩
      obtain ⟨s, hs⟩ : ∃ s, s = lo + hi := ⟨_, rfl⟩
      have HM : Hid (lo ≤ m ∧ m < hi ∧ hi ≤ n ∧ n ≤ 1000000) := by
        have h := half_of hlt
        rw [← hm] at h
        exact ⟨h.1, h.2, h3, hl⟩
      obtain ⟨v1, v2, v3, v4⟩ := halfs hm hs hlt (Nat.le_trans h3 hl)
      obtain ⟨x, hx⟩ : ∃ x, xs[m]? = some x := ⟨_, List.getElem?_eq_getElem (Nat.lt_of_lt_of_le HM.out.2.1 (by rw [← HN.out.1]; exact HM.out.2.2.1))⟩
      have d0 : wr.cell? ⟨g, o + m, none⟩ = some (.int .u64 (x : Int)) := (HB.out.cell (p := ⟨g, o + m, none⟩) HN.out.2).trans (HX.out m x hx)
      have HV : Hid (p x = true ↔ m < k) := HC.out.2 m x hx
      have HMX : Hid (x ∈ xs) := List.mem_of_getElem? hx
      have k0 : (0 : Int) ≤ (m : Int) := Int.natCast_nonneg _
      have k1 : (m : Int) < (n : Int) := Int.ofNat_lt.2 (Nat.lt_of_lt_of_le HM.out.2.1 HM.out.2.2.1)
      obtain ⟨m1, hm1⟩ : ∃ m1, m1 = m + 1 := ⟨_, rfl⟩
      obtain ⟨v5, v6⟩ : IntKind.i64.wrap ((m : Int) + 1) = (m1 : Int) ∧ wrap64 ((m : Int) + 1) = (m1 : Int) := succs hm1 (Nat.le_of_lt (Nat.lt_of_lt_of_le HM.out.2.1 (Nat.le_trans HM.out.2.2.1 HM.out.2.2.2)))
      have HM1 : Hid (m1 = m + 1) := hm1
      clear hm hs hx hm1
      go_wp2_with fail
      refine (HP.out x _ HMX.out HB.out).mono ?_
      rintro e w2 ⟨rfl, hb2⟩
      have HB2 : Hid (Below w.heap.size w w2) := HB.out.trans (hb2.mono HB.out.size)
      clear hb2 d0
      obtain ⟨b, hb⟩ : ∃ b, b = p x := ⟨_, rfl⟩
      rw [← hb]
      rw [← hb] at HV
      clear hb
      cases b
      · have hk : k ≤ m := cut_no HV.out
        go_wp2
        go_roundw
        case rel => first | exact ⟨lo, m, rfl, rfl, h1, hk, Nat.le_of_lt (Nat.lt_of_lt_of_le HM.out.2.1 h3), HB2.out⟩ | ((repeat apply Exists.intro); exact ⟨⟨lo, m, rfl, rfl, h1, hk, Nat.le_of_lt (Nat.lt_of_lt_of_le HM.out.2.1 h3), HB2.out⟩, rfl⟩)
        case measure =>
          simp only [intOf]
          exact mea1 HM.out.1 HM.out.2.1
      · have hk : m1 ≤ k := by rw [HM1.out]; exact HV.out.1 rfl
        go_wp2
        go_roundw
        case rel => first | exact ⟨m1, hi, rfl, rfl, hk, h2, h3, HB2.out⟩ | ((repeat apply Exists.intro); exact ⟨⟨m1, hi, rfl, rfl, hk, h2, h3, HB2.out⟩, rfl⟩)
        case measure =>
          simp only [intOf]
          exact mea2 HM.out.1 HM.out.2.1 HM1.out
    · have q1 : ¬ (lo : Int) < (hi : Int) := fun h => hlt (Int.ofNat_lt.1 h)
      have hk : lo = k := Nat.le_antisymm h1 (Nat.le_trans h2 (Nat.le_of_not_lt hlt))
      subst hk
      have HF := HB.out
      go_wp2
      go_ret
      exact ⟨rfl, HF⟩
set_option maxHeartbeats 4000000 in
set_option maxRecDepth 100000 in
theorem placeK_c (cap : Value) (p : Nat → Bool) (xs : List Nat) (g o n c k : Nat) (w : World) (hn : n = xs.length) (hl : n ≤ 1000000) (hg : g < w.heap.size)
    (hx : ∀ (j : Nat) (x : Nat), xs[j]? = some x → w.cell? ⟨g, o + j, none⟩ = some (.pointer (some ⟨x, 0, none⟩))) (hc : Bt.Cut p xs k)
    (hp : ∀ (x : Nat) (W : World), x ∈ xs → Below w.heap.size w W → Calls Tryz.prog 77 #[.pointer (some ⟨x, 0, none⟩), cap] W fun e w' => e = .returned (.bool (p x)) ∧ Below W.heap.size W w') :
    Calls Tryz.prog 51 #[.slice (some ⟨g, o, none⟩) n c, .func (.func 77) #[] #[cap]] w fun e w' => e = .returned (.int .i64 (k : Int)) ∧ Below w.heap.size w w' := by
  have HX : Hid (∀ (j : Nat) (x : Nat), xs[j]? = some x → w.cell? ⟨g, o + j, none⟩ = some (.pointer (some ⟨x, 0, none⟩))) := hx
  have HC : Hid (Bt.Cut p xs k) := hc
  have HP : Hid (∀ (x : Nat) (W : World), x ∈ xs → Below w.heap.size w W → Calls Tryz.prog 77 #[.pointer (some ⟨x, 0, none⟩), cap] W fun e w' => e = .returned (.bool (p x)) ∧ Below W.heap.size W w') := hp
  have HN : Hid (n = xs.length ∧ g < w.heap.size) := ⟨hn, hg⟩
  clear hx hc hp hn hg
  go_enter Tryz.func51, Tryz.ntmps51
  go_wp2
  go_loopw [5, 6] (fun v u wr => ∃ (lo hi : Nat), v = .int .i64 (lo : Int) ∧ u = .int .i64 (hi : Int) ∧ lo ≤ k ∧ k ≤ hi ∧ hi ≤ n ∧ Below w.heap.size w wr) (fun v u _ => (intOf u).toNat - (intOf v).toNat)
  case atStart => exact ⟨0, n, rfl, rfl, Nat.zero_le _, by rw [HN.out.1]; exact HC.out.1, Nat.le_refl _, Below.refl _ _⟩
  case round =>
    obtain ⟨lo, hi, rfl, rfl, h1, h2, h3, hb⟩ := hrel
    have HB : Hid (Below w.heap.size w wr) := hb
    clear hb
    by_cases hlt : lo < hi
    · have q1 : (lo : Int) < (hi : Int) := Int.ofNat_lt.2 hlt
      obtain ⟨m, hm⟩ : ∃ m, m = (lo + hi) / 2 := ⟨_, rfl⟩
      obtain ⟨s, hs⟩ : ∃ s, s = lo + hi := ⟨_, rfl⟩
      have HM : Hid (lo ≤ m ∧ m < hi ∧ hi ≤ n ∧ n ≤ 1000000) := by
        have h := half_of hlt
        rw [← hm] at h
        exact ⟨h.1, h.2, h3, hl⟩
      obtain ⟨v1, v2, v3, v4⟩ := halfs hm hs hlt (Nat.le_trans h3 hl)
      obtain ⟨x, hx⟩ : ∃ x, xs[m]? = some x := ⟨_, List.getElem?_eq_getElem (Nat.lt_of_lt_of_le HM.out.2.1 (by rw [← HN.out.1]; exact HM.out.2.2.1))⟩
      have d0 : wr.cell? ⟨g, o + m, none⟩ = some (.pointer (some ⟨x, 0, none⟩)) := (HB.out.cell (p := ⟨g, o + m, none⟩) HN.out.2).trans (HX.out m x hx)
      have HV : Hid (p x = true ↔ m < k) := HC.out.2 m x hx
      have HMX : Hid (x ∈ xs) := List.mem_of_getElem? hx
      have k0 : (0 : Int) ≤ (m : Int) := Int.natCast_nonneg _
      have k1 : (m : Int) < (n : Int) := Int.ofNat_lt.2 (Nat.lt_of_lt_of_le HM.out.2.1 HM.out.2.2.1)
      obtain ⟨m1, hm1⟩ : ∃ m1, m1 = m + 1 := ⟨_, rfl⟩
      obtain ⟨v5, v6⟩ : IntKind.i64.wrap ((m : Int) + 1) = (m1 : Int) ∧ wrap64 ((m : Int) + 1) = (m1 : Int) := succs hm1 (Nat.le_of_lt (Nat.lt_of_lt_of_le HM.out.2.1 (Nat.le_trans HM.out.2.2.1 HM.out.2.2.2)))
      have HM1 : Hid (m1 = m + 1) := hm1
      clear hm hs hx hm1
      go_wp2_with fail
      refine (HP.out x _ HMX.out HB.out).mono ?_
      rintro e w2 ⟨rfl, hb2⟩
      have HB2 : Hid (Below w.heap.size w w2) := HB.out.trans (hb2.mono HB.out.size)
      clear hb2 d0
      obtain ⟨b, hb⟩ : ∃ b, b = p x := ⟨_, rfl⟩
      rw [← hb]
      rw [← hb] at HV
      clear hb
      cases b
      · have hk : k ≤ m := cut_no HV.out
        go_wp2
        go_roundw
        case rel => first | exact ⟨lo, m, rfl, rfl, h1, hk, Nat.le_of_lt (Nat.lt_of_lt_of_le HM.out.2.1 h3), HB2.out⟩ | ((repeat apply Exists.intro); exact ⟨⟨lo, m, rfl, rfl, h1, hk, Nat.le_of_lt (Nat.lt_of_lt_of_le HM.out.2.1 h3), HB2.out⟩, rfl⟩)
        case measure =>
          simp only [intOf]
          exact mea1 HM.out.1 HM.out.2.1
      · have hk : m1 ≤ k := by rw [HM1.out]; exact HV.out.1 rfl
        go_wp2
        go_roundw
        case rel => first | exact ⟨m1, hi, rfl, rfl, hk, h2, h3, HB2.out⟩ | ((repeat apply Exists.intro); exact ⟨⟨m1, hi, rfl, rfl, hk, h2, h3, HB2.out⟩, rfl⟩)
        case measure =>
          simp only [intOf]
          exact mea2 HM.out.1 HM.out.2.1 HM1.out
    · have q1 : ¬ (lo : Int) < (hi : Int) := fun h => hlt (Int.ofNat_lt.1 h)
      have hk : lo = k := Nat.le_antisymm h1 (Nat.le_trans h2 (Nat.le_of_not_lt hlt))
      subst hk
      have HF := HB.out
      go_wp2
      go_ret
      exact ⟨rfl, HF⟩
set_option maxHeartbeats 4000000 in
set_option maxRecDepth 100000 in
theorem placeL_c (cap : Value) (p : Nat → Bool) (xs : List Nat) (g o n c k : Nat) (w : World) (hn : n = xs.length) (hl : n ≤ 1000000) (hg : g < w.heap.size)
    (hx : ∀ (j : Nat) (x : Nat), xs[j]? = some x → w.cell? ⟨g, o + j, none⟩ = some (.pointer (some ⟨x, 0, none⟩))) (hc : Bt.Cut p xs k)
    (hp : ∀ (x : Nat) (W : World), x ∈ xs → Below w.heap.size w W → Calls Tryz.prog 52 #[.pointer (some ⟨x, 0, none⟩), cap] W fun e w' => e = .returned (.bool (p x)) ∧ Below W.heap.size W w') :
    Calls Tryz.prog 51 #[.slice (some ⟨g, o, none⟩) n c, .func (.func 52) #[] #[cap]] w fun e w' => e = .returned (.int .i64 (k : Int)) ∧ Below w.heap.size w w' := by
  have HX : Hid (∀ (j : Nat) (x : Nat), xs[j]? = some x → w.cell? ⟨g, o + j, none⟩ = some (.pointer (some ⟨x, 0, none⟩))) := hx
  have HC : Hid (Bt.Cut p xs k) := hc
  have HP : Hid (∀ (x : Nat) (W : World), x ∈ xs → Below w.heap.size w W → Calls Tryz.prog 52 #[.pointer (some ⟨x, 0, none⟩), cap] W fun e w' => e = .returned (.bool (p x)) ∧ Below W.heap.size W w') := hp
  have HN : Hid (n = xs.length ∧ g < w.heap.size) := ⟨hn, hg⟩
  clear hx hc hp hn hg
  go_enter Tryz.func51, Tryz.ntmps51
  go_wp2
  go_loopw [5, 6] (fun v u wr => ∃ (lo hi : Nat), v = .int .i64 (lo : Int) ∧ u = .int .i64 (hi : Int) ∧ lo ≤ k ∧ k ≤ hi ∧ hi ≤ n ∧ Below w.heap.size w wr) (fun v u _ => (intOf u).toNat - (intOf v).toNat)
  case atStart => exact ⟨0, n, rfl, rfl, Nat.zero_le _, by rw [HN.out.1]; exact HC.out.1, Nat.le_refl _, Below.refl _ _⟩
  case round =>
    obtain ⟨lo, hi, rfl, rfl, h1, h2, h3, hb⟩ := hrel
    have HB : Hid (Below w.heap.size w wr) := hb
    clear hb
    by_cases hlt : lo < hi
    · have q1 : (lo : Int) < (hi : Int) := Int.ofNat_lt.2 hlt
      obtain ⟨m, hm⟩ : ∃ m, m = (lo + hi) / 2 := ⟨_, rfl⟩
      obtain ⟨s, hs⟩ : ∃ s, s = lo + hi := ⟨_, rfl⟩
      have HM : Hid (lo ≤ m ∧ m < hi ∧ hi ≤ n ∧ n ≤ 1000000) := by
        have h := half_of hlt
        rw [← hm] at h
        exact ⟨h.1, h.2, h3, hl⟩
      obtain ⟨v1, v2, v3, v4⟩ := halfs hm hs hlt (Nat.le_trans h3 hl)
      obtain ⟨x, hx⟩ : ∃ x, xs[m]? = some x := ⟨_, List.getElem?_eq_getElem (Nat.lt_of_lt_of_le HM.out.2.1 (by rw [← HN.out.1]; exact HM.out.2.2.1))⟩
      have d0 : wr.cell? ⟨g, o + m, none⟩ = some (.pointer (some ⟨x, 0, none⟩)) := (HB.out.cell (p := ⟨g, o + m, none⟩) HN.out.2).trans (HX.out m x hx)
      have HV : Hid (p x = true ↔ m < k) := HC.out.2 m x hx
      have HMX : Hid (x ∈ xs) := List.mem_of_getElem? hx
      have k0 : (0 : Int) ≤ (m : Int) := Int.natCast_nonneg _
      have k1 : (m : Int) < (n : Int) := Int.ofNat_lt.2 (Nat.lt_of_lt_of_le HM.out.2.1 HM.out.2.2.1)
      obtain ⟨m1, hm1⟩ : ∃ m1, m1 = m + 1 := ⟨_, rfl⟩
      obtain ⟨v5, v6⟩ : IntKind.i64.wrap ((m : Int) + 1) = (m1 : Int) ∧ wrap64 ((m : Int) + 1) = (m1 : Int) := succs hm1 (Nat.le_of_lt (Nat.lt_of_lt_of_le HM.out.2.1 (Nat.le_trans HM.out.2.2.1 HM.out.2.2.2)))
      have HM1 : Hid (m1 = m + 1) := hm1
      clear hm hs hx hm1
      go_wp2_with fail
      refine (HP.out x _ HMX.out HB.out).mono ?_
      rintro e w2 ⟨rfl, hb2⟩
      have HB2 : Hid (Below w.heap.size w w2) := HB.out.trans (hb2.mono HB.out.size)
      clear hb2 d0
      obtain ⟨b, hb⟩ : ∃ b, b = p x := ⟨_, rfl⟩
      rw [← hb]
      rw [← hb] at HV
      clear hb
      cases b
      · have hk : k ≤ m := cut_no HV.out
        go_wp2
        go_roundw
        case rel => first | exact ⟨lo, m, rfl, rfl, h1, hk, Nat.le_of_lt (Nat.lt_of_lt_of_le HM.out.2.1 h3), HB2.out⟩ | ((repeat apply Exists.intro); exact ⟨⟨lo, m, rfl, rfl, h1, hk, Nat.le_of_lt (Nat.lt_of_lt_of_le HM.out.2.1 h3), HB2.out⟩, rfl⟩)
        case measure =>
          simp only [intOf]
          exact mea1 HM.out.1 HM.out.2.1
      · have hk : m1 ≤ k := by rw [HM1.out]; exact HV.out.1 rfl
        go_wp2
        go_roundw
        case rel => first | exact ⟨m1, hi, rfl, rfl, hk, h2, h3, HB2.out⟩ | ((repeat apply Exists.intro); exact ⟨⟨m1, hi, rfl, rfl, hk, h2, h3, HB2.out⟩, rfl⟩)
        case measure =>
          simp only [intOf]
          exact mea2 HM.out.1 HM.out.2.1 HM1.out
    · have q1 : ¬ (lo : Int) < (hi : Int) := fun h => hlt (Int.ofNat_lt.1 h)
      have hk : lo = k := Nat.le_antisymm h1 (Nat.le_trans h2 (Nat.le_of_not_lt hlt))
      subst hk
      have HF := HB.out
      go_wp2
      go_ret
      exact ⟨rfl, HF⟩
set_option maxHeartbeats 4000000 in
set_option maxRecDepth 100000 in
theorem placeH_c (cap : Value) (p : Nat → Bool) (xs : List Nat) (g o n c k : Nat) (w : World) (hn : n = xs.length) (hl : n ≤ 1000000) (hg : g < w.heap.size)
    (hx : ∀ (j : Nat) (x : Nat), xs[j]? = some x → w.cell? ⟨g, o + j, none⟩ = some (.pointer (some ⟨x, 0, none⟩))) (hc : Bt.Cut p xs k)
    (hp : ∀ (x : Nat) (W : World), x ∈ xs → Below w.heap.size w W → Calls Tryz.prog 54 #[.pointer (some ⟨x, 0, none⟩), cap] W fun e w' => e = .returned (.bool (p x)) ∧ Below W.heap.size W w') :
    Calls Tryz.prog 51 #[.slice (some ⟨g, o, none⟩) n c, .func (.func 54) #[] #[cap]] w fun e w' => e = .returned (.int .i64 (k : Int)) ∧ Below w.heap.size w w' := by
  have HX : Hid (∀ (j : Nat) (x : Nat), xs[j]? = some x → w.cell? ⟨g, o + j, none⟩ = some (.pointer (some ⟨x, 0, none⟩))) := hx
  have HC : Hid (Bt.Cut p xs k) := hc
  have HP : Hid (∀ (x : Nat) (W : World), x ∈ xs → Below w.heap.size w W → Calls Tryz.prog 54 #[.pointer (some ⟨x, 0, none⟩), cap] W fun e w' => e = .returned (.bool (p x)) ∧ Below W.heap.size W w') := hp
  have HN : Hid (n = xs.length ∧ g < w.heap.size) := ⟨hn, hg⟩
  clear hx hc hp hn hg
  go_enter Tryz.func51, Tryz.ntmps51
  go_wp2
  go_loopw [5, 6] (fun v u wr => ∃ (lo hi : Nat), v = .int .i64 (lo : Int) ∧ u = .int .i64 (hi : Int) ∧ lo ≤ k ∧ k ≤ hi ∧ hi ≤ n ∧ Below w.heap.size w wr) (fun v u _ => (intOf u).toNat - (intOf v).toNat)
  case atStart => exact ⟨0, n, rfl, rfl, Nat.zero_le _, by rw [HN.out.1]; exact HC.out.1, Nat.le_refl _, Below.refl _ _⟩
  case round =>
    obtain ⟨lo, hi, rfl, rfl, h1, h2, h3, hb⟩ := hrel
    have HB : Hid (Below w.heap.size w wr) := hb
    clear hb
    by_cases hlt : lo < hi
    · have q1 : (lo : Int) < (hi : Int) := Int.ofNat_lt.2 hlt
      obtain ⟨m, hm⟩ : ∃ m, m = (lo + hi) / 2 := ⟨_, rfl⟩
      obtain ⟨s, hs⟩ : ∃ s, s = lo + hi := ⟨_, rfl⟩
      have HM : Hid (lo ≤ m ∧ m < hi ∧ hi ≤ n ∧ n ≤ 1000000) := by
        have h := half_of hlt
        rw [← hm] at h
        exact ⟨h.1, h.2, h3, hl⟩
      obtain ⟨v1, v2, v3, v4⟩ := halfs hm hs hlt (Nat.le_trans h3 hl)
      obtain ⟨x, hx⟩ : ∃ x, xs[m]? = some x := ⟨_, List.getElem?_eq_getElem (Nat.lt_of_lt_of_le HM.out.2.1 (by rw [← HN.out.1]; exact HM.out.2.2.1))⟩
      have d0 : wr.cell? ⟨g, o + m, none⟩ = some (.pointer (some ⟨x, 0, none⟩)) := (HB.out.cell (p := ⟨g, o + m, none⟩) HN.out.2).trans (HX.out m x hx)
      have HV : Hid (p x = true ↔ m < k) := HC.out.2 m x hx
      have HMX : Hid (x ∈ xs) := List.mem_of_getElem? hx
      have k0 : (0 : Int) ≤ (m : Int) := Int.natCast_nonneg _
      have k1 : (m : Int) < (n : Int) := Int.ofNat_lt.2 (Nat.lt_of_lt_of_le HM.out.2.1 HM.out.2.2.1)
      obtain ⟨m1, hm1⟩ : ∃ m1, m1 = m + 1 := ⟨_, rfl⟩
      obtain ⟨v5, v6⟩ : IntKind.i64.wrap ((m : Int) + 1) = (m1 : Int) ∧ wrap64 ((m : Int) + 1) = (m1 : Int) := succs hm1 (Nat.le_of_lt (Nat.lt_of_lt_of_le HM.out.2.1 (Nat.le_trans HM.out.2.2.1 HM.out.2.2.2)))
      have HM1 : Hid (m1 = m + 1) := hm1
      clear hm hs hx hm1
      go_wp2_with fail
      refine (HP.out x _ HMX.out HB.out).mono ?_
      rintro e w2 ⟨rfl, hb2⟩
      have HB2 : Hid (Below w.heap.size w w2) := HB.out.trans (hb2.mono HB.out.size)
      clear hb2 d0
      obtain ⟨b, hb⟩ : ∃ b, b = p x := ⟨_, rfl⟩
      rw [← hb]
      rw [← hb] at HV
      clear hb
      cases b
      · have hk : k ≤ m := cut_no HV.out
        go_wp2
        go_roundw
        case rel => first | exact ⟨lo, m, rfl, rfl, h1, hk, Nat.le_of_lt (Nat.lt_of_lt_of_le HM.out.2.1 h3), HB2.out⟩ | ((repeat apply Exists.intro); exact ⟨⟨lo, m, rfl, rfl, h1, hk, Nat.le_of_lt (Nat.lt_of_lt_of_le HM.out.2.1 h3), HB2.out⟩, rfl⟩)
        case measure =>
          simp only [intOf]
          exact mea1 HM.out.1 HM.out.2.1
      · have hk : m1 ≤ k := by rw [HM1.out]; exact HV.out.1 rfl
        go_wp2
        go_roundw
        case rel => first | exact ⟨m1, hi, rfl, rfl, hk, h2, h3, HB2.out⟩ | ((repeat apply Exists.intro); exact ⟨⟨m1, hi, rfl, rfl, hk, h2, h3, HB2.out⟩, rfl⟩)
        case measure =>
          simp only [intOf]
          exact mea2 HM.out.1 HM.out.2.1 HM1.out
    · have q1 : ¬ (lo : Int) < (hi : Int) := fun h => hlt (Int.ofNat_lt.1 h)
      have hk : lo = k := Nat.le_antisymm h1 (Nat.le_trans h2 (Nat.le_of_not_lt hlt))
      subst hk
      have HF := HB.out
      go_wp2
      go_ret
      exact ⟨rfl, HF⟩
end Go.Proofs.YtkigenldiinioaaGreatDoor
/- A region that draws its order, whose operations only read and whose callees turn nothing below a border: walked once. -/
namespace Go.Proofs.YtkigenldiinioaaGreatDoor
open Go.RowKit
/-- a world that has turned nothing below B -/
structure BelowOf (B : Nat) (w : World) where
  W : World
  h : Below B w W
instance {B : Nat} {w : World} : Inhabited (BelowOf B w) := ⟨⟨w, Below.refl _ _⟩⟩
theorem wp_region_below {P : Program} {id : Nat} {Q : Exit → Act → World → Prop} {a : Act} {w : World} {l : List Oper} (B : Nat) (w0 : World) (hw : Below B w0 w) (hm : P.follows .mixedOrders = true) (hB : Region.lexB .any l.toArray = true)
    (h : wpQuiet P l.toArray (fun w' => ∃ p : BelowOf B w0, w' = p.W) (fun a' => ∀ w', (∃ p : BelowOf B w0, w' = p.W) → Q .normal a' w') l a) : (Code.region id l.toArray true).wp P Q a w :=
  wp_region_quiet (C := fun w' => ∃ p : BelowOf B w0, w' = p.W) hm hB ⟨⟨w.drew, hw.drew⟩, rfl⟩ (by simpa using h)
theorem below_call {P : Program} {f : FuncId} {args : Array Value} {B : Nat} {w : World} {v : Value} (p : BelowOf B w) (hB : B ≤ w.heap.size)
    (h : Calls P f args p.W fun e w' => e = .returned v ∧ Below p.W.heap.size p.W w') : Calls P f args p.W fun e w'' => e = .returned v ∧ ∃ q : BelowOf B w, w'' = q.W :=
  h.mono fun _ w' ⟨he, hb⟩ => ⟨he, ⟨w', p.h.trans (hb.mono (Nat.le_trans hB p.h.size))⟩, rfl⟩
theorem below_same {P : Program} {f : FuncId} {args : Array Value} {B : Nat} {w : World} {v : Value} (p : BelowOf B w)
    (h : Calls P f args p.W fun e w' => e = .returned v ∧ w' = p.W) : Calls P f args p.W fun e w'' => e = .returned v ∧ ∃ q : BelowOf B w, w'' = q.W :=
  h.mono fun _ _ ⟨he, hb⟩ => ⟨he, p, hb⟩
end Go.Proofs.YtkigenldiinioaaGreatDoor
/- A tree's look for a key finds what its list does. -/
namespace Go.Proofs.YtkigenldiinioaaGreatDoor
open Vl (V)
namespace Bt
theorem look_nil {key : Nat → V} {x : V} : look key x .nil = none := rfl
theorem rises_app {key : Nat → V} {a b : List Nat} : Rises key (a ++ b) ↔ Rises key a ∧ Rises key b ∧ ∀ y ∈ a, ∀ z ∈ b, Vl.cmp (key y) (key z) < 0 := List.pairwise_append
theorem rises_cons {key : Nat → V} {e : Nat} {b : List Nat} : Rises key (e :: b) ↔ (∀ z ∈ b, Vl.cmp (key e) (key z) < 0) ∧ Rises key b := List.pairwise_cons
theorem at_cons {key : Nat → V} {x : V} {e : Nat} {b : List Nat} : at? key x (e :: b) = if Vl.cmp (key e) x = 0 then some e else at? key x b := by
  by_cases h : Vl.cmp (key e) x = 0
  · rw [at_hit h, if_pos h]
  · rw [at_miss h, if_neg h]
/-- all of a list are below -/
theorem at_low {key : Nat → V} {x : V} {e : Nat} {l : List Nat} (h : ∀ y ∈ l, Vl.cmp (key y) (key e) < 0) (he : Vl.cmp (key e) x ≤ 0) : at? key x l = none := at_less fun y hy => by
  rcases Int.lt_or_eq_of_le he with h1 | h1
  · have := lt_trans (h y hy) h1; omega
  · have := lt_of_lt_of_eq (h y hy) h1; omega
/-- all of a list are above -/
theorem at_high {key : Nat → V} {x : V} {e : Nat} {l : List Nat} (h : ∀ y ∈ l, Vl.cmp (key e) (key y) < 0) (he : ¬ Vl.cmp (key e) x < 0) : at? key x l = none := at_less fun y hy => by
  have := gt_of (h y hy) he
  omega
theorem spot_three {key : Nat → V} {x : V} (e f h : Nat) : spot key x [e, f, h] = if Vl.cmp (key e) x < 0 then if Vl.cmp (key f) x < 0 then if Vl.cmp (key h) x < 0 then 3 else 2 else 1 else 0 := by
  unfold spot
  by_cases h1 : Vl.cmp (key e) x < 0
  · rw [List.takeWhile_cons_of_pos (by simp [ahead, h1]), if_pos h1]
    by_cases h2 : Vl.cmp (key f) x < 0
    · rw [List.takeWhile_cons_of_pos (by simp [ahead, h2]), if_pos h2]
      by_cases h3 : Vl.cmp (key h) x < 0
      · rw [List.takeWhile_cons_of_pos (by simp [ahead, h3]), if_pos h3]; rfl
      · rw [List.takeWhile_cons_of_neg (by simp [ahead, h3]), if_neg h3]; rfl
    · rw [List.takeWhile_cons_of_neg (by simp [ahead, h2]), if_neg h2]; rfl
  · rw [List.takeWhile_cons_of_neg (by simp [ahead, h1]), if_neg h1]; rfl
theorem look_flat {key : Nat → V} {x : V} : ∀ {t : T}, wf t → Rises key (flat t) → look key x t = at? key x (flat t)
  | .nil, _, _ => rfl
  | .node g r es a b c d, hw, hr => by
    obtain ⟨h1, h2, h3, ha, hb, hc, hd⟩ := hw
    by_cases hl : es.length < 3
    · obtain ⟨rfl, rfl, rfl, rfl⟩ := h3 hl
      rw [flat_one _ _ _ (by omega)] at hr ⊢
      rw [at_spot hr, look]
      have hp : ∀ i, pick i (look key x T.nil) (look key x T.nil) (look key x T.nil) (look key x T.nil) = none := fun i => by
        simp [pick, look_nil]
      rcases es[spot key x es]? with _ | e
      · exact hp _
      · show (if _ then _ else _) = _
        rw [hp]
    · match es, h2, hl, hr with
      | [e, f, h], _, _, hr =>
        rw [flat_three] at hr ⊢
        obtain ⟨ra, r1, m1⟩ := rises_app.1 hr
        obtain ⟨m2, r2⟩ := rises_cons.1 r1
        obtain ⟨rb, r3, m3⟩ := rises_app.1 r2
        obtain ⟨m4, r4⟩ := rises_cons.1 r3
        obtain ⟨rc, r5, m5⟩ := rises_app.1 r4
        obtain ⟨m6, rd⟩ := rises_cons.1 r5
        have ia := look_flat (x := x) ha ra
        have ib := look_flat (x := x) hb rb
        have ic := look_flat (x := x) hc rc
        have id := look_flat (x := x) hd rd
        rw [look, spot_three, ia, ib, ic, id, at_app, at_cons, at_app, at_cons, at_app, at_cons]
        have ae : ∀ y ∈ flat a, Vl.cmp (key y) (key e) < 0 := fun y hy => m1 y hy e (by simp)
        have be : ∀ y ∈ flat b, Vl.cmp (key e) (key y) < 0 := fun y hy => m2 y (by simp [hy])
        have bf : ∀ y ∈ flat b, Vl.cmp (key y) (key f) < 0 := fun y hy => m3 y hy f (by simp)
        have cf : ∀ y ∈ flat c, Vl.cmp (key f) (key y) < 0 := fun y hy => m4 y (by simp [hy])
        have ch : ∀ y ∈ flat c, Vl.cmp (key y) (key h) < 0 := fun y hy => m5 y hy h (by simp)
        have dh : ∀ y ∈ flat d, Vl.cmp (key h) (key y) < 0 := fun y hy => m6 y hy
        have ef : Vl.cmp (key e) (key f) < 0 := m2 f (by simp)
        have fh : Vl.cmp (key f) (key h) < 0 := m4 h (by simp)
        by_cases k1 : Vl.cmp (key e) x < 0
        · have n1 : ¬ Vl.cmp (key e) x = 0 := by omega
          have oa := at_low ae (x := x) (by omega)
          by_cases k2 : Vl.cmp (key f) x < 0
          · have n2 : ¬ Vl.cmp (key f) x = 0 := by omega
            have ob := at_low bf (x := x) (by omega)
            by_cases k3 : Vl.cmp (key h) x < 0
            · have n3 : ¬ Vl.cmp (key h) x = 0 := by omega
              have oc := at_low ch (x := x) (by omega)
              simp [k1, k2, k3, n1, n2, n3, oa, ob, oc, pick]
            · have od := at_high dh k3
              by_cases n3 : Vl.cmp (key h) x = 0
              · have oc := at_low ch (x := x) (by omega)
                simp [k1, k2, n1, n2, n3, oa, ob, oc]
              · simp [k1, k2, k3, n1, n2, n3, oa, ob, od, pick]
          · have p3 := gt_of fh k2
            have n3 : ¬ Vl.cmp (key h) x = 0 := by omega
            have oc := at_high cf k2
            have od := at_high dh (x := x) (by omega)
            by_cases n2 : Vl.cmp (key f) x = 0
            · have ob := at_low bf (x := x) (by omega)
              simp [k1, n1, n2, oa, ob]
            · simp [k1, k2, n1, n2, n3, oa, oc, od, pick]
        · have p2 := gt_of ef k1
          have n2 : ¬ Vl.cmp (key f) x = 0 := by omega
          have p3 := gt_of fh (x := x) (by omega)
          have n3 : ¬ Vl.cmp (key h) x = 0 := by omega
          have ob := at_high be k1
          have oc := at_high cf (x := x) (by omega)
          have od := at_high dh (x := x) (by omega)
          by_cases n1 : Vl.cmp (key e) x = 0
          · have oa := at_low ae (x := x) (by omega)
            simp [n1, oa]
          · simp [k1, n1, n2, n3, ob, oc, od, pick]
      | [], _, hl, _ => simp at hl
      | [_], _, hl, _ => simp at hl
      | [_, _], _, hl, _ => simp at hl
end Bt
end Go.Proofs.YtkigenldiinioaaGreatDoor
/- What a tree yields of a range is what lies there of its list. -/
namespace Go.Proofs.YtkigenldiinioaaGreatDoor
open Vl (V)
namespace Bt
/-- below a lower bound, above an upper one -/
def lb : Option (Bool × V) → V → Bool
  | none, _ => false
  | some (o, x), k => decide (Vl.cmp k x < 0) || (decide (Vl.cmp k x = 0) && o)
def ub : Option (Bool × V) → V → Bool
  | none, _ => false
  | some (o, x), k => decide (0 < Vl.cmp k x) || (decide (Vl.cmp k x = 0) && o)
theorem lb_mono {lo : Option (Bool × V)} {a b : V} (h : Vl.cmp a b < 0) (hb : lb lo b = true) : lb lo a = true := by
  rcases lo with _ | ⟨o, x⟩
  · exact hb
  · rw [lb, Bool.or_eq_true, Bool.and_eq_true, decide_eq_true_eq, decide_eq_true_eq] at hb ⊢
    rcases hb with h1 | ⟨h1, _⟩
    · exact .inl (lt_trans h h1)
    · exact .inl (lt_of_lt_of_eq h h1)
theorem ub_mono {hi : Option (Bool × V)} {a b : V} (h : Vl.cmp a b < 0) (ha : ub hi a = true) : ub hi b = true := by
  rcases hi with _ | ⟨o, x⟩
  · exact ha
  · rw [ub, Bool.or_eq_true, Bool.and_eq_true, decide_eq_true_eq, decide_eq_true_eq] at ha ⊢
    exact .inl (gt_of h (by rcases ha with h1 | ⟨h1, _⟩ <;> omega))
def inR (lo hi : Option (Bool × V)) (k : V) : Bool := !lb lo k && !ub hi k
theorem inR_lb {lo hi : Option (Bool × V)} {k : V} (h : lb lo k = true) : inR lo hi k = false := by simp [inR, h]
theorem inR_ub {lo hi : Option (Bool × V)} {k : V} (h : ub hi k = true) : inR lo hi k = false := by simp [inR, h]
theorem inR_yes {lo hi : Option (Bool × V)} {k : V} (h : lb lo k = false) (h2 : ub hi k = false) : inR lo hi k = true := by simp [inR, h, h2]
def fromOf (key : Nat → V) (lo : Option (Bool × V)) (es : List Nat) : Nat := (es.takeWhile fun e => lb lo (key e)).length
def toOf (key : Nat → V) (hi : Option (Bool × V)) (es : List Nat) : Nat := (es.takeWhile fun e => !ub hi (key e)).length
/-- a round's yield -/
def rnd (es : List Nat) (to i : Nat) (a b c d : List Nat) : List Nat := pick i a b c d ++ if i < to then (es[i]?).toList else []
/-- the rounds from one place to another -/
def rnds (es : List Nat) (a b c d : List Nat) (frm to : Nat) : List Nat := (List.range' frm (to + 1 - frm)).flatMap fun i => rnd es to i a b c d
def wl (key : Nat → V) (lo hi : Option (Bool × V)) : T → List Nat
  | .nil => []
  | .node _ _ es a b c d => rnds es (wl key lo hi a) (wl key lo hi b) (wl key lo hi c) (wl key lo hi d) (fromOf key lo es) (toOf key hi es)
theorem filter_none {p : Nat → Bool} {l : List Nat} (h : ∀ y ∈ l, p y = false) : l.filter p = [] := by
  rw [List.filter_eq_nil_iff]
  intro y hy
  simp [h y hy]
theorem wl_flat {key : Nat → V} {lo hi : Option (Bool × V)} : ∀ {t : T}, wf t → Rises key (flat t) → wl key lo hi t = (flat t).filter fun e => inR lo hi (key e)
  | .nil, _, _ => rfl
  | .node g r es a b c d, hw, hr => by
    obtain ⟨h1, h2, h3, ha, hb, hc, hd⟩ := hw
    have L : ∀ {e y : Nat}, Vl.cmp (key y) (key e) < 0 → lb lo (key e) = true → inR lo hi (key y) = false := fun h k => inR_lb (lb_mono h k)
    have U : ∀ {e y : Nat}, Vl.cmp (key e) (key y) < 0 → ub hi (key e) = true → inR lo hi (key y) = false := fun h k => inR_ub (ub_mono h k)
    by_cases hl : es.length < 3
    · obtain ⟨rfl, rfl, rfl, rfl⟩ := h3 hl
      rw [flat_one _ _ _ (by omega)] at hr ⊢
      rw [wl]
      have hn : wl key lo hi T.nil = [] := rfl
      rw [hn]
      match es, h1, hl, hr with
      | [e], _, _, _ =>
        rcases ke : lb lo (key e) with _ | _ <;> rcases ku : ub hi (key e) with _ | _ <;>
          simp [rnds, rnd, pick, fromOf, toOf, inR, ke, ku, List.range']
      | [e, f], _, _, hr =>
        have ef : Vl.cmp (key e) (key f) < 0 := (rises_cons.1 hr).1 f (by simp)
        rcases ke : lb lo (key e) with _ | _ <;> rcases ku : ub hi (key e) with _ | _ <;> rcases kf : lb lo (key f) with _ | _ <;> rcases kv : ub hi (key f) with _ | _ <;>
          first
          | (have q := lb_mono ef kf; rw [ke] at q; exact absurd q Bool.false_ne_true)
          | (have q := ub_mono ef ku; rw [kv] at q; exact absurd q Bool.false_ne_true)
          | simp [rnds, rnd, pick, fromOf, toOf, inR, ke, ku, kf, kv, List.range']
      | [], h1, _, _ => simp at h1
    · match es, h2, hl, hr with
      | [e, f, h], _, _, hr =>
        rw [flat_three] at hr ⊢
        obtain ⟨ra, r1, m1⟩ := rises_app.1 hr
        obtain ⟨m2, r2⟩ := rises_cons.1 r1
        obtain ⟨rb, r3, m3⟩ := rises_app.1 r2
        obtain ⟨m4, r4⟩ := rises_cons.1 r3
        obtain ⟨rc, r5, m5⟩ := rises_app.1 r4
        obtain ⟨m6, rd⟩ := rises_cons.1 r5
        rw [wl, wl_flat ha ra, wl_flat hb rb, wl_flat hc rc, wl_flat hd rd]
        simp only [List.filter_append, List.filter_cons]
        have ae : ∀ y ∈ flat a, Vl.cmp (key y) (key e) < 0 := fun y hy => m1 y hy e (by simp)
        have be : ∀ y ∈ flat b, Vl.cmp (key e) (key y) < 0 := fun y hy => m2 y (by simp [hy])
        have bf : ∀ y ∈ flat b, Vl.cmp (key y) (key f) < 0 := fun y hy => m3 y hy f (by simp)
        have cf : ∀ y ∈ flat c, Vl.cmp (key f) (key y) < 0 := fun y hy => m4 y (by simp [hy])
        have ch : ∀ y ∈ flat c, Vl.cmp (key y) (key h) < 0 := fun y hy => m5 y hy h (by simp)
        have dh : ∀ y ∈ flat d, Vl.cmp (key h) (key y) < 0 := fun y hy => m6 y hy
        have ef : Vl.cmp (key e) (key f) < 0 := m2 f (by simp)
        have fh : Vl.cmp (key f) (key h) < 0 := m4 h (by simp)
        have za : lb lo (key e) = true → (flat a).filter (fun e => inR lo hi (key e)) = [] := fun k => filter_none fun y hy => L (ae y hy) k
        have zb : lb lo (key f) = true → (flat b).filter (fun e => inR lo hi (key e)) = [] := fun k => filter_none fun y hy => L (bf y hy) k
        have zc : lb lo (key h) = true → (flat c).filter (fun e => inR lo hi (key e)) = [] := fun k => filter_none fun y hy => L (ch y hy) k
        have yb : ub hi (key e) = true → (flat b).filter (fun e => inR lo hi (key e)) = [] := fun k => filter_none fun y hy => U (be y hy) k
        have yc : ub hi (key f) = true → (flat c).filter (fun e => inR lo hi (key e)) = [] := fun k => filter_none fun y hy => U (cf y hy) k
        have yd : ub hi (key h) = true → (flat d).filter (fun e => inR lo hi (key e)) = [] := fun k => filter_none fun y hy => U (dh y hy) k
        obtain ⟨A, hA⟩ : ∃ A, A = (flat a).filter (fun e => inR lo hi (key e)) := ⟨_, rfl⟩
        obtain ⟨B, hB⟩ : ∃ B, B = (flat b).filter (fun e => inR lo hi (key e)) := ⟨_, rfl⟩
        obtain ⟨C, hC⟩ : ∃ C, C = (flat c).filter (fun e => inR lo hi (key e)) := ⟨_, rfl⟩
        obtain ⟨D, hD⟩ : ∃ D, D = (flat d).filter (fun e => inR lo hi (key e)) := ⟨_, rfl⟩
        rw [← hA, ← hB, ← hC, ← hD]
        rw [← hA] at za
        rw [← hB] at zb yb
        rw [← hC] at zc yc
        rw [← hD] at yd
        clear hA hB hC hD m1 m2 m3 m4 m5 m6 ra rb rc rd r1 r2 r3 r4 r5 hr ae be bf cf ch dh L U
        rcases ke : lb lo (key e) with _ | _ <;> rcases ku : ub hi (key e) with _ | _ <;> rcases kf : lb lo (key f) with _ | _ <;> rcases kv : ub hi (key f) with _ | _ <;> rcases kh : lb lo (key h) with _ | _ <;> rcases kw : ub hi (key h) with _ | _ <;>
          first
          | (have q := lb_mono ef kf; rw [ke] at q; exact absurd q Bool.false_ne_true)
          | (have q := lb_mono fh kh; rw [kf] at q; exact absurd q Bool.false_ne_true)
          | (have q := ub_mono ef ku; rw [kv] at q; exact absurd q Bool.false_ne_true)
          | (have q := ub_mono fh kv; rw [kw] at q; exact absurd q Bool.false_ne_true)
          | (simp [rnds, rnd, pick, fromOf, toOf, inR, ke, ku, kf, kv, kh, kw, List.range'] at za zb zc yb yc yd ⊢ <;> simp [*])
      | [], _, hl, _ => simp at hl
      | [_], _, hl, _ => simp at hl
      | [_, _], _, hl, _ => simp at hl
end Bt
end Go.Proofs.YtkigenldiinioaaGreatDoor
