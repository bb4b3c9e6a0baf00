/- Whether two lists of texts are one; what the statements ask first. -/
import Derived.Test.YtoldfepeldbcpaaDoorMkR
namespace Go.Proofs.YtoldfepeldbcpaaDoor
open Go.RowKit
theorem take_eq_step {x y : List (List UInt8)} {k : Nat} {p q : List UInt8} (hp : x[k]? = some p) (hq : y[k]? = some q) (h : x.take k = y.take k) (e : p = q) : x.take (k + 1) = y.take (k + 1) := by
  rw [List.take_add_one, List.take_add_one, hp, hq, h, e]
set_option maxHeartbeats 4000000 in
theorem same_c (a : Option Addr) (n c : Nat) (b : Option Addr) (m d : Nat) (x y : List (List UInt8)) (hx : x.length ≤ 9223372036854775807) (_hy : y.length ≤ 9223372036854775807) (H : Nat) (w : World) (hH : H ≤ w.heap.size) (hA : Sl w H (.slice a n c) x) (hB : Sl w H (.slice b m d) y) :
    Calls Tryd.prog 14 #[.slice a n c, .slice b m d] w fun e w' => e = .returned (.bool (decide (x = y))) ∧ Below w.heap.size w w' := by
  have HN : Hid (n = x.length ∧ m = y.length) := ⟨hA.len, hB.len⟩
  have hn63 : n ≤ 9223372036854775807 := by rw [HN.out.1]; exact hx
  have HA : Hid (Sl w H (.slice a n c) x) := hA
  have HB : Hid (Sl w H (.slice b m d) y) := hB
  clear hA hB hx
  by_cases hnm : n = m
  · subst hnm
    have q1 : ((n : Int) != (n : Int)) = false := by simp
    go_enter Tryd.func14, Tryd.ntmps14
    go_wp2
    go_loopw [13] (fun i wr => ∃ k : Nat, k ≤ n ∧ i = .int .i64 (k : Int) ∧ Hid (x.take k = y.take k) ∧ Below w.heap.size w wr) (fun i _ => n - (intOf i).toNat)
    case atStart => exact ⟨0, Nat.zero_le _, rfl, rfl, Below.refl _ _⟩
    case round =>
      obtain ⟨k, hk, rfl, hT, hnx⟩ := hrel
      by_cases hlt : k < n
      · obtain ⟨b1, o1, rfl, -, hb1, hc1⟩ := HA.out.at (by have := HN.out; omega)
        obtain ⟨b2, o2, rfl, -, hb2, hc2⟩ := HB.out.at (by have := HN.out; omega)
        obtain ⟨p, hp⟩ : ∃ p, x[k]? = some p := ⟨_, List.getElem?_eq_getElem (by have := HN.out; omega)⟩
        obtain ⟨q, hq⟩ : ∃ q, y[k]? = some q := ⟨_, List.getElem?_eq_getElem (by have := HN.out; omega)⟩
        obtain ⟨ps, hps⟩ : ∃ s : ByteArray, s = bs p := ⟨_, rfl⟩
        obtain ⟨qs, hqs⟩ : ∃ s : ByteArray, s = bs q := ⟨_, rfl⟩
        have e1 : wr.cell? ⟨b1, o1 + k, none⟩ = some (.string ps) := by rw [hps, hnx.cell (p := ⟨b1, o1 + k, none⟩) (by show b1 < _; omega)]; exact hc1 k p hp
        have e2 : wr.cell? ⟨b2, o2 + k, none⟩ = some (.string qs) := by rw [hqs, hnx.cell (p := ⟨b2, o2 + k, none⟩) (by show b2 < _; omega)]; exact hc2 k q hq
        have HPQ : Hid (x[k]? = some p ∧ y[k]? = some q) := ⟨hp, hq⟩
        have HNX : Hid (Below w.heap.size w wr) := hnx
        have k0 : (0 : Int) ≤ (k : Int) := by omega
        have k1 : (k : Int) < (n : Int) := by omega
        by_cases hpq : p = q
        · have ht : (ps.toList == qs.toList) = true := by rw [hps, hqs, hpq]; simp
          have HE : Hid (p = q) := hpq
          clear hc1 hc2 hp hq hps hqs hnx hpq
          go_wp2
          go_quiet (fail)
          go_wp2
          exact ⟨⟨k + 1, by omega, by go_num, take_eq_step HPQ.out.1 HPQ.out.2 hT.out HE.out, below_drewN HNX.out _⟩, by simp [intOf]; omega⟩
        · have ht : (ps.toList == qs.toList) = false := by
            rw [hps, hqs, Lib.toList_data, Lib.toList_data, data_bs, data_bs]; simpa using hpq
          have HF : Hid (decide (x = y) = false) := by
            show _ = _
            rw [decide_eq_false_iff_not]
            intro e
            rw [e, hq] at hp
            exact hpq (by injection hp with hp; exact hp.symm)
          clear hc1 hc2 hp hq hps hqs hnx hpq
          go_wp2
          go_quiet (fail)
          go_wp2
          go_ret
          exact ⟨by rw [HF.out]; rfl, below_drewN HNX.out _⟩
      · have hkn : k = n := by omega
        subst hkn
        have HF : Hid (decide (x = y) = true) := by
          show _ = _
          have := hT.out
          rw [List.take_of_length_le (by rw [← HN.out.1]; exact Nat.le_refl _), List.take_of_length_le (by rw [← HN.out.2]; exact Nat.le_refl _)] at this
          simpa using this
        go_wp2
        go_ret
        exact ⟨by rw [HF.out]; rfl, hnx⟩
  · have q1 : ((n : Int) != (m : Int)) = true := by simp; omega
    have HF : Hid (decide (x = y) = false) := by
      show _ = _
      rw [decide_eq_false_iff_not]
      intro e
      exact hnm (by rw [HN.out.1, HN.out.2, e])
    clear hnm
    go_enter Tryd.func14, Tryd.ntmps14
    go_wp2
    go_ret
    exact ⟨by rw [HF.out]; rfl, Below.refl _ _⟩
theorem leafOf_c (s : ByteArray) (hs : s.size ≤ 140737488355328) (w : World) (hK : HasK w) :
    Calls Tryd.prog 11 #[.string s] w fun e w' => e = .returned (.string (bs (Mk.leaf s.data.toList))) ∧ Below w.heap.size w w' := by
  obtain ⟨t, ht⟩ : ∃ t : ByteArray, t = bs (Mk.leafT s.data.toList) := ⟨_, rfl⟩
  obtain ⟨d, hd⟩ : ∃ d : ByteArray, d = bs (Mk.leaf s.data.toList) := ⟨_, rfl⟩
  have C : Hid (Calls Tryd.prog 10 #[.string t] w fun e w' => e = .returned (.string d) ∧ Below w.heap.size w w') := by
    show Calls _ _ _ _ _
    have := sum9 t (by rw [ht, bs_size]; simp [Mk.leafT]; omega) w hK
    rw [ht] at this ⊢
    rw [hd]
    exact this
  have hadd : ∀ W, (Op.stringOp .add ⟨#[0]⟩ s).run Tryd.prog W = .ok (.string t) W := fun W => by
    rw [run_string_add_sum W ⟨#[0]⟩ s (by show 1 + s.size ≤ _; omega), ht]
    congr 2
  rw [← hd]
  clear ht hd hK hs
  go_enter Tryd.func11, Tryd.ntmps11
  go_wp2_with fail
  refine C.out.mono ?_
  rintro e w1 ⟨rfl, hb⟩
  have HB : Hid (Below w.heap.size w w1) := hb
  clear hb
  go_wp2
  go_ret
  exact ⟨rfl, HB.out⟩
/-- a row of texts stays where a tree's block turns -/
theorem own_gr {W W' : World} {b base n : Nat} {l : List (List UInt8)} {v : Value} {xs : List Value} (hT : Tr W b l) (hg : Gr b W W') (h : W.ownsRow base 9 1 v n xs) : W'.ownsRow base 9 1 v n xs := by
  refine ⟨h.1, ?_⟩
  rcases h.2 with h2 | ⟨g, cap, cur, h1, h3, h4, h5⟩
  · exact .inl h2
  · refine .inr ⟨g, cap, cur, h1, h3, (hg.block g (Array.getElem?_eq_some_iff.1 h4).1 (fun q => ?_)).trans h4, h5⟩
    injection q with q
    subst q
    rcases hT with ⟨_, ⟨g', _, h2, _⟩ | ⟨p, h2, _⟩⟩
    · rw [h2] at h4; simp at h4
    · rw [h2] at h4; simp at h4
namespace Mk
def l3 : List Bs := [[97], [98], [99]]
def ab : Bs := node (leaf [97]) (leaf [98])
theorem l3_root : root l3 = node ab (leaf [99]) := by
  rw [root_two (l := l3) (by decide)]
  have h : half l3.length = 2 := by decide +kernel
  rw [h]
  have e1 : l3.take 2 = [[97], [98]] := rfl
  have e2 : l3.drop 2 = [[99]] := rfl
  have h2 : half ([[97], [98]] : List Bs).length = 1 := by decide +kernel
  rw [e1, e2, root_one, root_two (l := [[97], [98]]) (by decide), h2]
  have e3 : ([[97], [98]] : List Bs).take 1 = [[97]] := rfl
  have e4 : ([[97], [98]] : List Bs).drop 1 = [[98]] := rfl
  rw [e3, e4, root_one, root_one]
  rfl
theorem l3_path : path l3 2 = [ab] := by
  have h : half l3.length = 2 := by decide +kernel
  rw [path_right (l := l3) (i := 2) (by decide) (by rw [h]; decide), h]
  have e1 : l3.take 2 = [[97], [98]] := rfl
  have e2 : l3.drop 2 = [[99]] := rfl
  have h2 : half ([[97], [98]] : List Bs).length = 1 := by decide +kernel
  rw [e1, e2, path_one (by decide), root_two (l := [[97], [98]]) (by decide), h2]
  have e3 : ([[97], [98]] : List Bs).take 1 = [[97]] := rfl
  have e4 : ([[97], [98]] : List Bs).drop 1 = [[98]] := rfl
  rw [e3, e4, root_one, root_one]
  rfl
theorem tw3 : tw e1 3 3 = [false] := by
  have h : half 3 = 2 := by decide +kernel
  rw [tw_right (by decide) (by decide) (by rw [h]; decide), h, tw_end (.inl (by decide))]
theorem l3_shows : showsZ (root l3) [99] 2 3 [ab] = true := by
  rw [show (2 : Int) = ((2 : Nat) : Int) from rfl, show (3 : Int) = ((3 : Nat) : Int) from rfl, showsZ_in (by decide) (by decide), tw3, l3_root]
  simp [climb, joined, jt, node, all32, sum_length, ab]
theorem l3_not : node ab (leaf [100]) ≠ node ab (leaf [99]) := by decide +kernel
theorem l3_shows_not : showsZ (root l3) [100] 2 3 [ab] = false := by
  rw [show (2 : Int) = ((2 : Nat) : Int) from rfl, show (3 : Int) = ((3 : Nat) : Int) from rfl, showsZ_in (by decide) (by decide), tw3, l3_root]
  have : (climb (leaf [100]) [false].reverse [ab] == node ab (leaf [99])) = false := by
    rw [beq_eq_false_iff_ne]
    exact l3_not
  rw [this]; simp
end Mk
end Go.Proofs.YtoldfepeldbcpaaDoor
