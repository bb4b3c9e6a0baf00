/- Rows that are turned round; turns in the order in which digests are put together. -/
import Derived.Shelf.SlicesE.Kit
import Derived.Test.YtoldfepeldbcpaaDoorMkC
import Derived.Lib.OwnBridge
namespace Go.Proofs.YtoldfepeldbcpaaDoor
open Go.RowKit
open Go.Sort (Holds putRow)
/-- a row that is owned is turned round -/
theorem rev_own {α : Type} [Inhabited α] (enc : α → Value) (F : Nat)
    (hrev : ∀ (blk off cap : Nat) (zs : List α) (w : World), Holds enc w blk off zs.toArray → zs.length ≤ 9223372036854775807 → Calls Tryd.prog F #[.slice (some ⟨blk, off, none⟩) zs.length cap] w fun e w' => e = .returned (.tuple #[]) ∧ ∃ n, w' = putRow enc (Sort.ahead w n) blk off zs.reverse.toArray)
    (hemp : ∀ (a : Option Addr) (cap : Nat) (w : World), Calls Tryd.prog F #[.slice a 0 cap] w fun e w' => e = .returned (.tuple #[]) ∧ w' = w)
    (base t : Nat) (v : Value) (zs : List α) (w : World) (hz : zs.length ≤ 9223372036854775807) (h : w.ownsRow base t 1 v zs.length (zs.map enc)) :
    Calls Tryd.prog F #[v] w fun e w' => e = .returned (.tuple #[]) ∧ w'.ownsRow base t 1 v zs.length (zs.reverse.map enc) ∧ Below base w w' := by
  have h0 := h
  rcases h.2 with ⟨rfl, h2⟩ | ⟨g, cap, cur, rfl, hg, hc, h3, h4, h5, h6⟩
  · have e : zs = [] := List.eq_nil_of_length_eq_zero h2
    subst e
    refine (hemp none 0 w).mono fun e w' ⟨a, b⟩ => ?_
    subst b
    exact ⟨a, h0, Below.refl _ _⟩
  · have hH : Holds enc w g 0 zs.toArray := by
      intro j hj
      have hj' : j < zs.length := by simpa using hj
      refine ⟨?_, ?_⟩
      · rw [Nat.zero_add, h.cellAt j (by omega), List.getElem?_map, List.getElem?_eq_getElem hj']
        simp [hj']
      · rw [Nat.zero_add]; exact h.frozenAt j
    refine (hrev g 0 cap zs w hH hz).mono fun e w' ⟨a, q, b⟩ => ?_
    subst b
    refine ⟨a, ?_, Lib.below_putRow (Below.refl _ _) hg⟩
    have := Lib.ownsRow_putRow (q := q) (k := zs.length) (ys := zs.reverse) h (by simp) (Nat.le_refl _)
    rwa [List.take_of_length_le (by simp)] at this
theorem oneB : Go.Proofs.OneCell Value.bool := fun _ => rfl
theorem revb_c (base : Nat) (v : Value) (l : List Bool) (w : World) (hz : l.length ≤ 9223372036854775807) (h : w.ownsRow base 4 1 v l.length (bcs l)) :
    Calls Tryd.prog 63 #[v] w fun e w' => e = .returned (.tuple #[]) ∧ w'.ownsRow base 4 1 v l.length (bcs l.reverse) ∧ Below base w w' :=
  rev_own Value.bool 63 (fun blk off cap zs w hH hs => Tryd.slices_Reverse_f63 Value.bool oneB blk off cap zs w hH hs) (fun a cap w => Tryd.slices_Reverse_empty_f63 (α := Bool) a cap w) base 4 v l w hz h
/-- cells of texts -/
def scs (l : List (List UInt8)) : List Value := l.map encS
theorem scs_length (l : List (List UInt8)) : (scs l).length = l.length := by simp [scs]
theorem oneS : Go.Proofs.OneCell encS := fun _ => rfl
theorem revs_c (base : Nat) (v : Value) (l : List (List UInt8)) (w : World) (hz : l.length ≤ 9223372036854775807) (h : w.ownsRow base 9 1 v l.length (scs l)) :
    Calls Tryd.prog 40 #[v] w fun e w' => e = .returned (.tuple #[]) ∧ w'.ownsRow base 9 1 v l.length (scs l.reverse) ∧ Below base w w' :=
  rev_own encS 40 (fun blk off cap zs w hH hs => Tryd.slices_Reverse_f40 encS oneS blk off cap zs w hH hs) (fun a cap w => Tryd.slices_Reverse_empty_f40 (α := List UInt8) a cap w) base 9 v l w hz h
theorem own_sl {w : World} {base : Nat} {v : Value} {l : List (List UInt8)} (h : w.ownsRow base 9 1 v l.length (scs l)) : Sl w w.heap.size v l := by
  rcases h.2 with ⟨rfl, h2⟩ | ⟨g, cap, cur, rfl, hg, hc, h3, h4, h5, h6⟩
  · exact .inl ⟨List.eq_nil_of_length_eq_zero h2, none, 0, rfl⟩
  · refine .inr ⟨g, 0, cap, rfl, (Array.getElem?_eq_some_iff.1 hc).1, fun k x hk => ?_⟩
    have hkl := (List.getElem?_eq_some_iff.1 hk).1
    rw [Nat.zero_add, h.cellAt k (by omega)]
    simp [scs, hk]
/-- a row that is owned stays as it is where nothing below has turned -/
theorem own_stays {w w' : World} {base t sz n : Nat} {v : Value} {xs : List Value} (h : w.ownsRow base t sz v n xs) (hb : Below w.heap.size w w') : w'.ownsRow base t sz v n xs := by
  refine ⟨h.1, ?_⟩
  rcases h.2 with h2 | ⟨g, cap, cur, h1, hg, hc, h3⟩
  · exact .inl h2
  · exact .inr ⟨g, cap, cur, h1, hg, (hb.block g (Array.getElem?_eq_some_iff.1 hc).1).trans hc, h3⟩
theorem cloneb_c (v : Value) (H : Nat) (l : List Bool) (w : World) (hz : l.length ≤ 1024) (h : Bl w H v l) :
    Calls Tryd.prog 62 #[v] w fun e w' => ∃ v', e = .returned v' ∧ w'.ownsRow w.heap.size 4 1 v' l.length (bcs l) ∧ Below w.heap.size w w' := by
  obtain ⟨i0, hi, hz0, hz1, hz2⟩ := info_parts info4
  have key : ∀ b off c, v = .slice (some ⟨b, off, none⟩) l.length c → (∀ k x, l[k]? = some x → w.cell? ⟨b, off + k, none⟩ = some (.bool x)) → Calls Tryd.prog 62 #[v] w fun e w' => ∃ v', e = .returned v' ∧ w'.ownsRow w.heap.size 4 1 v' l.length (bcs l) ∧ Below w.heap.size w w' := by
    rintro b off c rfl hc
    refine (Tryd.slices_Clone i0 (.bool false) 1 1 hi hz0 hz1 hz2 rfl (by decide) Tryd.sizeOf4 b off l.length c (bcs l) w (by rw [bcs_length]; omega) (by unfold maxLen; omega) (by omega) ?_ ?_).mono fun e w' ⟨v', a, ho, _, hbl⟩ => ⟨v', a, ho, hbl⟩
    · intro j u hu
      simp only [bcs, List.getElem?_map, Option.map_eq_some_iff] at hu
      obtain ⟨x, hx, rfl⟩ := hu
      exact hc j x hx
    · intro u hu
      simp only [bcs, List.mem_map] at hu
      obtain ⟨x, _, rfl⟩ := hu
      rfl
  obtain ⟨h, hg⟩ := h
  rcases h with ⟨rfl, a, c, rfl⟩ | ⟨b, off, c, hv, hb, hc⟩
  · cases a with
    | none =>
      refine (Tryd.slices_Clone_nil 0 c w).mono fun e w' ⟨a, b⟩ => ?_
      subst b
      exact ⟨_, a, ⟨rfl, .inl ⟨rfl, rfl⟩⟩, Below.refl _ _⟩
    | some ad =>
      obtain ⟨b, off, rfl⟩ := hg ad 0 c rfl
      exact key b off c rfl (fun k x hk => by simp at hk)
  · exact key b off c hv hc
set_option maxHeartbeats 1000000 in
theorem fromBelow_c (v : Value) (H : Nat) (l : List Bool) (w : World) (hz : l.length ≤ 1024) (h : Bl w H v l) :
    Calls Tryd.prog 46 #[v] w fun e w' => ∃ v', e = .returned v' ∧ w'.ownsRow w.heap.size 4 1 v' l.length (bcs l.reverse) ∧ Below w.heap.size w w' := by
  have C1 : Hid (Calls Tryd.prog 62 #[v] w fun e w' => ∃ v', e = .returned v' ∧ w'.ownsRow w.heap.size 4 1 v' l.length (bcs l) ∧ Below w.heap.size w w') := cloneb_c v H l w hz h
  have C2 : Hid (∀ v1 W, W.ownsRow w.heap.size 4 1 v1 l.length (bcs l) → Calls Tryd.prog 63 #[v1] W fun e w' => e = .returned (.tuple #[]) ∧ w'.ownsRow w.heap.size 4 1 v1 l.length (bcs l.reverse) ∧ Below w.heap.size W w') := fun v1 W hW => revb_c _ v1 l W (by omega) hW
  clear h hz
  go_enter Tryd.func46, Tryd.ntmps46
  go_wp2_with fail
  refine C1.out.mono ?_
  rintro e w1 ⟨v1, rfl, ho, hb⟩
  have HO : Hid (w1.ownsRow w.heap.size 4 1 v1 l.length (bcs l)) := ho
  have HB : Hid (Below w.heap.size w w1) := hb
  clear ho hb
  go_wp2_with fail
  refine (C2.out v1 w1 HO.out).mono ?_
  rintro e w2 ⟨rfl, ho, hb⟩
  have HO2 : Hid (w2.ownsRow w.heap.size 4 1 v1 l.length (bcs l.reverse)) := ho
  have HB2 : Hid (Below w.heap.size w w2) := HB.out.trans hb
  clear ho hb
  go_wp2
  go_ret
  exact ⟨v1, rfl, HO2.out, HB2.out⟩
end Go.Proofs.YtoldfepeldbcpaaDoor
