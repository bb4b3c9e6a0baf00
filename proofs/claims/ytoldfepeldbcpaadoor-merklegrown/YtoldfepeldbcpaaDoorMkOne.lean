/- The law MerkleOne, walked. -/
import Derived.Test.YtoldfepeldbcpaaDoorMkT
import Derived.Test.YtoldfepeldbcpaaDoorMkZ
namespace Go.Proofs.YtoldfepeldbcpaaDoor
open Go.RowKit
attribute [local go_sem ↓] Go.wp_at_zero Go.wp_at_succ
/-- three trees -/
structure T3 (w : World) (b1 b2 b3 : Nat) (l1 l2 l3 : List (List UInt8)) (W : World) : Prop where
  below : Below w.heap.size w W
  t1 : Tr W b1 l1
  t2 : Tr W b2 l2
  t3 : Tr W b3 l3
  a1 : w.heap.size ≤ b1
  a2 : w.heap.size ≤ b2
  a3 : w.heap.size ≤ b3
  n12 : b1 ≠ b2
  n13 : b1 ≠ b3
  n23 : b2 ≠ b3
theorem T3.call {w W W' : World} {b1 b2 b3 : Nat} {l1 l2 l3 : List (List UInt8)} (h : T3 w b1 b2 b3 l1 l2 l3 W) (hb : Below W.heap.size W W') : T3 w b1 b2 b3 l1 l2 l3 W' :=
  ⟨h.below.trans (hb.mono h.below.size), h.t1.call hb, h.t2.call hb, h.t3.call hb, h.a1, h.a2, h.a3, h.n12, h.n13, h.n23⟩
theorem T3.g1 {w W W' : World} {b1 b2 b3 : Nat} {l1 l2 l3 : List (List UInt8)} (h : T3 w b1 b2 b3 l1 l2 l3 W) (hT : Tr W' b1 l1) (hg : Gr b1 W W') : T3 w b1 b2 b3 l1 l2 l3 W' :=
  ⟨h.below.trans (hg.below h.a1 h.below.size), hT, h.t2.gr h.t1 h.n12.symm hg, h.t3.gr h.t1 h.n13.symm hg, h.a1, h.a2, h.a3, h.n12, h.n13, h.n23⟩
theorem T3.g2 {w W W' : World} {b1 b2 b3 : Nat} {l1 l2 l3 : List (List UInt8)} (h : T3 w b1 b2 b3 l1 l2 l3 W) (hT : Tr W' b2 l2) (hg : Gr b2 W W') : T3 w b1 b2 b3 l1 l2 l3 W' :=
  ⟨h.below.trans (hg.below h.a2 h.below.size), h.t1.gr h.t2 h.n12 hg, hT, h.t3.gr h.t2 h.n23.symm hg, h.a1, h.a2, h.a3, h.n12, h.n13, h.n23⟩
theorem T3.g3 {w W W' : World} {b1 b2 b3 : Nat} {l1 l2 l3 : List (List UInt8)} (h : T3 w b1 b2 b3 l1 l2 l3 W) (hT : Tr W' b3 l3) (hg : Gr b3 W W') : T3 w b1 b2 b3 l1 l2 l3 W' :=
  ⟨h.below.trans (hg.below h.a3 h.below.size), h.t1.gr h.t3 h.n13 hg, h.t2.gr h.t3 h.n23 hg, hT, h.a1, h.a2, h.a3, h.n12, h.n13, h.n23⟩
theorem own_empty (w : World) : (w.alloc (.cells #[] 9)).ownsRow w.heap.size 9 1 (.slice (some ⟨w.heap.size, 0, none⟩) 0 0) 0 (scs []) :=
  ⟨rfl, .inr ⟨w.heap.size, 0, #[], rfl, Nat.le_refl _, heap_alloc_new w _, Nat.le_refl _, by decide, rfl, rfl⟩⟩
/-- a growth of all texts but the last, or none -/
theorem growth_any (b : Nat) (l : List (List UInt8)) (hn : l.length ≤ 1024) (hx : ∀ x ∈ l, x.length ≤ 140737488355328) (m : Nat) (hm2 : m ≤ l.length) (w : World) (hK : HasK w) (hT : Tr w b l) :
    Calls Tryd.prog 6 #[.pointer (some ⟨b, 0, none⟩), .int .i64 (m : Int)] w fun e w' => ∃ a k, e = .returned (.tuple #[.slice a k k, .int .i64 0]) ∧ w'.ownsRow w.heap.size 9 1 (.slice a k k) k (scs (if m = 0 then [] else Mk.growth l m)) ∧ Tr w' b l ∧ Gr b w w' := by
  rcases Nat.eq_zero_or_pos m with h0 | h0
  · subst h0
    refine (growth_zero b l.length w hT.cells.1).mono ?_
    rintro e w' ⟨rfl, rfl⟩
    exact ⟨none, 0, rfl, ⟨rfl, .inl ⟨rfl, rfl⟩⟩, hT, Gr.of (Below.refl _ _)⟩
  · refine (growth_in b l hn hx m h0 hm2 w hK hT).mono ?_
    rintro e w' ⟨g, k, rfl, ho, hT', hG⟩
    exact ⟨_, k, rfl, by rw [if_neg (by omega)]; exact ho, hT', hG⟩
/-- it shows that the tree grew -/
theorem grew_yes (l : List (List UInt8)) (hn : l.length ≤ 1024) (m : Nat) (hm : m ≤ l.length) (old root : ByteArray) (ho : old = bs (Mk.root (l.take m))) (hr : root = bs (Mk.root l)) (pa : Option Addr) (k : Nat) (base : Nat) (w : World) (hK : HasK w)
    (hO : w.ownsRow base 9 1 (.slice pa k k) k (scs (if m = 0 then [] else Mk.growth l m))) :
    Calls Tryd.prog 7 #[.string old, .string root, .int .i64 (m : Int), .int .i64 (l.length : Int), .slice pa k k] w fun e w' => e = .returned (.bool true) ∧ Below w.heap.size w w' := by
  have hlen := hO.1
  rw [scs_length] at hlen
  rcases Nat.eq_zero_or_pos m with h0 | h0
  · subst h0
    have hk : k = 0 := by simpa using hlen.symm
    subst hk
    refine (grew_zero old root l.length hn (by rw [ho, List.take_zero, Mk.root_none]) (fun h => by rw [hr, ho, List.eq_nil_of_length_eq_zero h]; rfl) pa 0 0 w hK).mono ?_
    rintro e w' ⟨rfl, hb⟩
    exact ⟨rfl, hb⟩
  · rw [if_neg (by omega)] at hO hlen
    by_cases hml : m = l.length
    · have hg : Mk.growth l m = [] := by
        unfold Mk.growth
        rw [Mk.tw_end (.inr (by simp [Mk.e2, hml]))]
        rfl
      have hk : k = 0 := by rw [hg] at hlen; simpa using hlen.symm
      subst hk
      have e1 : old = root := by rw [ho, hr, hml, List.take_length]
      subst e1
      rw [hml]
      refine (grew_all old l.length (by omega) hn pa 0 0 w).mono ?_
      rintro e w' ⟨rfl, rfl⟩
      exact ⟨rfl, Below.refl _ _⟩
    · have hg := Mk.grew_growth l m h0 (by omega)
      have hk : (Mk.growth l m).length = k := by omega
      have hk2 := Mk.growth_length l m
      have hk3 := Mk.tw_len Mk.e2 10 m l.length (by omega)
      have := grew_in old root (by rw [ho, bs_size, Mk.root_length]) m l.length h0 (by omega) hn pa k k (Nat.le_refl _) (Mk.growth l m) (by rw [hk2]; split <;> omega) w.heap.size w hK (Nat.le_refl _) (own_sl (by rw [hk]; exact hO))
      rw [ho, hr, data_bs, data_bs, hg] at this
      rw [ho, hr]
      exact this
end Go.Proofs.YtoldfepeldbcpaaDoor
