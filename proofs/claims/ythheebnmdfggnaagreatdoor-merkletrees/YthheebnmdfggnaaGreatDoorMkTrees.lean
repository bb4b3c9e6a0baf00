/- The law MerkleTrees, walked: any texts have the root, the paths and growths that the document says. -/
import Derived.Test.YthheebnmdfggnaaGreatDoorMkT
import Derived.Test.YthheebnmdfggnaaGreatDoorMkRc
namespace Go.Proofs.YthheebnmdfggnaaGreatDoor
open Go.RowKit
attribute [local go_sem ↓] Go.wp_at_zero Go.wp_at_succ
namespace Mk
def pz (l : List Bs) (i : Int) : List Bs := if 0 ≤ i ∧ i < l.length then path l i.toNat else []
def pe (l : List Bs) (i : Int) : Int := if 0 ≤ i ∧ i < l.length then 0 else 2
def gz (l : List Bs) (i : Int) : List Bs := if 1 ≤ i ∧ i < l.length then growth l i.toNat else []
def ge (l : List Bs) (i : Int) : Int := if 0 ≤ i ∧ i ≤ l.length then 0 else 2
theorem growth_full (l : List Bs) : growth l l.length = [] := by
  unfold growth
  rw [tw_end (.inr (by simp [e2]))]
  rfl
theorem pz_len (l : List Bs) (i : Int) (h : l.length ≤ 1024) : (pz l i).length ≤ 11 := by
  unfold pz
  split
  · have := path_len l i.toNat h; omega
  · simp
theorem gz_len (l : List Bs) (i : Int) (h : l.length ≤ 1024) : (gz l i).length ≤ 11 := by
  unfold gz
  split
  · rw [growth_gb]
    have h1 := gb_len l (tw e2 i.toNat l.length) true
    have h2 := tw_len e2 10 i.toNat l.length (by omega)
    omega
  · simp
end Mk
/-- a row of texts in its form -/
theorem own_form {w : World} {base : Nat} {v : Value} {P : List (List UInt8)} (h : w.ownsRow base 9 1 v P.length (scs P)) : ∃ a c, v = .slice a P.length c := by
  rcases h.2 with ⟨e, e0⟩ | ⟨g, cap, cur, e, _⟩
  · exact ⟨_, _, by rw [e0]; exact e⟩
  · exact ⟨_, _, e⟩
theorem pathZ (b : Nat) (l : List (List UInt8)) (hn : l.length ≤ 1024) (hx : ∀ x ∈ l, x.length ≤ 140737488355328) (i : Int) (w : World) (hK : HasK w) (hT : Tr w b l) (k : Nat) (hk : k = (Mk.pz l i).length) :
    Calls Tryz.prog 8 #[.pointer (some ⟨b, 0, none⟩), .int .i64 i] w fun e w' => ∃ a c, e = .returned (.tuple #[.slice a k c, .int .i64 (Mk.pe l i)]) ∧ w'.ownsRow w.heap.size 9 1 (.slice a k c) k (scs (Mk.pz l i)) ∧ Tr w' b l ∧ Gr b w w' := by
  subst hk
  by_cases h : 0 ≤ i ∧ i < l.length
  · obtain ⟨j, rfl⟩ := Int.eq_ofNat_of_zero_le h.1
    have e1 : Mk.pz l (j : Int) = Mk.path l j := by unfold Mk.pz; rw [if_pos h]; rfl
    have e2 : Mk.pe l (j : Int) = 0 := by unfold Mk.pe; rw [if_pos h]
    rw [e1, e2]
    refine (path_in b l hn hx j (by omega) w hK hT).mono ?_
    rintro e w' ⟨g, m, rfl, ho, hT', hG⟩
    have : m = (Mk.path l j).length := by have := ho.1; rw [scs_length] at this; omega
    subst this
    exact ⟨_, _, rfl, ho, hT', hG⟩
  · have e1 : Mk.pz l i = [] := by unfold Mk.pz; rw [if_neg h]
    have e2 : Mk.pe l i = 2 := by unfold Mk.pe; rw [if_neg h]
    rw [e1, e2]
    refine (path_out b l.length i w hT.cells.1 (by omega)).mono ?_
    rintro e w' ⟨rfl, rfl⟩
    exact ⟨_, _, rfl, ⟨rfl, .inl ⟨rfl, rfl⟩⟩, hT, Gr.of (Below.refl _ _)⟩
theorem growthZ (b : Nat) (l : List (List UInt8)) (hn : l.length ≤ 1024) (hx : ∀ x ∈ l, x.length ≤ 140737488355328) (i : Int) (w : World) (hK : HasK w) (hT : Tr w b l) (k : Nat) (hk : k = (Mk.gz l i).length) :
    Calls Tryz.prog 10 #[.pointer (some ⟨b, 0, none⟩), .int .i64 i] w fun e w' => ∃ a c, e = .returned (.tuple #[.slice a k c, .int .i64 (Mk.ge l i)]) ∧ w'.ownsRow w.heap.size 9 1 (.slice a k c) k (scs (Mk.gz l i)) ∧ Tr w' b l ∧ Gr b w w' := by
  subst hk
  by_cases h : 0 ≤ i ∧ i ≤ l.length
  · obtain ⟨j, rfl⟩ := Int.eq_ofNat_of_zero_le h.1
    have e2 : Mk.ge l (j : Int) = 0 := by unfold Mk.ge; rw [if_pos h]
    rw [e2]
    rcases Nat.eq_zero_or_pos j with h0 | h0
    · subst h0
      have e1 : Mk.gz l ((0 : Nat) : Int) = [] := by unfold Mk.gz; rw [if_neg (by simp)]
      rw [e1]
      refine (growth_zero b l.length w hT.cells.1).mono ?_
      rintro e w' ⟨rfl, rfl⟩
      exact ⟨_, _, rfl, ⟨rfl, .inl ⟨rfl, rfl⟩⟩, hT, Gr.of (Below.refl _ _)⟩
    · have e1 : Mk.gz l (j : Int) = Mk.growth l j := by
        unfold Mk.gz
        by_cases hj : j < l.length
        · rw [if_pos (by omega)]; rfl
        · rw [if_neg (by omega), show j = l.length by omega, Mk.growth_full]
      rw [e1]
      refine (growth_in b l hn hx j h0 (by omega) w hK hT).mono ?_
      rintro e w' ⟨g, m, rfl, ho, hT', hG⟩
      have : m = (Mk.growth l j).length := by have := ho.1; rw [scs_length] at this; omega
      subst this
      exact ⟨_, _, rfl, ho, hT', hG⟩
  · have e1 : Mk.gz l i = [] := by unfold Mk.gz; rw [if_neg (by omega)]
    have e2 : Mk.ge l i = 2 := by unfold Mk.ge; rw [if_neg h]
    rw [e1, e2]
    refine (growth_out b l.length i w hT.cells.1 (by omega)).mono ?_
    rintro e w' ⟨rfl, rfl⟩
    exact ⟨_, _, rfl, ⟨rfl, .inl ⟨rfl, rfl⟩⟩, hT, Gr.of (Below.refl _ _)⟩
theorem rPathZ (l : List (List UInt8)) (hn : l.length ≤ 1024) (hx : ∀ x ∈ l, x.length ≤ 140737488355328) (i : Int) (a : Option Addr) (n c H : Nat) (w : World) (hH : H ≤ w.heap.size) (hnc : n ≤ c) (hS : Sl w H (.slice a n c) l) (k : Nat) (hk : k = (Mk.pz l i).length) :
    Calls Tryz.prog 9 #[.slice a n c, .int .i64 i] w fun e w' => ∃ a c, e = .returned (.tuple #[.slice a k c, .int .i64 (Mk.pe l i)]) ∧ w'.ownsRow w.heap.size 9 1 (.slice a k c) k (scs (Mk.pz l i)) ∧ Below w.heap.size w w' := by
  subst hk
  have hnl := hS.len
  by_cases h : 0 ≤ i ∧ i < l.length
  · obtain ⟨j, rfl⟩ := Int.eq_ofNat_of_zero_le h.1
    have e1 : Mk.pz l (j : Int) = Mk.path l j := by unfold Mk.pz; rw [if_pos h]; rfl
    have e2 : Mk.pe l (j : Int) = 0 := by unfold Mk.pe; rw [if_pos h]
    rw [e1, e2]
    refine (rPath_in l hn hx j (by omega) a n c H w hH hnc hS).mono ?_
    rintro e w' ⟨v, rfl, ho, hb⟩
    obtain ⟨a1, c1, rfl⟩ := own_form ho
    exact ⟨_, _, rfl, ho, hb⟩
  · have e1 : Mk.pz l i = [] := by unfold Mk.pz; rw [if_neg h]
    have e2 : Mk.pe l i = 2 := by unfold Mk.pe; rw [if_neg h]
    rw [e1, e2]
    refine (rPath_out a n c i (by omega) w).mono ?_
    rintro e w' ⟨rfl, rfl⟩
    exact ⟨_, _, rfl, ⟨rfl, .inl ⟨rfl, rfl⟩⟩, Below.refl _ _⟩
theorem rGrowthZ (l : List (List UInt8)) (hn : l.length ≤ 1024) (hx : ∀ x ∈ l, x.length ≤ 140737488355328) (i : Int) (a : Option Addr) (n c H : Nat) (w : World) (hH : H ≤ w.heap.size) (hnc : n ≤ c) (hS : Sl w H (.slice a n c) l) (k : Nat) (hk : k = (Mk.gz l i).length) :
    Calls Tryz.prog 11 #[.slice a n c, .int .i64 i] w fun e w' => ∃ a c, e = .returned (.tuple #[.slice a k c, .int .i64 (Mk.ge l i)]) ∧ w'.ownsRow w.heap.size 9 1 (.slice a k c) k (scs (Mk.gz l i)) ∧ Below w.heap.size w w' := by
  subst hk
  have hnl := hS.len
  by_cases h : 0 ≤ i ∧ i ≤ l.length
  · obtain ⟨j, rfl⟩ := Int.eq_ofNat_of_zero_le h.1
    have e2 : Mk.ge l (j : Int) = 0 := by unfold Mk.ge; rw [if_pos h]
    rw [e2]
    rcases Nat.eq_zero_or_pos j with h0 | h0
    · subst h0
      have e1 : Mk.gz l ((0 : Nat) : Int) = [] := by unfold Mk.gz; rw [if_neg (by simp)]
      rw [e1]
      refine (rGrowth_zero a n c w).mono ?_
      rintro e w' ⟨rfl, rfl⟩
      exact ⟨_, _, rfl, ⟨rfl, .inl ⟨rfl, rfl⟩⟩, Below.refl _ _⟩
    · by_cases hj : j < l.length
      · have e1 : Mk.gz l (j : Int) = Mk.growth l j := by unfold Mk.gz; rw [if_pos (by omega)]; rfl
        rw [e1]
        refine (rGrowth_in l hn hx j h0 hj a n c H w hH hnc hS).mono ?_
        rintro e w' ⟨v, rfl, ho, hb⟩
        obtain ⟨a1, c1, rfl⟩ := own_form ho
        exact ⟨_, _, rfl, ho, hb⟩
      · have e1 : Mk.gz l (j : Int) = [] := by unfold Mk.gz; rw [if_neg (by omega)]
        rw [e1, show (j : Int) = (n : Int) by omega]
        refine (rGrowth_full a n c w).mono ?_
        rintro e w' ⟨rfl, rfl⟩
        exact ⟨_, _, rfl, ⟨rfl, .inl ⟨rfl, rfl⟩⟩, Below.refl _ _⟩
  · have e1 : Mk.gz l i = [] := by unfold Mk.gz; rw [if_neg (by omega)]
    have e2 : Mk.ge l i = 2 := by unfold Mk.ge; rw [if_neg h]
    rw [e1, e2]
    refine (rGrowth_out a n c i (by omega) w).mono ?_
    rintro e w' ⟨rfl, rfl⟩
    exact ⟨_, _, rfl, ⟨rfl, .inl ⟨rfl, rfl⟩⟩, Below.refl _ _⟩
/-- the tree and what was answered -/
structure TS (w : World) (b : Nat) (l : List (List UInt8)) (W : World) : Prop where
  below : Below w.heap.size w W
  tree : Tr W b l
  base : w.heap.size ≤ b
theorem TS.call {w W W' : World} {b : Nat} {l : List (List UInt8)} (h : TS w b l W) (hb : Below W.heap.size W W') : TS w b l W' := ⟨h.below.trans (hb.mono h.below.size), h.tree.call hb, h.base⟩
theorem TS.gr {w W W' : World} {b : Nat} {l : List (List UInt8)} (h : TS w b l W) (hT : Tr W' b l) (hg : Gr b W W') : TS w b l W' := ⟨h.below.trans (hg.below h.base h.below.size), hT, h.base⟩
set_option maxHeartbeats 16000000 in
set_option maxRecDepth 10000 in
theorem trees_c (a : Option Addr) (c n : Nat) (hnc : n ≤ c) (l : List (List UInt8)) (hx : ∀ x ∈ l, x.length ≤ 140737488355328) (i : Int) (w : World) (hK : HasK w) (hS : Sl w w.heap.size (.slice a n c) l) :
    Calls Tryz.prog 3 #[.slice a n c, .int .i64 i] w fun e w' => e = .returned (.bool true) ∧ Below w.heap.size w w' := by
  have HK : Hid (∀ W, Below w.heap.size w W → HasK W) := fun W hW => hK.below hK.1 hW
  have h0 : 0 < w.heap.size := hK.1
  have HS : Hid (Sl w w.heap.size (.slice a n c) l) := hS
  have HN : Hid (n = l.length) := hS.len
  have CL : Hid (Calls Tryz.prog 4 #[] w fun e w' => e = .returned (.bool true) ∧ Below w.heap.size w w') := lives_c w hK
  by_cases hbig : 1024 < n
  · have CN : Hid (∀ W, Calls Tryz.prog 5 #[.slice a n c] W _) := fun W => new_no a c n hbig W
    have q : (1024 : Int) < (n : Int) := by omega
    clear hS hK hx
    go_enter Tryz.func3, Tryz.ntmps3
    go_wp2_with fail
    refine CL.out.mono ?_
    rintro e w1 ⟨rfl, hb⟩
    clear CL
    go_wp2_with fail
    refine (CN.out _).mono ?_
    rintro e w2 ⟨rfl, rfl⟩
    clear CN
    go_wp2_with fail
    refine (size_nil w1).mono ?_
    rintro e w3 ⟨rfl, rfl⟩
    go_wp2_with fail
    refine (root_nil w1).mono ?_
    rintro e w4 ⟨rfl, rfl⟩
    go_wp2
    go_ret
    exact ⟨rfl, hb⟩
  have hn : n ≤ 1024 := by omega
  have hl : l.length ≤ 1024 := by rw [← HN.out]; exact hn
  have q : (n : Int) ≤ 1024 := by omega
  obtain ⟨r, hr⟩ : ∃ r : ByteArray, r = bs (Mk.root l) := ⟨_, rfl⟩
  obtain ⟨P, hP⟩ : ∃ P, P = Mk.pz l i := ⟨_, rfl⟩
  obtain ⟨G, hG⟩ : ∃ G, G = Mk.gz l i := ⟨_, rfl⟩
  obtain ⟨k, hk⟩ : ∃ k, k = P.length := ⟨_, rfl⟩
  obtain ⟨m, hm⟩ : ∃ m, m = G.length := ⟨_, rfl⟩
  obtain ⟨E, hE⟩ : ∃ E, E = Mk.pe l i := ⟨_, rfl⟩
  obtain ⟨F, hF⟩ : ∃ F, F = Mk.ge l i := ⟨_, rfl⟩
  have hk11 : k ≤ 11 := by rw [hk, hP]; exact Mk.pz_len l i hl
  have hm11 : m ≤ 11 := by rw [hm, hG]; exact Mk.gz_len l i hl
  have CN : Hid (∀ W, Below w.heap.size w W → Calls Tryz.prog 5 #[.slice a n c] W fun e w' => ∃ b : Nat, e = .returned (.tuple #[.pointer (some ⟨b, 0, none⟩), .int .i64 0]) ∧ TS w b l w') := fun W hW => by
    refine (new_yes a c n hn w.heap.size l hx W hW.size (HS.out.stays hW (Nat.le_refl _))).mono ?_
    rintro e w' ⟨b, rfl, hb, hT, hB⟩
    have hsz := hW.size
    exact ⟨b, rfl, hW.trans (hB.mono hsz), hT.tr (by omega), by omega⟩
  have CR : Hid (∀ W b, TS w b l W → Calls Tryz.prog 7 #[.pointer (some ⟨b, 0, none⟩)] W fun e w' => e = .returned (.string r) ∧ Tr w' b l ∧ Gr b W w') := fun W b h => by
    rw [hr]; exact root_c b l hl hx W (HK.out W h.below) h.tree
  have CZ : Hid (∀ W b, TS w b l W → Calls Tryz.prog 6 #[.pointer (some ⟨b, 0, none⟩)] W fun e w' => e = .returned (.int .i64 (n : Int)) ∧ W = w') := fun W b h => by
    rw [HN.out]; exact size_c b l.length W h.tree.cells.1
  have CRR : Hid (∀ W, Below w.heap.size w W → Calls Tryz.prog 12 #[.slice a n c] W fun e w' => e = .returned (.string r) ∧ Below W.heap.size W w') := fun W hW => by
    rw [hr]; exact rroot_all l.length hl l rfl hx W a n c w.heap.size hW.size hnc (HS.out.stays hW (Nat.le_refl _))
  have CP : Hid (∀ W b, TS w b l W → Calls Tryz.prog 8 #[.pointer (some ⟨b, 0, none⟩), .int .i64 i] W fun e w' => ∃ a c, e = .returned (.tuple #[.slice a k c, .int .i64 E]) ∧ w'.ownsRow W.heap.size 9 1 (.slice a k c) k (scs P) ∧ Tr w' b l ∧ Gr b W w') := fun W b h => by
    rw [hE, hP]; exact pathZ b l hl hx i W (HK.out W h.below) h.tree k (by rw [hk, hP])
  have CG : Hid (∀ W b, TS w b l W → Calls Tryz.prog 10 #[.pointer (some ⟨b, 0, none⟩), .int .i64 i] W fun e w' => ∃ a c, e = .returned (.tuple #[.slice a m c, .int .i64 F]) ∧ w'.ownsRow W.heap.size 9 1 (.slice a m c) m (scs G) ∧ Tr w' b l ∧ Gr b W w') := fun W b h => by
    rw [hF, hG]; exact growthZ b l hl hx i W (HK.out W h.below) h.tree m (by rw [hm, hG])
  have CRP : Hid (∀ W, Below w.heap.size w W → Calls Tryz.prog 9 #[.slice a n c, .int .i64 i] W fun e w' => ∃ a c, e = .returned (.tuple #[.slice a k c, .int .i64 E]) ∧ w'.ownsRow W.heap.size 9 1 (.slice a k c) k (scs P) ∧ Below W.heap.size W w') := fun W hW => by
    rw [hE, hP]; exact rPathZ l hl hx i a n c w.heap.size W hW.size hnc (HS.out.stays hW (Nat.le_refl _)) k (by rw [hk, hP])
  have CRG : Hid (∀ W, Below w.heap.size w W → Calls Tryz.prog 11 #[.slice a n c, .int .i64 i] W fun e w' => ∃ a c, e = .returned (.tuple #[.slice a m c, .int .i64 F]) ∧ w'.ownsRow W.heap.size 9 1 (.slice a m c) m (scs G) ∧ Below W.heap.size W w') := fun W hW => by
    rw [hF, hG]; exact rGrowthZ l hl hx i a n c w.heap.size W hW.size hnc (HS.out.stays hW (Nat.le_refl _)) m (by rw [hm, hG])
  have CS : Hid (∀ W base base' va vc ua uc (Q : List (List UInt8)) j, j = Q.length → j ≤ 11 → W.ownsRow base 9 1 (.slice va j vc) j (scs Q) → W.ownsRow base' 9 1 (.slice ua j uc) j (scs Q) → Calls Tryz.prog 13 #[.slice va j vc, .slice ua j uc] W fun e w' => e = .returned (.bool true) ∧ Below W.heap.size W w') := fun W base base' va vc ua uc Q j hj hj11 h1 h2 => by
    have := same_c va j vc ua j uc Q Q (by omega) (by omega) W.heap.size W (Nat.le_refl _) (own_sl (by rw [← hj]; exact h1)) (own_sl (by rw [← hj]; exact h2))
    simpa using this
  have HKM : Hid (k = P.length ∧ m = G.length) := ⟨hk, hm⟩
  have qr : (r.toList == r.toList) = true := beq_self_eq_true _
  have qE : (E == E) = true := beq_self_eq_true _
  have qF : (F == F) = true := beq_self_eq_true _
  have qn : ((n : Int) == (n : Int)) = true := beq_self_eq_true _
  clear hS hK hx hbig hr hP hG hk hm hE hF HK HS HN hl
  go_enter Tryz.func3, Tryz.ntmps3
  go_wp2_with fail
  refine CL.out.mono ?_
  rintro e w1 ⟨rfl, hb1⟩
  clear CL
  go_wp2_with fail
  refine (CN.out _ hb1).mono ?_
  rintro e w2 ⟨b, rfl, hT2⟩
  have T2 : Hid (TS w b l w2) := hT2
  clear CN hT2 hb1
  go_wp2_with fail
  refine (CP.out _ _ T2.out).mono ?_
  rintro e w3 ⟨a3, c3, rfl, ho3, hT3, hG3⟩
  have T3 : Hid (TS w b l w3) := T2.out.gr hT3 hG3
  have O3 : Hid (w3.ownsRow w2.heap.size 9 1 (.slice a3 k c3) k (scs P)) := ho3
  clear ho3 hT3 hG3 T2 CP
  go_wp2_with fail
  refine (CRP.out _ T3.out.below).mono ?_
  rintro e w4 ⟨a4, c4, rfl, ho4, hb4⟩
  have T4 : Hid (TS w b l w4) := T3.out.call hb4
  have O4 : Hid (w4.ownsRow w2.heap.size 9 1 (.slice a3 k c3) k (scs P) ∧ w4.ownsRow w3.heap.size 9 1 (.slice a4 k c4) k (scs P)) := ⟨own_stays O3.out hb4, ho4⟩
  clear ho4 hb4 T3 O3 CRP
  go_wp2_with fail
  refine (CG.out _ _ T4.out).mono ?_
  rintro e w5 ⟨a5, c5, rfl, ho5, hT5, hG5⟩
  have T5 : Hid (TS w b l w5) := T4.out.gr hT5 hG5
  have O5 : Hid (w5.ownsRow w2.heap.size 9 1 (.slice a3 k c3) k (scs P) ∧ w5.ownsRow w3.heap.size 9 1 (.slice a4 k c4) k (scs P)) := ⟨own_gr T4.out.tree hG5 O4.out.1, own_gr T4.out.tree hG5 O4.out.2⟩
  have P5 : Hid (w5.ownsRow w4.heap.size 9 1 (.slice a5 m c5) m (scs G)) := ho5
  clear ho5 hT5 hG5 T4 O4 CG
  go_wp2_with fail
  refine (CRG.out _ T5.out.below).mono ?_
  rintro e w6 ⟨a6, c6, rfl, ho6, hb6⟩
  have T6 : Hid (TS w b l w6) := T5.out.call hb6
  have O6 : Hid (w6.ownsRow w2.heap.size 9 1 (.slice a3 k c3) k (scs P) ∧ w6.ownsRow w3.heap.size 9 1 (.slice a4 k c4) k (scs P)) := ⟨own_stays O5.out.1 hb6, own_stays O5.out.2 hb6⟩
  have P6 : Hid (w6.ownsRow w4.heap.size 9 1 (.slice a5 m c5) m (scs G) ∧ w6.ownsRow w5.heap.size 9 1 (.slice a6 m c6) m (scs G)) := ⟨own_stays P5.out hb6, ho6⟩
  clear ho6 hb6 T5 O5 P5 CRG
  go_wp2_with fail
  refine (CZ.out _ _ T6.out).mono ?_
  rintro e w7 ⟨rfl, rfl⟩
  clear CZ
  go_wp2_with fail
  refine (CR.out _ _ T6.out).mono ?_
  rintro e w8 ⟨rfl, hT8, hG8⟩
  have T8 : Hid (TS w b l w8) := T6.out.gr hT8 hG8
  have O8 : Hid (w8.ownsRow w2.heap.size 9 1 (.slice a3 k c3) k (scs P) ∧ w8.ownsRow w3.heap.size 9 1 (.slice a4 k c4) k (scs P)) := ⟨own_gr T6.out.tree hG8 O6.out.1, own_gr T6.out.tree hG8 O6.out.2⟩
  have P8 : Hid (w8.ownsRow w4.heap.size 9 1 (.slice a5 m c5) m (scs G) ∧ w8.ownsRow w5.heap.size 9 1 (.slice a6 m c6) m (scs G)) := ⟨own_gr T6.out.tree hG8 P6.out.1, own_gr T6.out.tree hG8 P6.out.2⟩
  clear hT8 hG8 T6 O6 P6 CR
  go_wp2_with fail
  refine (CRR.out _ T8.out.below).mono ?_
  rintro e w9 ⟨rfl, hb9⟩
  have T9 : Hid (TS w b l w9) := T8.out.call hb9
  have O9 : Hid (w9.ownsRow w2.heap.size 9 1 (.slice a3 k c3) k (scs P) ∧ w9.ownsRow w3.heap.size 9 1 (.slice a4 k c4) k (scs P)) := ⟨own_stays O8.out.1 hb9, own_stays O8.out.2 hb9⟩
  have P9 : Hid (w9.ownsRow w4.heap.size 9 1 (.slice a5 m c5) m (scs G) ∧ w9.ownsRow w5.heap.size 9 1 (.slice a6 m c6) m (scs G)) := ⟨own_stays P8.out.1 hb9, own_stays P8.out.2 hb9⟩
  clear hb9 T8 O8 P8 CRR
  go_wp2_with fail
  refine (CS.out _ _ _ _ _ _ _ P k HKM.out.1 hk11 O9.out.1 O9.out.2).mono ?_
  rintro e w10 ⟨rfl, hb10⟩
  have T10 : Hid (TS w b l w10) := T9.out.call hb10
  have P10 : Hid (w10.ownsRow w4.heap.size 9 1 (.slice a5 m c5) m (scs G) ∧ w10.ownsRow w5.heap.size 9 1 (.slice a6 m c6) m (scs G)) := ⟨own_stays P9.out.1 hb10, own_stays P9.out.2 hb10⟩
  clear hb10 T9 O9 P9
  go_wp2_with fail
  refine (CS.out _ _ _ _ _ _ _ G m HKM.out.2 hm11 P10.out.1 P10.out.2).mono ?_
  rintro e w11 ⟨rfl, hb11⟩
  have B11 : Hid (Below w.heap.size w w11) := (T10.out.call hb11).below
  clear hb11 T10 P10 CS
  go_wp2
  go_ret
  exact ⟨rfl, B11.out⟩
end Go.Proofs.YthheebnmdfggnaaGreatDoor
