/- The law MerkleOne, walked. -/
import Derived.Test.YthheebnmdfggnaaDoorMkT
import Derived.Test.YthheebnmdfggnaaDoorMkZ
namespace Go.Proofs.YthheebnmdfggnaaDoor
open Go.RowKit
attribute [local go_sem ↓] Go.wp_at_zero Go.wp_at_succ
/-- three trees -/
structure T3 (w : World) (b1 b2 b3 : Nat) (l1 l2 l3 : List (List UInt8)) (W : World) : Prop where
  below : Below w.heap.size w W
  t1 : Tr W b1 l1
  t2 : Tr W b2 l2
  t3 : Tr W b3 l3
  a1 : w.heap.size ≤ b1
  a2 : w.heap.size ≤ b2
  a3 : w.heap.size ≤ b3
  n12 : b1 ≠ b2
  n13 : b1 ≠ b3
  n23 : b2 ≠ b3
theorem T3.call {w W W' : World} {b1 b2 b3 : Nat} {l1 l2 l3 : List (List UInt8)} (h : T3 w b1 b2 b3 l1 l2 l3 W) (hb : Below W.heap.size W W') : T3 w b1 b2 b3 l1 l2 l3 W' :=
  ⟨h.below.trans (hb.mono h.below.size), h.t1.call hb, h.t2.call hb, h.t3.call hb, h.a1, h.a2, h.a3, h.n12, h.n13, h.n23⟩
theorem T3.g1 {w W W' : World} {b1 b2 b3 : Nat} {l1 l2 l3 : List (List UInt8)} (h : T3 w b1 b2 b3 l1 l2 l3 W) (hT : Tr W' b1 l1) (hg : Gr b1 W W') : T3 w b1 b2 b3 l1 l2 l3 W' :=
  ⟨h.below.trans (hg.below h.a1 h.below.size), hT, h.t2.gr h.t1 h.n12.symm hg, h.t3.gr h.t1 h.n13.symm hg, h.a1, h.a2, h.a3, h.n12, h.n13, h.n23⟩
theorem T3.g2 {w W W' : World} {b1 b2 b3 : Nat} {l1 l2 l3 : List (List UInt8)} (h : T3 w b1 b2 b3 l1 l2 l3 W) (hT : Tr W' b2 l2) (hg : Gr b2 W W') : T3 w b1 b2 b3 l1 l2 l3 W' :=
  ⟨h.below.trans (hg.below h.a2 h.below.size), h.t1.gr h.t2 h.n12 hg, hT, h.t3.gr h.t2 h.n23.symm hg, h.a1, h.a2, h.a3, h.n12, h.n13, h.n23⟩
theorem T3.g3 {w W W' : World} {b1 b2 b3 : Nat} {l1 l2 l3 : List (List UInt8)} (h : T3 w b1 b2 b3 l1 l2 l3 W) (hT : Tr W' b3 l3) (hg : Gr b3 W W') : T3 w b1 b2 b3 l1 l2 l3 W' :=
  ⟨h.below.trans (hg.below h.a3 h.below.size), h.t1.gr h.t3 h.n13 hg, h.t2.gr h.t3 h.n23 hg, hT, h.a1, h.a2, h.a3, h.n12, h.n13, h.n23⟩
theorem own_empty (w : World) : (w.alloc (.cells #[] 9)).ownsRow w.heap.size 9 1 (.slice (some ⟨w.heap.size, 0, none⟩) 0 0) 0 (scs []) :=
  ⟨rfl, .inr ⟨w.heap.size, 0, #[], rfl, Nat.le_refl _, heap_alloc_new w _, Nat.le_refl _, by decide, rfl, rfl⟩⟩
/-- a growth of all texts but the last, or none -/
theorem growth_any (b : Nat) (l : List (List UInt8)) (hn : l.length ≤ 1024) (hx : ∀ x ∈ l, x.length ≤ 140737488355328) (m : Nat) (hm2 : m ≤ l.length) (w : World) (hK : HasK w) (hT : Tr w b l) :
    Calls Tryd.prog 20 #[.pointer (some ⟨b, 0, none⟩), .int .i64 (m : Int)] w fun e w' => ∃ a k, e = .returned (.tuple #[.slice a k k, .int .i64 0]) ∧ w'.ownsRow w.heap.size 9 1 (.slice a k k) k (scs (if m = 0 then [] else Mk.growth l m)) ∧ Tr w' b l ∧ Gr b w w' := by
  rcases Nat.eq_zero_or_pos m with h0 | h0
  · subst h0
    refine (growth_zero b l.length w hT.cells.1).mono ?_
    rintro e w' ⟨rfl, rfl⟩
    exact ⟨none, 0, rfl, ⟨rfl, .inl ⟨rfl, rfl⟩⟩, hT, Gr.of (Below.refl _ _)⟩
  · refine (growth_in b l hn hx m h0 hm2 w hK hT).mono ?_
    rintro e w' ⟨g, k, rfl, ho, hT', hG⟩
    exact ⟨_, k, rfl, by rw [if_neg (by omega)]; exact ho, hT', hG⟩
/-- it shows that the tree grew -/
theorem grew_yes (l : List (List UInt8)) (hn : l.length ≤ 1024) (m : Nat) (hm : m ≤ l.length) (old root : ByteArray) (ho : old = bs (Mk.root (l.take m))) (hr : root = bs (Mk.root l)) (pa : Option Addr) (k : Nat) (base : Nat) (w : World) (hK : HasK w)
    (hO : w.ownsRow base 9 1 (.slice pa k k) k (scs (if m = 0 then [] else Mk.growth l m))) :
    Calls Tryd.prog 21 #[.string old, .string root, .int .i64 (m : Int), .int .i64 (l.length : Int), .slice pa k k] w fun e w' => e = .returned (.bool true) ∧ Below w.heap.size w w' := by
  have hlen := hO.1
  rw [scs_length] at hlen
  rcases Nat.eq_zero_or_pos m with h0 | h0
  · subst h0
    have hk : k = 0 := by simpa using hlen.symm
    subst hk
    refine (grew_zero old root l.length hn (by rw [ho, List.take_zero, Mk.root_none]) (fun h => by rw [hr, ho, List.eq_nil_of_length_eq_zero h]; rfl) pa 0 0 w hK).mono ?_
    rintro e w' ⟨rfl, hb⟩
    exact ⟨rfl, hb⟩
  · rw [if_neg (by omega)] at hO hlen
    by_cases hml : m = l.length
    · have hg : Mk.growth l m = [] := by
        unfold Mk.growth
        rw [Mk.tw_end (.inr (by simp [Mk.e2, hml]))]
        rfl
      have hk : k = 0 := by rw [hg] at hlen; simpa using hlen.symm
      subst hk
      have e1 : old = root := by rw [ho, hr, hml, List.take_length]
      subst e1
      rw [hml]
      refine (grew_all old l.length (by omega) hn pa 0 0 w).mono ?_
      rintro e w' ⟨rfl, rfl⟩
      exact ⟨rfl, Below.refl _ _⟩
    · have hg := Mk.grew_growth l m h0 (by omega)
      have hk : (Mk.growth l m).length = k := by omega
      have hk2 := Mk.growth_length l m
      have hk3 := Mk.tw_len Mk.e2 10 m l.length (by omega)
      have := grew_in old root (by rw [ho, bs_size, Mk.root_length]) m l.length h0 (by omega) hn pa k k (Nat.le_refl _) (Mk.growth l m) (by rw [hk2]; split <;> omega) w.heap.size w hK (Nat.le_refl _) (own_sl (by rw [hk]; exact hO))
      rw [ho, hr, data_bs, data_bs, hg] at this
      rw [ho, hr]
      exact this
set_option maxHeartbeats 16000000 in
set_option maxRecDepth 10000 in
theorem one_c (a : Option Addr) (c n : Nat) (l : List (List UInt8)) (hx : ∀ x ∈ l, x.length ≤ 140737488355328) (s : ByteArray) (hs : s.size ≤ 140737488355328) (w : World) (hK : HasK w) (hS : Sl w w.heap.size (.slice a n c) l) :
    Calls Tryd.prog 7 #[.slice a n c, .string s] w fun e w' => e = .returned (.bool true) ∧ Below w.heap.size w w' := by
  have HK : Hid (∀ W, Below w.heap.size w W → HasK W) := fun W hW => hK.below hK.1 hW
  have h0 : 0 < w.heap.size := hK.1
  have HS : Hid (Sl w w.heap.size (.slice a n c) l) := hS
  have HN : Hid (n = l.length) := hS.len
  have CL : Hid (Calls Tryd.prog 12 #[] w fun e w' => e = .returned (.bool true) ∧ Below w.heap.size w w') := lives_c w hK
  by_cases hbig : 1024 ≤ n
  · have q : (1024 : Int) ≤ (n : Int) := by omega
    clear hS hK hx hs
    go_enter Tryd.func7, Tryd.ntmps7
    go_wp2_with fail
    refine CL.out.mono ?_
    rintro e w1 ⟨rfl, hb⟩
    clear CL
    go_wp2
    go_ret
    exact ⟨rfl, hb⟩
  have hn : n < 1024 := by omega
  have q : ¬ (1024 : Int) ≤ (n : Int) := by omega
  have q' : (n : Int) < 1024 := by omega
  obtain ⟨x, hxs⟩ : ∃ x, x = s.data.toList := ⟨_, rfl⟩
  obtain ⟨L, hL⟩ : ∃ L, L = l ++ [x] := ⟨_, rfl⟩
  have hx1 : ∀ y ∈ [x], y.length ≤ 140737488355328 := by intro y hy; simp at hy; subst hy; rw [hxs, size_bytes]; exact hs
  have hxL : ∀ y ∈ L, y.length ≤ 140737488355328 := by
    intro y hy; rw [hL] at hy
    rcases List.mem_append.1 hy with h | h
    · exact hx y h
    · exact hx1 y h
  have hLl : L.length = n + 1 := by rw [hL, List.length_append, ← HN.out]; rfl
  have hLt : L.take n = l := by rw [hL, HN.out, List.take_left]
  have hLn : L[n]? = some x := by rw [hL, HN.out]; simp
  have CN1 : Hid (∀ W, Below w.heap.size w W → Calls Tryd.prog 14 #[.slice (some ⟨W.heap.size, 0, none⟩) 1 1] (W.alloc (.cells #[.string s] 9)) fun e w' => ∃ b : Nat, e = .returned (.tuple #[.pointer (some ⟨b, 0, none⟩), .int .i64 0]) ∧ w.heap.size ≤ b ∧ Tr w' b [x] ∧ Below w.heap.size w w') := fun W hW => by
    refine (new_yes (some ⟨W.heap.size, 0, none⟩) 1 1 (by decide) (W.heap.size + 1) [x] hx1 (W.alloc (.cells #[.string s] 9)) (by simp) (by rw [hxs]; exact one_sl W s)).mono ?_
    rintro e w' ⟨b, rfl, hb, hT, hB⟩
    have hsz := hW.size
    simp at hb
    exact ⟨b, rfl, by omega, hT.tr (by omega), (hW.alloc hsz _).trans (hB.mono (by simp; omega))⟩
  have CN2 : Hid (∀ W, Below w.heap.size w W → Calls Tryd.prog 14 #[.slice a n c] W fun e w' => ∃ b : Nat, e = .returned (.tuple #[.pointer (some ⟨b, 0, none⟩), .int .i64 0]) ∧ W.heap.size ≤ b ∧ Tr w' b l ∧ Below W.heap.size W w') := fun W hW => by
    refine (new_yes a c n (by omega) w.heap.size l hx W hW.size (HS.out.stays hW (Nat.le_refl _))).mono ?_
    rintro e w' ⟨b, rfl, hb, hT, hB⟩
    have hsz := hW.size
    exact ⟨b, rfl, hb, hT.tr (by omega), hB⟩
  have CN3 : Hid (∀ W va vc, 0 < W.heap.size → Sl W W.heap.size (.slice va (n + 1) vc) L → Calls Tryd.prog 14 #[.slice va (n + 1) vc] W fun e w' => ∃ b : Nat, e = .returned (.tuple #[.pointer (some ⟨b, 0, none⟩), .int .i64 0]) ∧ W.heap.size ≤ b ∧ Tr w' b L ∧ Below W.heap.size W w') := fun W va vc h0 hS => by
    refine (new_yes va vc (n + 1) (by omega) W.heap.size L hxL W (Nat.le_refl _) hS).mono ?_
    rintro e w' ⟨b, rfl, hb, hT, hB⟩
    exact ⟨b, rfl, hb, hT.tr (by omega), hB⟩
  obtain ⟨r1, hr1⟩ : ∃ r : ByteArray, r = bs (Mk.root [x]) := ⟨_, rfl⟩
  obtain ⟨r2, hr2⟩ : ∃ r : ByteArray, r = bs (Mk.root l) := ⟨_, rfl⟩
  obtain ⟨r3, hr3⟩ : ∃ r : ByteArray, r = bs (Mk.root L) := ⟨_, rfl⟩
  have CR1 : Hid (∀ W b, Below w.heap.size w W → Tr W b [x] → Calls Tryd.prog 17 #[.pointer (some ⟨b, 0, none⟩)] W fun e w' => e = .returned (.string r1) ∧ Tr w' b [x] ∧ Gr b W w') := fun W b hW hT => by
    rw [hr1]; exact root_c b [x] (by simp) hx1 W (HK.out W hW) hT
  have CR2 : Hid (∀ W b, Below w.heap.size w W → Tr W b l → Calls Tryd.prog 17 #[.pointer (some ⟨b, 0, none⟩)] W fun e w' => e = .returned (.string r2) ∧ Tr w' b l ∧ Gr b W w') := fun W b hW hT => by
    rw [hr2]; exact root_c b l (by rw [← HN.out]; omega) hx W (HK.out W hW) hT
  have CR3 : Hid (∀ W b, Below w.heap.size w W → Tr W b L → Calls Tryd.prog 17 #[.pointer (some ⟨b, 0, none⟩)] W fun e w' => e = .returned (.string r3) ∧ Tr w' b L ∧ Gr b W w') := fun W b hW hT => by
    rw [hr3]; exact root_c b L (by omega) hxL W (HK.out W hW) hT
  have CS1 : Hid (∀ W, Below w.heap.size w W → Calls Tryd.prog 16 #[.string r1, .string s, .int .i64 0, .int .i64 1, .slice none 0 0] W fun e w' => e = .returned (.bool true) ∧ Below W.heap.size W w') := fun W hW => by
    have := shows_c r1 s hs 0 1 none 0 0 [] (by simp) 0 W (HK.out W hW) (Nat.zero_le _) (.inl ⟨rfl, none, 0, rfl⟩)
    rw [hr1, data_bs, ← hxs, Mk.shows_one] at this
    rw [hr1]; exact this
  have CG : Hid (∀ W b, Below w.heap.size w W → Tr W b L → Calls Tryd.prog 20 #[.pointer (some ⟨b, 0, none⟩), .int .i64 (n : Int)] W fun e w' => ∃ a k, e = .returned (.tuple #[.slice a k k, .int .i64 0]) ∧ w'.ownsRow W.heap.size 9 1 (.slice a k k) k (scs (if n = 0 then [] else Mk.growth L n)) ∧ Tr w' b L ∧ Gr b W w') := fun W b hW hT => growth_any b L (by omega) hxL n (by omega) W (HK.out W hW) hT
  have CP : Hid (∀ W b, Below w.heap.size w W → Tr W b L → Calls Tryd.prog 15 #[.pointer (some ⟨b, 0, none⟩), .int .i64 (n : Int)] W fun e w' => ∃ g m, e = .returned (.tuple #[.slice (some ⟨g, 0, none⟩) m m, .int .i64 0]) ∧ w'.ownsRow W.heap.size 9 1 (.slice (some ⟨g, 0, none⟩) m m) m (scs (Mk.path L n)) ∧ Tr w' b L ∧ Gr b W w') := fun W b hW hT => path_in b L (by omega) hxL n (by omega) W (HK.out W hW) hT
  have CGR : Hid (∀ W base pa k, Below w.heap.size w W → W.ownsRow base 9 1 (.slice pa k k) k (scs (if n = 0 then [] else Mk.growth L n)) → Calls Tryd.prog 21 #[.string r2, .string r3, .int .i64 (n : Int), .int .i64 ((n : Int) + 1), .slice pa k k] W fun e w' => e = .returned (.bool true) ∧ Below W.heap.size W w') := fun W base pa k hW hO => by
    have := grew_yes L (by omega) n (by omega) r2 r3 (by rw [hr2, hLt]) hr3 pa k base W (HK.out W hW) hO
    rw [hLl] at this
    simpa using this
  have CS3 : Hid (∀ W base g m, Below w.heap.size w W → W.ownsRow base 9 1 (.slice (some ⟨g, 0, none⟩) m m) m (scs (Mk.path L n)) → Calls Tryd.prog 16 #[.string r3, .string s, .int .i64 (n : Int), .int .i64 ((n : Int) + 1), .slice (some ⟨g, 0, none⟩) m m] W fun e w' => e = .returned (.bool true) ∧ Below W.heap.size W w') := fun W base g m hW hO => by
    have hm : (Mk.path L n).length = m := by have := hO.1; rw [scs_length] at this; omega
    have hpl : (Mk.path L n).length ≤ 10 := by
      have := Mk.tw_len Mk.e1 10 (n + 1) L.length (by omega)
      simpa [Mk.path, Mk.aside_length] using this
    have := shows_c r3 s hs (n : Int) ((n : Int) + 1) (some ⟨g, 0, none⟩) m m (Mk.path L n) (by omega) W.heap.size W (HK.out W hW) (Nat.le_refl _) (own_sl (by rw [hm]; exact hO))
    have e := Mk.shows_path hLn (by omega)
    rw [hLl] at e
    rw [hr3, data_bs, ← hxs, show ((n : Int) + 1) = ((n + 1 : Nat) : Int) by omega, e] at this
    rw [hr3]; exact this
  have HSL : Hid (∀ W, Below w.heap.size w W → Sl W w.heap.size (.slice a n c) l) := fun W hW => HS.out.stays hW (Nat.le_refl _)
  have HLL : Hid (L = l ++ [x] ∧ x = s.data.toList ∧ L.length = n + 1) := ⟨hL, hxs, hLl⟩
  clear hS hK hx hs hbig hx1 hxL hLl hLt hLn hr1 hr2 hr3 hL hxs HK HS HN
  go_enter Tryd.func7, Tryd.ntmps7
  go_wp2_with fail
  refine CL.out.mono ?_
  rintro e w1 ⟨rfl, hb1⟩
  have B1 : Hid (Below w.heap.size w w1) := hb1
  clear CL hb1
  go_wp2_with fail
  refine (CN1.out _ B1.out).mono ?_
  rintro e w2 ⟨b1, rfl, ha1, hT1, hB2⟩
  have B2 : Hid (Below w.heap.size w w2) := hB2
  have T1 : Hid (Tr w2 b1 [x] ∧ w.heap.size ≤ b1) := ⟨hT1, ha1⟩
  clear CN1 ha1 hT1 hB2 B1
  go_wp2_with fail
  refine (CN2.out _ B2.out).mono ?_
  rintro e w3 ⟨b2, rfl, ha2, hT2, hB3⟩
  have l1 : b1 < w2.heap.size := T1.out.1.cells.2.1
  have B3 : Hid (Below w.heap.size w w3) := B2.out.trans (hB3.mono B2.out.size)
  have T2 : Hid (Tr w3 b1 [x] ∧ Tr w3 b2 l ∧ w.heap.size ≤ b1 ∧ w.heap.size ≤ b2 ∧ b1 ≠ b2) := ⟨T1.out.1.call hB3, hT2, T1.out.2, Nat.le_trans B2.out.size ha2, by omega⟩
  clear CN2 ha2 hT2 hB3 l1 B2 T1
  go_wp2_with (at_builtin; refine wpList_append_sl rfl _ _ rfl w3.heap.size _ 0 [] rfl (own_empty w3) a n c w.heap.size l rfl (HSL.out _ (B3.out.alloc B3.out.size _)) (by omega) (by simp) ?_)
  intro v4 w4 ho4 hb4
  have B34 : Hid (Below w3.heap.size w3 w4) := ((Below.refl _ _).alloc (Nat.le_refl _) _).trans hb4
  have O4 : Hid (w4.ownsRow w3.heap.size 9 1 v4 n (scs l)) := by show World.ownsRow _ _ _ _ _ _ _; simpa using ho4
  clear ho4 hb4
  go_wp2_with (at_builtin; refine wpList_append_sl rfl _ _ rfl w3.heap.size _ n l rfl (O4.out.alloc _) (some ⟨w4.heap.size, 0, none⟩) 1 1 (w4.heap.size + 1) [x] rfl (by rw [HLL.out.2.1]; exact one_sl w4 s) (by omega) (by have := B34.out.size; simp; omega) ?_)
  intro v5 w5 ho5 hb5
  have B35 : Hid (Below w3.heap.size w3 w5) := (B34.out.alloc B34.out.size _).trans hb5
  have O5 : Hid (w5.ownsRow w3.heap.size 9 1 v5 (n + 1) (scs L)) := by show World.ownsRow _ _ _ _ _ _ _; rw [HLL.out.1]; exact ho5
  clear ho5 hb5 O4 B34
  obtain ⟨g5, c5, rfl⟩ : ∃ g5 c5, v5 = .slice (some ⟨g5, 0, none⟩) (n + 1) c5 := by
    rcases O5.out.2 with ⟨_, h⟩ | ⟨g, cap, cur, h, _⟩
    · omega
    · exact ⟨g, cap, h⟩
  have Z5 : 0 < w5.heap.size := by have := B3.out.size; have := B35.out.size; omega
  go_wp2_with fail
  refine (CN3.out _ _ _ Z5 (own_sl (by rw [HLL.out.2.2]; exact O5.out))).mono ?_
  rintro e w6 ⟨b3, rfl, ha3, hT3, hB6⟩
  have T6 : Hid (T3 w b1 b2 b3 [x] l L w6) := by
    have h1 := T2.out.1.call B35.out
    have h2 := T2.out.2.1.call B35.out
    have l1 := h1.cells.2.1
    have l2 := h2.cells.2.1
    have := B3.out.size
    have := B35.out.size
    exact ⟨(B3.out.trans (B35.out.mono B3.out.size)).trans (hB6.mono (by omega)), h1.call hB6, h2.call hB6, hT3, T2.out.2.2.1, T2.out.2.2.2.1, by omega, T2.out.2.2.2.2, by omega, by omega⟩
  clear CN3 ha3 hT3 hB6 Z5 O5 B35 T2 B3
  go_wp2_with fail
  refine (CR1.out _ _ T6.out.below T6.out.t1).mono ?_
  rintro e w7 ⟨rfl, hT7, hG7⟩
  have T7 : Hid (T3 w b1 b2 b3 [x] l L w7) := T6.out.g1 hT7 hG7
  clear hT7 hG7 T6 CR1
  go_wp2_with fail
  refine (CS1.out _ T7.out.below).mono ?_
  rintro e w8 ⟨rfl, hb8⟩
  have T8 : Hid (T3 w b1 b2 b3 [x] l L w8) := T7.out.call hb8
  clear hb8 T7 CS1
  go_wp2_with fail
  refine (CG.out _ _ T8.out.below T8.out.t3).mono ?_
  rintro e w9 ⟨ga, k, rfl, ho9, hT9, hG9⟩
  have T9 : Hid (T3 w b1 b2 b3 [x] l L w9) := T8.out.g3 hT9 hG9
  have O9 : Hid (w9.ownsRow w8.heap.size 9 1 (.slice ga k k) k (scs (if n = 0 then [] else Mk.growth L n))) := ho9
  clear ho9 hT9 hG9 CG T8
  go_wp2_with fail
  refine (CP.out _ _ T9.out.below T9.out.t3).mono ?_
  rintro e w10 ⟨g, m, rfl, ho10, hT10, hG10⟩
  have T10 : Hid (T3 w b1 b2 b3 [x] l L w10) := T9.out.g3 hT10 hG10
  have O10 : Hid (w10.ownsRow w8.heap.size 9 1 (.slice ga k k) k (scs (if n = 0 then [] else Mk.growth L n))) := own_gr T9.out.t3 hG10 O9.out
  have P10 : Hid (w10.ownsRow w9.heap.size 9 1 (.slice (some ⟨g, 0, none⟩) m m) m (scs (Mk.path L n))) := ho10
  clear ho10 hT10 hG10 CP T9 O9
  go_wp2_with fail
  refine (CR2.out _ _ T10.out.below T10.out.t2).mono ?_
  rintro e w11 ⟨rfl, hT11, hG11⟩
  have T11 : Hid (T3 w b1 b2 b3 [x] l L w11) := T10.out.g2 hT11 hG11
  have O11 : Hid (w11.ownsRow w8.heap.size 9 1 (.slice ga k k) k (scs (if n = 0 then [] else Mk.growth L n))) := own_gr T10.out.t2 hG11 O10.out
  have P11 : Hid (w11.ownsRow w9.heap.size 9 1 (.slice (some ⟨g, 0, none⟩) m m) m (scs (Mk.path L n))) := own_gr T10.out.t2 hG11 P10.out
  clear hT11 hG11 T10 O10 P10 CR2
  go_wp2_with fail
  refine (CR3.out _ _ T11.out.below T11.out.t3).mono ?_
  rintro e w12 ⟨rfl, hT12, hG12⟩
  have T12 : Hid (T3 w b1 b2 b3 [x] l L w12) := T11.out.g3 hT12 hG12
  have O12 : Hid (w12.ownsRow w8.heap.size 9 1 (.slice ga k k) k (scs (if n = 0 then [] else Mk.growth L n))) := own_gr T11.out.t3 hG12 O11.out
  have P12 : Hid (w12.ownsRow w9.heap.size 9 1 (.slice (some ⟨g, 0, none⟩) m m) m (scs (Mk.path L n))) := own_gr T11.out.t3 hG12 P11.out
  clear hT12 hG12 T11 O11 P11
  go_wp2_with fail
  refine (CGR.out _ _ _ _ T12.out.below O12.out).mono ?_
  rintro e w13 ⟨rfl, hb13⟩
  have T13 : Hid (T3 w b1 b2 b3 [x] l L w13) := T12.out.call hb13
  have P13 : Hid (w13.ownsRow w9.heap.size 9 1 (.slice (some ⟨g, 0, none⟩) m m) m (scs (Mk.path L n))) := own_stays P12.out hb13
  clear hb13 T12 O12 P12 CGR
  go_wp2_with fail
  refine (CR3.out _ _ T13.out.below T13.out.t3).mono ?_
  rintro e w14 ⟨rfl, hT14, hG14⟩
  have T14 : Hid (T3 w b1 b2 b3 [x] l L w14) := T13.out.g3 hT14 hG14
  have P14 : Hid (w14.ownsRow w9.heap.size 9 1 (.slice (some ⟨g, 0, none⟩) m m) m (scs (Mk.path L n))) := own_gr T13.out.t3 hG14 P13.out
  clear hT14 hG14 T13 P13 CR3
  go_wp2_with fail
  refine (CS3.out _ _ _ _ T14.out.below P14.out).mono ?_
  rintro e w15 ⟨rfl, hb15⟩
  have B15 : Hid (Below w.heap.size w w15) := (T14.out.call hb15).below
  clear hb15 T14 P14 CS3
  go_wp2
  go_ret
  exact ⟨rfl, B15.out⟩
end Go.Proofs.YthheebnmdfggnaaDoor
