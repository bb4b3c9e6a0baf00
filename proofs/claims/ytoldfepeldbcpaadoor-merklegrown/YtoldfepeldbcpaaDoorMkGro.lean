/- The law MerkleGrown, walked: its last region by one obligation for each operation. -/
import Derived.Test.YtoldfepeldbcpaaDoorMkGrown
import Derived.Test.YtoldfepeldbcpaaDoorRgOrd
namespace Go.Proofs.YtoldfepeldbcpaaDoor
open Go.RowKit
attribute [local go_sem ↓] Go.wp_at_zero Go.wp_at_succ
/-- what holds all along -/
def GC (w : World) (b1 b2 : Nat) (l1 l2 : List (List UInt8)) (B : Nat) (g : Value) (k : Nat) (G : List (List UInt8)) (H : Nat) (W : World) : Prop := GS w b1 b2 l1 l2 B g k G W ∧ H ≤ W.heap.size
/-- the growth, copied -/
def R9 (w : World) (b1 b2 : Nat) (l1 l2 : List (List UInt8)) (B : Nat) (g : Value) (k : Nat) (G : List (List UInt8)) (H : Nat) (v : Value) (W : World) : Prop :=
  (k = 0 ∧ ∃ A, v = .slice (some A) 0 0) ∨ (0 < k ∧ ∃ W0, GC w b1 b2 l1 l2 B g k G H W0 ∧ Below W0.heap.size W0 W ∧ W.ownsRow W0.heap.size 9 1 v k (scs G))
def R11 (s : ByteArray) (H : Nat) (v : Value) (W : World) : Prop := ∃ A, H ≤ A ∧ v = .slice (some ⟨A, 0, none⟩) 1 1 ∧ W.heap[A]? = some (.cells #[.string s] 9 (0, 0))
def R12 (s : ByteArray) (k : Nat) (G : List (List UInt8)) (H : Nat) (v : Value) (W : World) : Prop := W.ownsRow H 9 1 v (k + 1) (scs G ++ [.string s])
def R28 (w : World) (b1 b2 : Nat) (l1 l2 : List (List UInt8)) (B : Nat) (g : Value) (k : Nat) (G : List (List UInt8)) (v : Value) : Prop :=
  (k = 0 ∧ v = undef) ∨ (0 < k ∧ ∃ pa, v = .slice pa (k - 1) (k - 1) ∧ ∀ W, GS w b1 b2 l1 l2 B g k G W → Sl W W.heap.size (.slice pa (k - 1) (k - 1)) (G.drop 1))
/-- what each operation leaves -/
def GSt (w : World) (b1 b2 : Nat) (l1 l2 : List (List UInt8)) (B : Nat) (ga : Option Addr) (k : Nat) (G : List (List UInt8)) (H : Nat) (r1 r2 s : ByteArray) (m n : Nat) (sl : Value) : Nat → Value → World → Prop
  | 0, v, _ => v = .pointer (some ⟨b2, 0, none⟩)
  | 1, v, _ => v = .string r2
  | 2, v, _ => v = .pointer (some ⟨b1, 0, none⟩)
  | 3, v, _ => v = .string r1
  | 4, v, _ => v = .int .i64 (m : Int)
  | 5, v, _ => v = sl
  | 6, v, _ => v = .int .i64 (n : Int)
  | 7, v, _ => ∃ A, v = .slice (some A) 0 0
  | 8, v, _ => v = .slice ga k k
  | 9, v, W => R9 w b1 b2 l1 l2 B (.slice ga k k) k G H v W
  | 10, v, _ => v = .string s
  | 11, v, W => R11 s H v W
  | 12, v, W => R12 s k G H v W
  | 13, v, _ => v = .bool false
  | 14, v, _ => v = .bool true
  | 15, v, _ => v = .bool true
  | 16, v, _ => v = .slice ga k k
  | 17, v, _ => v = .int .i64 (k : Int)
  | 18, v, _ => v = if k = 0 then .bool true else .bool false
  | 19, v, _ => v = if k = 0 then .bool true else .bool false
  | 20, v, _ => v = if k = 0 then undef else .pointer (some ⟨b2, 0, none⟩)
  | 21, v, _ => v = if k = 0 then undef else .string r2
  | 22, v, _ => v = if k = 0 then undef else .pointer (some ⟨b1, 0, none⟩)
  | 23, v, _ => v = if k = 0 then undef else .string r1
  | 24, v, _ => v = if k = 0 then undef else .int .i64 (m : Int)
  | 25, v, _ => v = if k = 0 then undef else sl
  | 26, v, _ => v = if k = 0 then undef else .int .i64 (n : Int)
  | 27, v, _ => v = if k = 0 then undef else .slice ga k k
  | 28, v, _ => R28 w b1 b2 l1 l2 B (.slice ga k k) k G v
  | 29, v, _ => v = if k = 0 then undef else .bool false
  | 30, v, _ => v = if k = 0 then undef else .bool true
  | 31, v, _ => v = .bool true
  | 32, v, _ => v = .bool true
  | 33, v, _ => v = .bool true
  | _, _, _ => True
def gpre (i : Nat) : List Nat := if i = 3 then [1] else if i = 9 then [1, 3] else if 13 ≤ i ∧ i ≤ 33 then [12] else []
def gbrk (j : Nat) : List Nat := if j = 9 ∨ j = 11 then [12] else []
/-- what each operation may do -/
def GT (H : Nat) (i : Nat) (W W' : World) : Prop := if i = 12 then True else if i = 1 ∨ i = 3 ∨ i = 21 ∨ i = 23 then Kp H W W' else Below W.heap.size W W'
theorem Kp.below {H : Nat} {W W' : World} (h : Below W.heap.size W W') : Kp H W W' := fun L _ _ e => (h.block L (Array.getElem?_eq_some_iff.1 e).1).trans e
theorem own_kp {H base n t sz : Nat} {W W' : World} {v : Value} {xs : List Value} (hb : H ≤ base) (h : W.ownsRow base t sz v n xs) (hk : Kp H W W') : W'.ownsRow base t sz v n xs := by
  refine ⟨h.1, ?_⟩
  rcases h.2 with h2 | ⟨g, cap, cur, h1, h2, h3, h4⟩
  · exact .inl h2
  · exact .inr ⟨g, cap, cur, h1, h2, hk g _ (by omega) h3, h4⟩
theorem of_step {P : Program} {ops : Array Oper} {Q : Exit → Act → World → Prop} {o : Oper} {a : Act} {w : World} {K : Act → World → Prop} {E : Prop} (hg : o.guard = none) (h : if Region.wanted o (yielded ops a.tmps) = true then Oper.wp P o a w K Q else E) : Oper.wp P o a w K Q := by
  have hw : Region.wanted o (yielded ops a.tmps) = true := by simp [Region.wanted, hg]
  rw [if_pos hw] at h
  exact h
theorem gt_same (H i : Nat) (W : World) : GT H i W W := by
  unfold GT
  split
  · trivial
  · split
    · exact fun _ _ _ e => e
    · exact Below.refl _ _
theorem gt_below (i : Nat) {H : Nat} {W W' : World} (h : Below W.heap.size W W') : GT H i W W' := by
  unfold GT
  split
  · trivial
  · split
    · exact Kp.below h
    · exact h
theorem gt_kp (i : Nat) {H : Nat} {W W' : World} (hi : i = 1 ∨ i = 3 ∨ i = 21 ∨ i = 23) (h : Kp H W W') : GT H i W W' := by
  unfold GT
  rw [if_neg (by omega), if_pos hi]
  exact h
theorem gt_12 (H : Nat) (W W' : World) : GT H 12 W W' := by
  unfold GT
  rw [if_pos rfl]
  trivial
theorem wanted_of {o : Oper} {ops : Array Oper} {tm : Array Value} {p d : Nat} {b : Bool} (hg : o.guard = some (p, b)) (hd : (ops[p]?).bind (·.dst) = some d) (hv : tm[d]? = some (.bool b)) : Region.wanted o (yielded ops tm) = true := by
  simp [Region.wanted, yielded, hg, hd, hv]
theorem unwanted_of {o : Oper} {ops : Array Oper} {tm : Array Value} {p d : Nat} {b b' : Bool} (hne : b' ≠ b) (hg : o.guard = some (p, b)) (hd : (ops[p]?).bind (·.dst) = some d) (hv : tm[d]? = some (.bool b')) : Region.wanted o (yielded ops tm) = false := by
  simp [Region.wanted, yielded, hg, hd, hv, hne]
theorem gst_stab {w : World} {b1 b2 : Nat} {l1 l2 : List (List UInt8)} {B : Nat} {ga : Option Addr} {k : Nat} {G : List (List UInt8)} {H : Nat} {r1 r2 s : ByteArray} {m n : Nat} {sl : Value} (i j : Nat) (v : Value) (W W' : World) (hi : i < 34) (hj : j < 34) (hne : j ≠ i) (h1 : i ∉ gpre j) (h2 : i ∉ gbrk j) (h3 : ∀ p ∈ gpre i, p ∉ gbrk j)
    (hS : GSt w b1 b2 l1 l2 B ga k G H r1 r2 s m n sl j v W) (hT : GT H i W W') : GSt w b1 b2 l1 l2 B ga k G H r1 r2 s m n sl j v W' := by
  by_cases h9 : j = 9
  · subst h9
    rcases hS with hS | ⟨hk, W0, hW0, hB, hO⟩
    · exact .inl hS
    · have hT2 : Below W.heap.size W W' := by
        unfold GT at hT
        rw [if_neg (by intro e; subst e; exact h2 (by simp [gbrk])), if_neg (by
          rintro (e | e | e | e)
          · subst e; exact h1 (by simp [gpre])
          · subst e; exact h1 (by simp [gpre])
          · subst e; exact h3 12 (by simp [gpre]) (by simp [gbrk])
          · subst e; exact h3 12 (by simp [gpre]) (by simp [gbrk]))] at hT
        exact hT
      exact .inr ⟨hk, W0, hW0, hB.trans (hT2.mono hB.size), own_stays hO hT2⟩
  have hK : i ≠ 12 → Kp H W W' := fun e => by
    unfold GT at hT
    rw [if_neg e] at hT
    split at hT
    · exact hT
    · exact Kp.below hT
  by_cases h11 : j = 11
  · subst h11
    obtain ⟨A, hA, hv, hc⟩ := hS
    exact ⟨A, hA, hv, hK (by intro e; subst e; exact h2 (by simp [gbrk])) _ _ hA hc⟩
  by_cases h12 : j = 12
  · subst h12
    exact own_kp (Nat.le_refl _) hS (hK (fun e => hne e.symm))
  have e : ∀ W1 W2, GSt w b1 b2 l1 l2 B ga k G H r1 r2 s m n sl j v W1 → GSt w b1 b2 l1 l2 B ga k G H r1 r2 s m n sl j v W2 := fun W1 W2 h => by
    revert h
    have hcase : j = 0 ∨ j = 1 ∨ j = 2 ∨ j = 3 ∨ j = 4 ∨ j = 5 ∨ j = 6 ∨ j = 7 ∨ j = 8 ∨ j = 10 ∨ j = 13 ∨ j = 14 ∨ j = 15 ∨ j = 16 ∨ j = 17 ∨ j = 18 ∨ j = 19 ∨ j = 20 ∨ j = 21 ∨ j = 22 ∨ j = 23 ∨ j = 24 ∨ j = 25 ∨ j = 26 ∨ j = 27 ∨ j = 28 ∨ j = 29 ∨ j = 30 ∨ j = 31 ∨ j = 32 ∨ j = 33 := by omega
    rcases hcase with rfl | rfl | rfl | rfl | rfl | rfl | rfl | rfl | rfl | rfl | rfl | rfl | rfl | rfl | rfl | rfl | rfl | rfl | rfl | rfl | rfl | rfl | rfl | rfl | rfl | rfl | rfl | rfl | rfl | rfl | rfl
    all_goals exact fun h => h
  exact e W W' hS
set_option maxHeartbeats 64000000 in
set_option maxRecDepth 10000 in
theorem grown_c (a : Option Addr) (c n : Nat) (hnc : n ≤ c) (l : List (List UInt8)) (hx : ∀ x ∈ l, x.length ≤ 140737488355328) (hn : n ≤ 1024) (m : Nat) (hm : m ≤ n) (s : ByteArray) (w : World) (hK : HasK w) (hS : Sl w w.heap.size (.slice a n c) l) (hTk : Sl w w.heap.size (.slice a m c) (l.take m)) :
    Calls Tryd.prog 3 #[.slice a n c, .int .i64 (m : Int), .string s] w fun e w' => e = .returned (.bool true) ∧ Below w.heap.size w w' := by
  have hnl : n = l.length := hS.len
  have HK : Hid (∀ W, Below w.heap.size w W → HasK W) := fun W hW => hK.below hK.1 hW
  have h0 : 0 < w.heap.size := Nat.lt_of_le_of_lt (Nat.zero_le _) hK.1
  have CL : Hid (Calls Tryd.prog 4 #[] w fun e w' => e = .returned (.bool true) ∧ Below w.heap.size w w') := lives_c w hK
  obtain ⟨L2, hL2⟩ : ∃ L2, L2 = l.take m := ⟨_, rfl⟩
  rw [← hL2] at hTk
  have hx2 : ∀ x ∈ L2, x.length ≤ 140737488355328 := fun x h => hx x (List.mem_of_mem_take (by rw [hL2] at h; exact h))
  have hl2 : L2.length ≤ 1024 := by rw [hL2, List.length_take]; omega
  have CN1 : Hid (∀ W, Below w.heap.size w W → Calls Tryd.prog 5 #[.slice a n c] W fun e w' => ∃ b : Nat, e = .returned (.tuple #[.pointer (some ⟨b, 0, none⟩), .int .i64 0]) ∧ W.heap.size ≤ b ∧ Tr w' b l ∧ Below W.heap.size W w') := fun W hW => by
    refine (new_yes a c n hn w.heap.size l hx W hW.size (hS.stays hW (Nat.le_refl _))).mono ?_
    rintro e w' ⟨b, rfl, hb, hT, hB⟩
    have hsz := hW.size
    exact ⟨b, rfl, hb, hT.tr (by omega), hB⟩
  have CN2 : Hid (∀ W, Below w.heap.size w W → Calls Tryd.prog 5 #[.slice a m c] W fun e w' => ∃ b : Nat, e = .returned (.tuple #[.pointer (some ⟨b, 0, none⟩), .int .i64 0]) ∧ W.heap.size ≤ b ∧ Tr w' b L2 ∧ Below W.heap.size W w') := fun W hW => by
    refine (new_yes a c m (by omega) w.heap.size L2 hx2 W hW.size (hTk.stays hW (Nat.le_refl _))).mono ?_
    rintro e w' ⟨b, rfl, hb, hT, hB⟩
    have hsz := hW.size
    exact ⟨b, rfl, hb, hT.tr (by omega), hB⟩
  obtain ⟨r1, hr1⟩ : ∃ r : ByteArray, r = bs (Mk.root l) := ⟨_, rfl⟩
  obtain ⟨r2, hr2⟩ : ∃ r : ByteArray, r = bs (Mk.root L2) := ⟨_, rfl⟩
  have CR1 : Hid (∀ W b, Below w.heap.size w W → Tr W b l → Calls Tryd.prog 8 #[.pointer (some ⟨b, 0, none⟩)] W fun e w' => e = .returned (.string r1) ∧ Tr w' b l ∧ Gr b W w') := fun W b hW hT => by
    rw [hr1]; exact root_c b l (by omega) hx W (HK.out W hW) hT
  have CR2 : Hid (∀ W b, Below w.heap.size w W → Tr W b L2 → Calls Tryd.prog 8 #[.pointer (some ⟨b, 0, none⟩)] W fun e w' => e = .returned (.string r2) ∧ Tr w' b L2 ∧ Gr b W w') := fun W b hW hT => by
    rw [hr2]; exact root_c b L2 hl2 hx2 W (HK.out W hW) hT
  obtain ⟨G, hG⟩ : ∃ G, G = (if m = 0 then [] else Mk.growth l m) := ⟨_, rfl⟩
  have CG : Hid (∀ W b, Below w.heap.size w W → Tr W b l → Calls Tryd.prog 6 #[.pointer (some ⟨b, 0, none⟩), .int .i64 (m : Int)] W fun e w' => ∃ a k, e = .returned (.tuple #[.slice a k k, .int .i64 0]) ∧ w'.ownsRow W.heap.size 9 1 (.slice a k k) k (scs G) ∧ Tr w' b l ∧ Gr b W w') := fun W b hW hT => by
    rw [hG]; exact growth_any b l (by omega) hx m (by omega) W (HK.out W hW) hT
  have CGY : Hid (∀ W base pa k, Below w.heap.size w W → W.ownsRow base 9 1 (.slice pa k k) k (scs G) → Calls Tryd.prog 7 #[.string r2, .string r1, .int .i64 (m : Int), .int .i64 (n : Int), .slice pa k k] W fun e w' => e = .returned (.bool true) ∧ Below W.heap.size W w') := fun W base pa k hW hO => by
    have := grew_yes l (by omega) m (by omega) r2 r1 (by rw [hr2, hL2]) hr1 pa k base W (HK.out W hW) (by rw [← hG]; exact hO)
    rw [← hnl] at this
    exact this
  have CGN : Hid (∀ W pa pn pc (P : List (List UInt8)), pn ≤ pc → P.length ≠ G.length → P.length ≤ 9223372036854775807 → Below w.heap.size w W → Sl W W.heap.size (.slice pa pn pc) P → Calls Tryd.prog 7 #[.string r2, .string r1, .int .i64 (m : Int), .int .i64 (n : Int), .slice pa pn pc] W fun e w' => e = .returned (.bool false) ∧ Below W.heap.size W w') := fun W pa pn pc P hp hne hP hW hSP => by
    have := grew_no l (by omega) m (by omega) r2 r1 (by rw [hr2, hL2]) hr1 pa pn pc hp P (by rw [← hG]; exact hne) hP W (HK.out W hW) hSP
    rw [← hnl] at this
    exact this
  have hGl : G.length ≤ 11 := by
    rw [hG]; split
    · simp
    · have h1 := Mk.growth_length l m
      have h2 := Mk.tw_len Mk.e2 10 m l.length (by omega)
      rw [h1]; split <;> omega
  have HG : Hid (G.length ≤ 11) := hGl
  have q1 : (m : Int) ≤ (c : Int) := by omega
  have q2 : ¬ (m : Int) < 0 := by omega
  have q3 : (0 : Int) ≤ (m : Int) := by omega
  clear hS hTk hK hx hx2 hl2 hnl hr1 hr2 hL2 hG hGl HK
  go_enter Tryd.func3, Tryd.ntmps3
  go_wp2_with fail
  refine CL.out.mono ?_
  rintro e w1 ⟨rfl, hb1⟩
  have B1 : Hid (Below w.heap.size w w1) := hb1
  clear CL hb1
  go_wp2_with fail
  refine (CN1.out _ B1.out).mono ?_
  rintro e w2 ⟨b1, rfl, ha1, hT1, hB2⟩
  have B2 : Hid (Below w.heap.size w w2) := B1.out.trans (hB2.mono B1.out.size)
  have T2 : Hid (Tr w2 b1 l ∧ w.heap.size ≤ b1) := ⟨hT1, Nat.le_trans B1.out.size ha1⟩
  clear CN1 ha1 hT1 hB2 B1
  go_wp2_with fail
  refine (CG.out _ _ B2.out T2.out.1).mono ?_
  rintro e w3 ⟨ga, k, rfl, ho3, hT3, hG3⟩
  have B3 : Hid (Below w.heap.size w w3) := B2.out.trans (hG3.below T2.out.2 B2.out.size)
  have T3 : Hid (Tr w3 b1 l ∧ w.heap.size ≤ b1 ∧ w3.ownsRow w2.heap.size 9 1 (.slice ga k k) k (scs G)) := ⟨hT3, T2.out.2, ho3⟩
  have hkG : k = G.length := by have := ho3.1; rw [scs_length] at this; omega
  have HKG : Hid (k = G.length) := hkG
  have hk11 : k ≤ 11 := by rw [hkG]; exact HG.out
  clear CG ho3 hT3 hG3 B2 T2 hkG
  go_wp2_with fail
  refine (CN2.out _ B3.out).mono ?_
  rintro e w4 ⟨b2, rfl, ha2, hT4, hB4⟩
  have S4 : Hid (GS w b1 b2 l L2 w2.heap.size (.slice ga k k) k G w4) := by
    have l1 := T3.out.1.cells.2.1
    have hsz := B3.out.size
    exact ⟨B3.out.trans (hB4.mono hsz), T3.out.1.call hB4, hT4, T3.out.2.1, by omega, by omega, own_stays T3.out.2.2 hB4⟩
  clear CN2 ha2 hT4 hB4 T3 B3
  go_wp2_with fail
  refine (CR2.out _ _ S4.out.below S4.out.t2).mono ?_
  rintro e w5 ⟨rfl, hT5, hG5⟩
  have S5 : Hid (GS w b1 b2 l L2 w2.heap.size (.slice ga k k) k G w5) := S4.out.g2 hT5 hG5
  clear hT5 hG5 S4
  go_wp2_with fail
  refine (CR1.out _ _ S5.out.below S5.out.t1).mono ?_
  rintro e w6 ⟨rfl, hT6, hG6⟩
  have S6 : Hid (GS w b1 b2 l L2 w2.heap.size (.slice ga k k) k G w6) := S5.out.g1 hT6 hG6
  clear hT6 hG6 S5
  go_wp2_with fail
  refine (CGY.out _ _ _ _ S6.out.below S6.out.row).mono ?_
  rintro e w7 ⟨rfl, hb7⟩
  have S7 : Hid (GS w b1 b2 l L2 w2.heap.size (.slice ga k k) k G w7) := S6.out.call hb7
  clear hb7 S6 CGY
  go_upto_region 12 with fail
  have LB : Hid (b1 < w7.heap.size ∧ b2 < w7.heap.size) := ⟨S7.out.t1.cells.2.1, S7.out.t2.cells.2.1⟩
  have CGA : Hid (∀ W v, GS w b1 b2 l L2 w2.heap.size (.slice ga k k) k G W → R12 s k G w7.heap.size v W → Calls Tryd.prog 7 #[.string r2, .string r1, .int .i64 (m : Int), .int .i64 (n : Int), v] W fun e w' => e = .returned (.bool false) ∧ Below W.heap.size W w') := fun W v hW hS => by
    obtain ⟨g, c', rfl, hc, hs⟩ := own_plus hS
    exact CGN.out W _ (k + 1) c' _ hc (by have := HKG.out; simp) (by have := HG.out; simp; omega) hW.below hs
  have CGD : Hid (∀ W v, 0 < k → GS w b1 b2 l L2 w2.heap.size (.slice ga k k) k G W → R28 w b1 b2 l L2 w2.heap.size (.slice ga k k) k G v → Calls Tryd.prog 7 #[.string r2, .string r1, .int .i64 (m : Int), .int .i64 (n : Int), v] W fun e w' => e = .returned (.bool false) ∧ Below W.heap.size W w') := fun W v hk hW hS => by
    rcases hS with ⟨h0, _⟩ | ⟨_, pa, rfl, hs⟩
    · omega
    · exact CGN.out W pa (k - 1) (k - 1) (G.drop 1) (Nat.le_refl _) (by have := HKG.out; rw [List.length_drop]; omega) (by have := HG.out; rw [List.length_drop]; omega) hW.below (hs W hW)
  have HZ : Hid (k = 0 → G = []) := fun h => List.eq_nil_of_length_eq_zero (by rw [← HKG.out]; exact h)
  have HD1 : Hid (∀ W o0, ga = some ⟨o0, 0, none⟩ → GS w b1 b2 l L2 w2.heap.size (.slice ga k k) k G W → 1 < k → Sl W W.heap.size (.slice (some ⟨o0, 1, none⟩) (k - 1) (k - 1)) (G.drop 1)) := fun W o0 he hW hk => by
    obtain ⟨j, rfl⟩ : ∃ j, k = j + 1 := ⟨k - 1, by omega⟩
    subst he
    have h2 := hW.row
    have h3 := HKG.out
    rw [h3] at h2
    have h := Sl.drop (own_sl h2) 1 j
    rw [← h3] at h
    exact h
  have HD0 : Hid (k = 1 → G.drop 1 = []) := fun h => List.eq_nil_of_length_eq_zero (by have := HKG.out; rw [List.length_drop]; omega)
  clear CGN HG HKG
  have CA : Hid (∀ W, GC w b1 b2 l L2 w2.heap.size (.slice ga k k) k G w7.heap.size W → Calls Tryd.prog 8 #[.pointer (some ⟨b2, 0, none⟩)] W fun e w' => e = .returned (.string r2) ∧ GC w b1 b2 l L2 w2.heap.size (.slice ga k k) k G w7.heap.size w' ∧ Kp w7.heap.size W w') := fun W hW =>
    (CR2.out _ _ hW.1.below hW.1.t2).mono fun e w' ⟨he, hT, hG⟩ => ⟨he, ⟨hW.1.g2 hT hG, Nat.le_trans hW.2 hG.size⟩, Kp.gr LB.out.2 hG⟩
  have CB : Hid (∀ W, GC w b1 b2 l L2 w2.heap.size (.slice ga k k) k G w7.heap.size W → Calls Tryd.prog 8 #[.pointer (some ⟨b1, 0, none⟩)] W fun e w' => e = .returned (.string r1) ∧ GC w b1 b2 l L2 w2.heap.size (.slice ga k k) k G w7.heap.size w' ∧ Kp w7.heap.size W w') := fun W hW =>
    (CR1.out _ _ hW.1.below hW.1.t1).mono fun e w' ⟨he, hT, hG⟩ => ⟨he, ⟨hW.1.g1 hT hG, Nat.le_trans hW.2 hG.size⟩, Kp.gr LB.out.1 hG⟩
  clear CR1 CR2 LB
  go_cut [6] from 67 to 99 (fun s6 wx => s6 = .bool true ∧ Hid (Below w.heap.size w wx))
  case first =>
    refine wp_region_ord (by kernel_rfl) (by kernel_rfl) gpre gbrk (by kernel_rfl) (fun f => { tmps := #[.slice a n c, .int .i64 (m : Int), .string s, undef, undef, undef, f 33, .pointer (some ⟨b1, 0, none⟩), .int .i64 0, .slice ga k k, .pointer (some ⟨b2, 0, none⟩), .int .i64 0, .bool true, .bool false, .tuple #[.pointer (some ⟨b1, 0, none⟩), .int .i64 0], .slice a n c, .tuple #[.pointer (some ⟨b1, 0, none⟩), .int .i64 0], .pointer (some ⟨b1, 0, none⟩), .int .i64 0, .int .i64 0, .bool false, .tuple #[.slice ga k k, .int .i64 0], .pointer (some ⟨b1, 0, none⟩), .int .i64 (m : Int), .tuple #[.slice ga k k, .int .i64 0], .slice ga k k, .int .i64 0, .int .i64 0, .bool false, undef, undef, undef, undef, undef, undef, undef, undef, undef, undef, undef, undef, undef, undef, undef, undef, undef, .tuple #[.pointer (some ⟨b2, 0, none⟩), .int .i64 0], .slice a n c, .int .i64 (m : Int), .slice a m c, .tuple #[.pointer (some ⟨b2, 0, none⟩), .int .i64 0], .pointer (some ⟨b2, 0, none⟩), .int .i64 0, .int .i64 0, .bool false, .bool false, .pointer (some ⟨b2, 0, none⟩), .string r2, .pointer (some ⟨b1, 0, none⟩), .string r1, .int .i64 (m : Int), .slice a n c, .int .i64 (n : Int), .slice ga k k, .bool true, .bool false, .bool false, f 0, f 1, f 2, f 3, f 4, f 5, f 6, f 7, f 8, f 9, f 10, f 11, f 12, f 13, f 14, f 15, f 16, f 17, f 18, f 19, f 20, f 21, f 22, f 23, f 24, f 25, f 26, f 27, f 28, f 29, f 30, f 31, f 32], defers := [] }) (fun j => if j = 33 then .bool false else undef) rfl (GC w b1 b2 l L2 w2.heap.size (.slice ga k k) k G w7.heap.size) (GSt w b1 b2 l L2 w2.heap.size ga k G w7.heap.size r1 r2 s m n (.slice a n c)) (GT w7.heap.size) ⟨S7.out.drew, by simp⟩ ?stab ?step ?done
    case stab =>
      intro i j v W W' hi hj h1 h2 h3 h4 _ hS hT
      exact gst_stab i j v W W' hi hj h1 h2 h3 h4 hS hT
    case done =>
      intro f W hW hS
      have h33 : f 33 = .bool true := hS 33 (by simp) rfl
      have FIN : Hid (Below w.heap.size w W) := hW.1.below
      clear hS hW
      dsimp only
      rw [h33]
      go_wp2_with fail
      go_meet
      first
        | exact ⟨rfl, FIN⟩
        | ((repeat apply Exists.intro); exact ⟨⟨rfl, FIN⟩, rfl⟩)
    case step =>
      intro i hi f W hW hS
      have HS : Hid _ := hS
      clear hS
      have hi34 : i < 34 := hi
      clear hi
      rcases (show i = 0 ∨ i = 1 ∨ i = 2 ∨ i = 3 ∨ i = 4 ∨ i = 5 ∨ i = 6 ∨ i = 7 ∨ i = 8 ∨ i = 9 ∨ i = 10 ∨ i = 11 ∨ i = 12 ∨ i = 13 ∨ i = 14 ∨ i = 15 ∨ i = 16 ∨ i = 17 ∨ i = 18 ∨ i = 19 ∨ i = 20 ∨ i = 21 ∨ i = 22 ∨ i = 23 ∨ i = 24 ∨ i = 25 ∨ i = 26 ∨ i = 27 ∨ i = 28 ∨ i = 29 ∨ i = 30 ∨ i = 31 ∨ i = 32 ∨ i = 33 by omega) with rfl | rfl | rfl | rfl | rfl | rfl | rfl | rfl | rfl | rfl | rfl | rfl | rfl | rfl | rfl | rfl | rfl | rfl | rfl | rfl | rfl | rfl | rfl | rfl | rfl | rfl | rfl | rfl | rfl | rfl | rfl | rfl | rfl | rfl
      · -- 0

        refine wpOp_of rfl rfl ?_
        intro K' hK'
        have HK' : Hid _ := hK'
        clear hK'
        change Oper.wp _ ⟨_, _, _, _, _, _⟩ _ _ _ _
        dsimp only
        go_simp
        exact HK'.out _ _ ⟨.pointer (some ⟨b2, 0, none⟩), rfl, hW, gt_same _ _ _, rfl⟩
      · -- 1
        have h0 : f 0 = .pointer (some ⟨b2, 0, none⟩) := HS.out 0 rfl (by simp [gbrk])
        refine wpOp_of rfl rfl ?_
        intro K' hK'
        have HK' : Hid _ := hK'
        clear hK'
        change Oper.wp _ ⟨_, _, _, _, _, _⟩ _ _ _ _
        dsimp only
        rw [h0]
        go_simp
        go_at_call 8
        refine (CA.out W hW).mono ?_
        rintro e wa ⟨rfl, hC', hKp⟩
        exact HK'.out _ _ ⟨.string r2, (by simp [upd, h0]), hC', gt_kp 1 (by omega) hKp, rfl⟩
      · -- 2

        refine wpOp_of rfl rfl ?_
        intro K' hK'
        have HK' : Hid _ := hK'
        clear hK'
        change Oper.wp _ ⟨_, _, _, _, _, _⟩ _ _ _ _
        dsimp only
        go_simp
        exact HK'.out _ _ ⟨.pointer (some ⟨b1, 0, none⟩), rfl, hW, gt_same _ _ _, rfl⟩
      · -- 3
        have h2 : f 2 = .pointer (some ⟨b1, 0, none⟩) := HS.out 2 rfl (by simp [gbrk])
        refine wpOp_of rfl rfl ?_
        intro K' hK'
        have HK' : Hid _ := hK'
        clear hK'
        change Oper.wp _ ⟨_, _, _, _, _, _⟩ _ _ _ _
        dsimp only
        rw [h2]
        go_simp
        go_at_call 8
        refine (CB.out W hW).mono ?_
        rintro e wa ⟨rfl, hC', hKp⟩
        exact HK'.out _ _ ⟨.string r1, (by simp [upd, h2]), hC', gt_kp 3 (by omega) hKp, rfl⟩
      · -- 4

        refine wpOp_of rfl rfl ?_
        intro K' hK'
        have HK' : Hid _ := hK'
        clear hK'
        change Oper.wp _ ⟨_, _, _, _, _, _⟩ _ _ _ _
        dsimp only
        go_simp
        exact HK'.out _ _ ⟨.int .i64 (m : Int), rfl, hW, gt_same _ _ _, rfl⟩
      · -- 5

        refine wpOp_of rfl rfl ?_
        intro K' hK'
        have HK' : Hid _ := hK'
        clear hK'
        change Oper.wp _ ⟨_, _, _, _, _, _⟩ _ _ _ _
        dsimp only
        go_simp
        exact HK'.out _ _ ⟨.slice a n c, rfl, hW, gt_same _ _ _, rfl⟩
      · -- 6
        have h5 : f 5 = .slice a n c := HS.out 5 rfl (by simp [gbrk])
        refine wpOp_of rfl rfl ?_
        intro K' hK'
        have HK' : Hid _ := hK'
        clear hK'
        change Oper.wp _ ⟨_, _, _, _, _, _⟩ _ _ _ _
        dsimp only
        rw [h5]
        go_simp
        exact HK'.out _ _ ⟨.int .i64 (n : Int), (by simp [upd, h5]), hW, gt_same _ _ _, rfl⟩
      · -- 7

        refine wpOp_of rfl rfl ?_
        intro K' hK'
        have HK' : Hid _ := hK'
        clear hK'
        change Oper.wp _ ⟨_, _, _, _, _, _⟩ _ _ _ _
        dsimp only
        go_simp
        exact HK'.out _ _ ⟨.slice (some ⟨W.heap.size, 0, none⟩) 0 0, rfl, ⟨hW.1.alloc _, Nat.le_trans hW.2 (by simp)⟩, gt_below 7 ((Below.refl _ _).alloc (Nat.le_refl _) _), ⟨_, rfl⟩⟩
      · -- 8

        refine wpOp_of rfl rfl ?_
        intro K' hK'
        have HK' : Hid _ := hK'
        clear hK'
        change Oper.wp _ ⟨_, _, _, _, _, _⟩ _ _ _ _
        dsimp only
        go_simp
        exact HK'.out _ _ ⟨.slice ga k k, rfl, hW, gt_same _ _ _, rfl⟩
      · -- 9
        have h7 : ∃ A, f 7 = .slice (some A) 0 0 := HS.out 7 rfl (by simp [gbrk])
        have h8 : f 8 = .slice ga k k := HS.out 8 rfl (by simp [gbrk])
        obtain ⟨A, hA⟩ := h7
        refine wpOp_of rfl rfl ?_
        intro K' hK'
        have HK' : Hid _ := hK'
        clear hK'
        rcases Nat.eq_zero_or_pos k with hk | hk
        · refine of_step (ops := #[]) (E := False) rfl (step_append_none rfl _ _ rfl (some A) 0 0 (Nat.le_refl _) hA ga 0 (by rw [hk] at h8; exact h8) ?_)
          exact HK'.out _ _ ⟨.slice (some A) 0 0, rfl, hW, gt_same _ _ _, .inl ⟨hk, A, rfl⟩⟩
        · obtain ⟨g0, rfl⟩ : ∃ g0, ga = some ⟨g0, 0, none⟩ := by
            obtain ⟨g, cap, e, _⟩ := hW.1.row.form hk
            injection e with e
            exact ⟨g, e⟩
          refine of_step (ops := #[]) (E := False) rfl (step_all rfl _ _ rfl A hA w2.heap.size g0 k G hk hk11 h8 hW.1.row ?_)
          intro v10 w10 ho hg
          have hb := (Below.refl W.heap.size W).grown hg (Nat.le_refl _) (fun k hk => by cases hk)
          exact HK'.out _ _ ⟨v10, rfl, ⟨hW.1.call hb, Nat.le_trans hW.2 hb.size⟩, gt_below 9 hb, .inr ⟨hk, W, hW, hb, ho⟩⟩
      · -- 10

        refine wpOp_of rfl rfl ?_
        intro K' hK'
        have HK' : Hid _ := hK'
        clear hK'
        change Oper.wp _ ⟨_, _, _, _, _, _⟩ _ _ _ _
        dsimp only
        go_simp
        exact HK'.out _ _ ⟨.string s, rfl, hW, gt_same _ _ _, rfl⟩
      · -- 11
        have h10 : f 10 = .string s := HS.out 10 rfl (by simp [gbrk])
        refine wpOp_of rfl rfl ?_
        intro K' hK'
        have HK' : Hid _ := hK'
        clear hK'
        change Oper.wp _ ⟨_, _, _, _, _, _⟩ _ _ _ _
        dsimp only
        rw [h10]
        go_simp
        exact HK'.out _ _ ⟨.slice (some ⟨W.heap.size, 0, none⟩) 1 1, (by simp [upd, h10]), ⟨hW.1.alloc _, Nat.le_trans hW.2 (by simp)⟩, gt_below 11 ((Below.refl _ _).alloc (Nat.le_refl _) _), ⟨W.heap.size, hW.2, rfl, heap_alloc_new W _⟩⟩
      · -- 12
        have h9 : R9 w b1 b2 l L2 w2.heap.size (.slice ga k k) k G w7.heap.size (f 9) W := HS.out 9 rfl (by simp [gbrk])
        have h11 : R11 s w7.heap.size (f 11) W := HS.out 11 rfl (by simp [gbrk])
        obtain ⟨L, hL, h11v, hcell⟩ := h11
        refine wpOp_of rfl rfl ?_
        intro K' hK'
        have HK' : Hid _ := hK'
        clear hK'
        rcases h9 with ⟨hk, A, hA⟩ | ⟨hk, W0, hW0, hB, hO⟩
        · refine of_step (ops := #[]) (E := False) rfl (step_one rfl _ _ rfl A hA s L h11v hcell ?_)
          intro v11 w11 ho hg
          have hb := (Below.refl W.heap.size W).grown hg (Nat.le_refl _) (fun k hk => by cases hk)
          exact HK'.out _ _ ⟨v11, rfl, ⟨hW.1.call hb, Nat.le_trans hW.2 hb.size⟩, gt_12 _ _ _, (by
            have e := HZ.out hk
            show World.ownsRow _ _ _ _ _ _ _
            rw [hk, e]
            exact own_mono ho hW.2)⟩
        · refine of_step (ops := #[]) (E := False) rfl (step_more rfl _ _ rfl W0.heap.size k (f 9) G hk11 rfl hO s L h11v hcell hB.size ?_)
          intro v11 w11 ho hb
          have hb2 := hB.trans hb
          exact HK'.out _ _ ⟨v11, rfl, ⟨hW0.1.call hb2, Nat.le_trans hW0.2 hb2.size⟩, gt_12 _ _ _, own_mono ho hW0.2⟩
      · -- 13
        have h1 : f 1 = .string r2 := HS.out 1 rfl (by simp [gbrk])
        have h3 : f 3 = .string r1 := HS.out 3 rfl (by simp [gbrk])
        have h4 : f 4 = .int .i64 (m : Int) := HS.out 4 rfl (by simp [gbrk])
        have h6 : f 6 = .int .i64 (n : Int) := HS.out 6 rfl (by simp [gbrk])
        have h12 : R12 s k G w7.heap.size (f 12) W := HS.out 12 rfl (by simp [gbrk])
        refine wpOp_of rfl rfl ?_
        intro K' hK'
        have HK' : Hid _ := hK'
        clear hK'
        change Oper.wp _ ⟨_, _, _, _, _, _⟩ _ _ _ _
        dsimp only
        rw [h1, h3, h4, h6]
        go_simp
        go_at_call 7
        refine (CGA.out W (f 12) hW.1 h12).mono ?_
        rintro e wa ⟨rfl, hb⟩
        exact HK'.out _ _ ⟨.bool false, (by simp [upd, h1, h3, h4, h6]), ⟨hW.1.call hb, Nat.le_trans hW.2 hb.size⟩, gt_below 13 hb, rfl⟩
      · -- 14
        have h13 : f 13 = .bool false := HS.out 13 rfl (by simp [gbrk])
        refine wpOp_of rfl rfl ?_
        intro K' hK'
        have HK' : Hid _ := hK'
        clear hK'
        change Oper.wp _ ⟨_, _, _, _, _, _⟩ _ _ _ _
        dsimp only
        rw [h13]
        go_simp
        exact HK'.out _ _ ⟨.bool true, (by simp [upd, h13]), hW, gt_same _ _ _, rfl⟩
      · -- 15

        refine wpOp_of rfl rfl ?_
        intro K' hK'
        have HK' : Hid _ := hK'
        clear hK'
        change Oper.wp _ ⟨_, _, _, _, _, _⟩ _ _ _ _
        dsimp only
        go_simp
        have h14 : f 14 = .bool true := HS.out 14 rfl (by simp [gbrk])
        exact HK'.out _ _ ⟨f 14, rfl, hW, gt_same _ _ _, h14⟩
      · -- 16
        have h15 : f 15 = .bool true := HS.out 15 rfl (by simp [gbrk])
        refine wpOp_yes rfl (wanted_of (d := 82) rfl rfl (congrArg some h15)) ?_
        clear h15
        intro K' hK'
        have HK' : Hid _ := hK'
        clear hK'
        change Oper.wp _ ⟨_, _, _, _, _, _⟩ _ _ _ _
        dsimp only
        go_simp
        exact HK'.out _ _ ⟨.slice ga k k, rfl, hW, gt_same _ _ _, rfl⟩
      · -- 17
        have h16 : f 16 = .slice ga k k := HS.out 16 rfl (by simp [gbrk])
        have h15 : f 15 = .bool true := HS.out 15 rfl (by simp [gbrk])
        refine wpOp_yes rfl (wanted_of (d := 82) rfl rfl (congrArg some h15)) ?_
        clear h15
        intro K' hK'
        have HK' : Hid _ := hK'
        clear hK'
        change Oper.wp _ ⟨_, _, _, _, _, _⟩ _ _ _ _
        dsimp only
        rw [h16]
        go_simp
        exact HK'.out _ _ ⟨.int .i64 (k : Int), (by simp [upd, h16]), hW, gt_same _ _ _, rfl⟩
      · -- 18
        have h17 : f 17 = .int .i64 (k : Int) := HS.out 17 rfl (by simp [gbrk])
        have h15 : f 15 = .bool true := HS.out 15 rfl (by simp [gbrk])
        have qz : k = 0 → ((k : Int) == 0) = true := fun h => (by rw [h]; rfl)
        have qn : 0 < k → ((k : Int) == 0) = false := fun h => (by rw [beq_eq_false_iff_ne]; omega)
        refine wpOp_yes rfl (wanted_of (d := 82) rfl rfl (congrArg some h15)) ?_
        clear h15
        intro K' hK'
        have HK' : Hid _ := hK'
        clear hK'
        change Oper.wp _ ⟨_, _, _, _, _, _⟩ _ _ _ _
        dsimp only
        rw [h17]
        rcases Nat.eq_zero_or_pos k with hk | hk
        · have q1 := qz hk
          have q1' : (k : Int) = 0 := by omega
          go_simp
          exact HK'.out _ _ ⟨.bool true, (by simp [upd, h17, hk]), hW, gt_same _ _ _, (if_pos hk).symm⟩
        · have q1 := qn hk
          have q1' : ¬ (k : Int) = 0 := by omega
          have q2' : ¬ k = 0 := by omega
          go_simp
          exact HK'.out _ _ ⟨.bool false, (by simp [upd, h17]), hW, gt_same _ _ _, (if_neg (by omega)).symm⟩
      · -- 19
        have h15 : f 15 = .bool true := HS.out 15 rfl (by simp [gbrk])
        refine wpOp_yes rfl (wanted_of (d := 82) rfl rfl (congrArg some h15)) ?_
        clear h15
        intro K' hK'
        have HK' : Hid _ := hK'
        clear hK'
        change Oper.wp _ ⟨_, _, _, _, _, _⟩ _ _ _ _
        dsimp only
        go_simp
        have h18 : f 18 = if k = 0 then .bool true else .bool false := HS.out 18 rfl (by simp [gbrk])
        exact HK'.out _ _ ⟨f 18, rfl, hW, gt_same _ _ _, h18⟩
      · -- 20
        have h19 : f 19 = if k = 0 then .bool true else .bool false := HS.out 19 rfl (by simp [gbrk])
        rcases Nat.eq_zero_or_pos k with hk | hk
        · rw [if_pos hk] at h19
          refine wpOp_no rfl (unwanted_of (d := 86) (b' := true) (by decide) rfl rfl (congrArg some h19)) ?_
          exact ⟨undef, rfl, hW, gt_same _ _ _, (if_pos hk).symm⟩
        · rw [if_neg (by omega)] at h19
          refine wpOp_yes rfl (wanted_of (d := 86) rfl rfl (congrArg some h19)) ?_
          clear h19
          intro K' hK'
          have HK' : Hid _ := hK'
          clear hK'
          change Oper.wp _ ⟨_, _, _, _, _, _⟩ _ _ _ _
          dsimp only
          go_simp
          exact HK'.out _ _ ⟨.pointer (some ⟨b2, 0, none⟩), rfl, hW, gt_same _ _ _, (if_neg (by omega)).symm⟩
      · -- 21
        have h20 : f 20 = if k = 0 then undef else .pointer (some ⟨b2, 0, none⟩) := HS.out 20 rfl (by simp [gbrk])
        have h19 : f 19 = if k = 0 then .bool true else .bool false := HS.out 19 rfl (by simp [gbrk])
        rcases Nat.eq_zero_or_pos k with hk | hk
        · rw [if_pos hk] at h19
          refine wpOp_no rfl (unwanted_of (d := 86) (b' := true) (by decide) rfl rfl (congrArg some h19)) ?_
          exact ⟨undef, rfl, hW, gt_same _ _ _, (if_pos hk).symm⟩
        · rw [if_neg (by omega)] at h20 h19
          refine wpOp_yes rfl (wanted_of (d := 86) rfl rfl (congrArg some h19)) ?_
          clear h19
          intro K' hK'
          have HK' : Hid _ := hK'
          clear hK'
          change Oper.wp _ ⟨_, _, _, _, _, _⟩ _ _ _ _
          dsimp only
          rw [h20]
          go_simp
          go_at_call 8
          refine (CA.out W hW).mono ?_
          rintro e wa ⟨rfl, hC', hKp⟩
          exact HK'.out _ _ ⟨.string r2, (by simp [upd, h20]), hC', gt_kp 21 (by omega) hKp, (if_neg (by omega)).symm⟩
      · -- 22
        have h19 : f 19 = if k = 0 then .bool true else .bool false := HS.out 19 rfl (by simp [gbrk])
        rcases Nat.eq_zero_or_pos k with hk | hk
        · rw [if_pos hk] at h19
          refine wpOp_no rfl (unwanted_of (d := 86) (b' := true) (by decide) rfl rfl (congrArg some h19)) ?_
          exact ⟨undef, rfl, hW, gt_same _ _ _, (if_pos hk).symm⟩
        · rw [if_neg (by omega)] at h19
          refine wpOp_yes rfl (wanted_of (d := 86) rfl rfl (congrArg some h19)) ?_
          clear h19
          intro K' hK'
          have HK' : Hid _ := hK'
          clear hK'
          change Oper.wp _ ⟨_, _, _, _, _, _⟩ _ _ _ _
          dsimp only
          go_simp
          exact HK'.out _ _ ⟨.pointer (some ⟨b1, 0, none⟩), rfl, hW, gt_same _ _ _, (if_neg (by omega)).symm⟩
      · -- 23
        have h22 : f 22 = if k = 0 then undef else .pointer (some ⟨b1, 0, none⟩) := HS.out 22 rfl (by simp [gbrk])
        have h19 : f 19 = if k = 0 then .bool true else .bool false := HS.out 19 rfl (by simp [gbrk])
        rcases Nat.eq_zero_or_pos k with hk | hk
        · rw [if_pos hk] at h19
          refine wpOp_no rfl (unwanted_of (d := 86) (b' := true) (by decide) rfl rfl (congrArg some h19)) ?_
          exact ⟨undef, rfl, hW, gt_same _ _ _, (if_pos hk).symm⟩
        · rw [if_neg (by omega)] at h22 h19
          refine wpOp_yes rfl (wanted_of (d := 86) rfl rfl (congrArg some h19)) ?_
          clear h19
          intro K' hK'
          have HK' : Hid _ := hK'
          clear hK'
          change Oper.wp _ ⟨_, _, _, _, _, _⟩ _ _ _ _
          dsimp only
          rw [h22]
          go_simp
          go_at_call 8
          refine (CB.out W hW).mono ?_
          rintro e wa ⟨rfl, hC', hKp⟩
          exact HK'.out _ _ ⟨.string r1, (by simp [upd, h22]), hC', gt_kp 23 (by omega) hKp, (if_neg (by omega)).symm⟩
      · -- 24
        have h19 : f 19 = if k = 0 then .bool true else .bool false := HS.out 19 rfl (by simp [gbrk])
        rcases Nat.eq_zero_or_pos k with hk | hk
        · rw [if_pos hk] at h19
          refine wpOp_no rfl (unwanted_of (d := 86) (b' := true) (by decide) rfl rfl (congrArg some h19)) ?_
          exact ⟨undef, rfl, hW, gt_same _ _ _, (if_pos hk).symm⟩
        · rw [if_neg (by omega)] at h19
          refine wpOp_yes rfl (wanted_of (d := 86) rfl rfl (congrArg some h19)) ?_
          clear h19
          intro K' hK'
          have HK' : Hid _ := hK'
          clear hK'
          change Oper.wp _ ⟨_, _, _, _, _, _⟩ _ _ _ _
          dsimp only
          go_simp
          exact HK'.out _ _ ⟨.int .i64 (m : Int), rfl, hW, gt_same _ _ _, (if_neg (by omega)).symm⟩
      · -- 25
        have h19 : f 19 = if k = 0 then .bool true else .bool false := HS.out 19 rfl (by simp [gbrk])
        rcases Nat.eq_zero_or_pos k with hk | hk
        · rw [if_pos hk] at h19
          refine wpOp_no rfl (unwanted_of (d := 86) (b' := true) (by decide) rfl rfl (congrArg some h19)) ?_
          exact ⟨undef, rfl, hW, gt_same _ _ _, (if_pos hk).symm⟩
        · rw [if_neg (by omega)] at h19
          refine wpOp_yes rfl (wanted_of (d := 86) rfl rfl (congrArg some h19)) ?_
          clear h19
          intro K' hK'
          have HK' : Hid _ := hK'
          clear hK'
          change Oper.wp _ ⟨_, _, _, _, _, _⟩ _ _ _ _
          dsimp only
          go_simp
          exact HK'.out _ _ ⟨.slice a n c, rfl, hW, gt_same _ _ _, (if_neg (by omega)).symm⟩
      · -- 26
        have h25 : f 25 = if k = 0 then undef else .slice a n c := HS.out 25 rfl (by simp [gbrk])
        have h19 : f 19 = if k = 0 then .bool true else .bool false := HS.out 19 rfl (by simp [gbrk])
        rcases Nat.eq_zero_or_pos k with hk | hk
        · rw [if_pos hk] at h19
          refine wpOp_no rfl (unwanted_of (d := 86) (b' := true) (by decide) rfl rfl (congrArg some h19)) ?_
          exact ⟨undef, rfl, hW, gt_same _ _ _, (if_pos hk).symm⟩
        · rw [if_neg (by omega)] at h25 h19
          refine wpOp_yes rfl (wanted_of (d := 86) rfl rfl (congrArg some h19)) ?_
          clear h19
          intro K' hK'
          have HK' : Hid _ := hK'
          clear hK'
          change Oper.wp _ ⟨_, _, _, _, _, _⟩ _ _ _ _
          dsimp only
          rw [h25]
          go_simp
          exact HK'.out _ _ ⟨.int .i64 (n : Int), (by simp [upd, h25]), hW, gt_same _ _ _, (if_neg (by omega)).symm⟩
      · -- 27
        have h19 : f 19 = if k = 0 then .bool true else .bool false := HS.out 19 rfl (by simp [gbrk])
        rcases Nat.eq_zero_or_pos k with hk | hk
        · rw [if_pos hk] at h19
          refine wpOp_no rfl (unwanted_of (d := 86) (b' := true) (by decide) rfl rfl (congrArg some h19)) ?_
          exact ⟨undef, rfl, hW, gt_same _ _ _, (if_pos hk).symm⟩
        · rw [if_neg (by omega)] at h19
          refine wpOp_yes rfl (wanted_of (d := 86) rfl rfl (congrArg some h19)) ?_
          clear h19
          intro K' hK'
          have HK' : Hid _ := hK'
          clear hK'
          change Oper.wp _ ⟨_, _, _, _, _, _⟩ _ _ _ _
          dsimp only
          go_simp
          exact HK'.out _ _ ⟨.slice ga k k, rfl, hW, gt_same _ _ _, (if_neg (by omega)).symm⟩
      · -- 28
        have h27 : f 27 = if k = 0 then undef else .slice ga k k := HS.out 27 rfl (by simp [gbrk])
        have h19 : f 19 = if k = 0 then .bool true else .bool false := HS.out 19 rfl (by simp [gbrk])
        rcases Nat.eq_zero_or_pos k with hk | hk
        · rw [if_pos hk] at h19
          refine wpOp_no rfl (unwanted_of (d := 86) (b' := true) (by decide) rfl rfl (congrArg some h19)) ?_
          exact ⟨undef, rfl, hW, gt_same _ _ _, .inl ⟨hk, rfl⟩⟩
        · rw [if_neg (by omega)] at h27 h19
          refine wpOp_yes rfl (wanted_of (d := 86) rfl rfl (congrArg some h19)) ?_
          clear h19
          obtain ⟨g0, rfl⟩ : ∃ g0, ga = some ⟨g0, 0, none⟩ := by
            obtain ⟨g, cap, e, _⟩ := hW.1.row.form hk
            injection e with e
            exact ⟨g, e⟩
          have HD1' := HD1.out
          intro K' hK'
          have HK' : Hid _ := hK'
          clear hK'
          change Oper.wp _ ⟨_, _, _, _, _, _⟩ _ _ _ _
          dsimp only
          rw [h27]
          obtain ⟨j, rfl⟩ : ∃ j, k = j + 1 := ⟨k - 1, by omega⟩
          by_cases hj : j = 0
          · subst hj
            go_simp
            exact HK'.out _ _ ⟨.slice (some ⟨g0, 0, none⟩) 0 0, (by simp [upd, h27]), hW, gt_same _ _ _, .inr ⟨hk, some ⟨g0, 0, none⟩, rfl, fun W hW => (by rw [HD0.out rfl]; exact .inl ⟨rfl, _, _, rfl⟩)⟩⟩
          · have HH : Hid _ := HD1'
            clear HD1'
            have qj : (1 : Int) ≤ (j : Int) + 1 := by omega
            go_simp
            exact HK'.out _ _ ⟨.slice (some ⟨g0, 1, none⟩) j j, (by simp [upd, h27]), hW, gt_same _ _ _, .inr ⟨hk, some ⟨g0, 1, none⟩, rfl, fun W hW => HH.out W g0 rfl hW (by omega)⟩⟩
      · -- 29
        have h21 : f 21 = if k = 0 then undef else .string r2 := HS.out 21 rfl (by simp [gbrk])
        have h23 : f 23 = if k = 0 then undef else .string r1 := HS.out 23 rfl (by simp [gbrk])
        have h24 : f 24 = if k = 0 then undef else .int .i64 (m : Int) := HS.out 24 rfl (by simp [gbrk])
        have h26 : f 26 = if k = 0 then undef else .int .i64 (n : Int) := HS.out 26 rfl (by simp [gbrk])
        have h28 : R28 w b1 b2 l L2 w2.heap.size (.slice ga k k) k G (f 28) := HS.out 28 rfl (by simp [gbrk])
        have h19 : f 19 = if k = 0 then .bool true else .bool false := HS.out 19 rfl (by simp [gbrk])
        rcases Nat.eq_zero_or_pos k with hk | hk
        · rw [if_pos hk] at h19
          refine wpOp_no rfl (unwanted_of (d := 86) (b' := true) (by decide) rfl rfl (congrArg some h19)) ?_
          exact ⟨undef, rfl, hW, gt_same _ _ _, (if_pos hk).symm⟩
        · rw [if_neg (by omega)] at h21 h23 h24 h26 h19
          refine wpOp_yes rfl (wanted_of (d := 86) rfl rfl (congrArg some h19)) ?_
          clear h19
          intro K' hK'
          have HK' : Hid _ := hK'
          clear hK'
          change Oper.wp _ ⟨_, _, _, _, _, _⟩ _ _ _ _
          dsimp only
          rw [h21, h23, h24, h26]
          go_simp
          go_at_call 7
          refine (CGD.out W (f 28) hk hW.1 h28).mono ?_
          rintro e wa ⟨rfl, hb⟩
          exact HK'.out _ _ ⟨.bool false, (by simp [upd, h21, h23, h24, h26]), ⟨hW.1.call hb, Nat.le_trans hW.2 hb.size⟩, gt_below 29 hb, (if_neg (by omega)).symm⟩
      · -- 30
        have h29 : f 29 = if k = 0 then undef else .bool false := HS.out 29 rfl (by simp [gbrk])
        have h19 : f 19 = if k = 0 then .bool true else .bool false := HS.out 19 rfl (by simp [gbrk])
        rcases Nat.eq_zero_or_pos k with hk | hk
        · rw [if_pos hk] at h19
          refine wpOp_no rfl (unwanted_of (d := 86) (b' := true) (by decide) rfl rfl (congrArg some h19)) ?_
          exact ⟨undef, rfl, hW, gt_same _ _ _, (if_pos hk).symm⟩
        · rw [if_neg (by omega)] at h29 h19
          refine wpOp_yes rfl (wanted_of (d := 86) rfl rfl (congrArg some h19)) ?_
          clear h19
          intro K' hK'
          have HK' : Hid _ := hK'
          clear hK'
          change Oper.wp _ ⟨_, _, _, _, _, _⟩ _ _ _ _
          dsimp only
          rw [h29]
          go_simp
          exact HK'.out _ _ ⟨.bool true, (by simp [upd, h29]), hW, gt_same _ _ _, (if_neg (by omega)).symm⟩
      · -- 31
        have h19 : f 19 = if k = 0 then .bool true else .bool false := HS.out 19 rfl (by simp [gbrk])
        have h30 : f 30 = if k = 0 then undef else .bool true := HS.out 30 rfl (by simp [gbrk])
        have h15 : f 15 = .bool true := HS.out 15 rfl (by simp [gbrk])
        refine wpOp_yes rfl (wanted_of (d := 82) rfl rfl (congrArg some h15)) ?_
        clear h15
        intro K' hK'
        have HK' : Hid _ := hK'
        clear hK'
        change Oper.wp _ ⟨_, _, _, _, _, _⟩ _ _ _ _
        dsimp only
        rcases Nat.eq_zero_or_pos k with hk | hk
        · rw [if_pos hk] at h19
          clear h30
          rw [h19]
          go_simp
          exact HK'.out _ _ ⟨.bool true, (by simp [upd, h19, hk]), hW, gt_same _ _ _, rfl⟩
        · rw [if_neg (by omega)] at h19 h30
          rw [h19, h30]
          go_simp
          exact HK'.out _ _ ⟨.bool true, (by simp [upd, h19, h30]), hW, gt_same _ _ _, rfl⟩
      · -- 32
        have h15 : f 15 = .bool true := HS.out 15 rfl (by simp [gbrk])
        have h31 : f 31 = .bool true := HS.out 31 rfl (by simp [gbrk])
        refine wpOp_of rfl rfl ?_
        intro K' hK'
        have HK' : Hid _ := hK'
        clear hK'
        change Oper.wp _ ⟨_, _, _, _, _, _⟩ _ _ _ _
        dsimp only
        rw [h15, h31]
        go_simp
        exact HK'.out _ _ ⟨.bool true, (by simp [upd, h15, h31]), hW, gt_same _ _ _, rfl⟩
      · -- 33

        refine wpOp_of rfl rfl ?_
        intro K' hK'
        have HK' : Hid _ := hK'
        clear hK'
        change Oper.wp _ ⟨_, _, _, _, _, _⟩ _ _ _ _
        dsimp only
        go_simp
        have h32 : f 32 = .bool true := HS.out 32 rfl (by simp [gbrk])
        exact HK'.out _ _ ⟨f 32, rfl, hW, gt_same _ _ _, h32⟩
  case rest =>
    obtain ⟨rfl, FIN⟩ := hcut
    go_wp2
    go_ret
    exact ⟨rfl, FIN.out⟩
end Go.Proofs.YtoldfepeldbcpaaDoor
