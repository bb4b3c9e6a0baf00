/- The greatest power of 2 below a number; the turns to a text, and to what was there. -/
import Derived.Test.YtoldfepeldbcpaaDoorMkB
import Derived.Test.YtoldfepeldbcpaaDoorShelf
namespace Go.Proofs.YtoldfepeldbcpaaDoor
open Go.RowKit
theorem bitLen_log : ∀ x : Fin 1024, x.val = 0 ∨ Lib.bitLen x.val = Nat.log2 x.val + 1 := by decide +kernel
theorem log_le : ∀ x : Fin 1024, Nat.log2 x.val ≤ 9 := by decide +kernel
theorem pow_wrap : ∀ k : Fin 10, wrap64 ((2 : Int) ^ k.val) = ((2 ^ k.val : Nat) : Int) := by decide +kernel
set_option maxHeartbeats 1000000 in
theorem half_c (n : Nat) (h2 : 2 ≤ n) (hn : n ≤ 1024) (w : World) :
    Calls Tryd.prog 39 #[.int .i64 (n : Int)] w fun e w' => e = .returned (.int .i64 ((Mk.half n : Nat) : Int)) ∧ w = w' := by
  obtain ⟨k, hk⟩ : ∃ k, k = Nat.log2 (n - 1) := ⟨_, rfl⟩
  have hk9 : k ≤ 9 := by rw [hk]; exact log_le ⟨n - 1, by omega⟩
  have hb : Lib.bitLen (n - 1) = k + 1 := by
    have := bitLen_log ⟨n - 1, by omega⟩
    rw [hk]; rcases this with h | h
    · simp at h; omega
    · exact h
  have C : Hid (∀ W, Calls Tryd.prog 58 #[.int .u64 ((n : Int) - 1)] W fun e w' => e = .returned (.int .i64 ((k : Int) + 1)) ∧ W = w') := fun W =>
    (Tryd.bits_Len ((n : Int) - 1) W (by omega) (by omega)).mono (fun e w' h => by
      rw [show ((n : Int) - 1).toNat = n - 1 by omega, hb] at h
      exact ⟨h.1.trans (by simp), h.2.symm⟩)
  have HH : Hid (Mk.half n = 2 ^ k) := by show _ = _; rw [Mk.half, hk]
  clear hk hb
  go_enter Tryd.func39, Tryd.ntmps39
  go_wp2_with fail
  refine (C.out _).mono ?_
  rintro e w1 ⟨rfl, rfl⟩
  go_wp2
  go_ret
  refine ⟨?_, rfl⟩
  rw [HH.out]
  exact congrArg (fun z => Ending.returned (.int .i64 z)) (pow_wrap ⟨k, by omega⟩)
/-- cells of turns -/
def bcs (l : List Bool) : List Value := l.map Value.bool
theorem bcs_length (l : List Bool) : (bcs l).length = l.length := by simp [bcs]
theorem info4 : (Tryd.prog.info? 4).map (fun i => (i.zero, i.size, i.bytes)) = some (some (.bool false), 1, 1) := by kernel_rfl
theorem own_le {w : World} {base n t sz : Nat} {v : Value} {xs : List Value} (h : w.ownsRow base t sz v n xs) : ∀ k, v.ownBlock = some k → base ≤ k := by
  intro k hk
  rcases h.2 with ⟨rfl, _⟩ | ⟨g, cap, cur, rfl, hg, _⟩
  · simp [Value.ownBlock] at hk
  · simp [Value.ownBlock] at hk; omega
/-- turns that are owned, as turns in a row -/
theorem own_bl {w : World} {base : Nat} {v : Value} {l : List Bool} (h : w.ownsRow base 4 1 v l.length (bcs l)) : Bl w w.heap.size v l := by
  rcases h.2 with ⟨rfl, h2⟩ | ⟨g, cap, cur, rfl, hg, hc, h3, h4, h5, h6⟩
  · exact ⟨.inl ⟨List.eq_nil_of_length_eq_zero h2, none, 0, rfl⟩, fun ad n c e => by cases e⟩
  · refine ⟨.inr ⟨g, 0, cap, rfl, (Array.getElem?_eq_some_iff.1 hc).1, fun k x hk => ?_⟩, fun ad n c e => ⟨g, 0, by injection e with e; injection e with e; exact e.symm⟩⟩
    have hkl := (List.getElem?_eq_some_iff.1 hk).1
    rw [Nat.zero_add, h.cellAt k (by omega)]
    simp [bcs, hk]
theorem toTextend_c (m n : Int) (w : World) : Calls Tryd.prog 49 #[.int .i64 m, .int .i64 n] w fun e w' => e = .returned (.bool (n == 1)) ∧ w = w' := by
  go_enter Tryd.func49, Tryd.ntmps49
  go_wp2
  go_ret
  exact ⟨rfl, rfl⟩
theorem toElderend_c (m n : Int) (w : World) : Calls Tryd.prog 35 #[.int .i64 m, .int .i64 n] w fun e w' => e = .returned (.bool (m == n)) ∧ w = w' := by
  go_enter Tryd.func35, Tryd.ntmps35
  go_wp2
  go_ret
  exact ⟨rfl, rfl⟩
set_option maxHeartbeats 4000000 in
theorem turns1_c (m n : Nat) (h1 : 1 ≤ m) (h2 : m ≤ n) (h3 : n ≤ 1024) (w : World) :
    Calls Tryd.prog 34 #[.int .i64 (m : Int), .int .i64 (n : Int), .func (.func 49) #[] #[]] w fun e w' => ∃ v, e = .returned v ∧ w'.ownsRow w.heap.size 4 1 v (Mk.tw Mk.e1 m n).length (bcs (Mk.tw Mk.e1 m n)) ∧ Below w.heap.size w w' := by
  obtain ⟨i0, hi, hz0, hz1, hz2⟩ := info_parts info4
  have hlen : (Mk.tw Mk.e1 m n).length ≤ 10 := Mk.tw_len Mk.e1 10 m n (by omega)
  obtain ⟨tot, htot⟩ : ∃ tot, tot = Mk.tw Mk.e1 m n := ⟨_, rfl⟩
  rw [← htot] at hlen ⊢
  have HT : Hid (tot = Mk.tw Mk.e1 m n) := htot
  have HLEN : Hid (tot.length ≤ 10) := hlen
  clear htot hlen
  have HEND : Hid (∀ x y : Nat, ∀ W, Calls Tryd.prog 49 #[.int .i64 (x : Int), .int .i64 (y : Int)] W fun e w' => e = .returned (.bool (Mk.e1 x y)) ∧ W = w') := by
    intro x y W
    refine (toTextend_c x y W).mono fun e w' h => ?_
    rw [show ((y : Int) == 1) = Mk.e1 x y by rw [Mk.e1, Bool.eq_iff_iff]; simp; omega] at h
    exact h
  have HY2 : Hid (∀ x y : Nat, 1 ≤ x → x ≤ y → Mk.e1 x y = false → 2 ≤ y) := by
    intro x y q1 q2 q3
    simp [Mk.e1] at q3; omega
  go_enter Tryd.func34, Tryd.ntmps34
  go_wp2
  go_loopw [0, 1, 7] (fun a b v wr => ∃ (x y : Nat) (don : List Bool), a = .int .i64 (x : Int) ∧ b = .int .i64 (y : Int) ∧ 1 ≤ x ∧ x ≤ y ∧ y ≤ 1024 ∧ Hid (tot = don ++ Mk.tw _ x y) ∧ wr.ownsRow w.heap.size 4 1 v don.length (bcs don) ∧ Below w.heap.size w wr) (fun _ b _ _ => (intOf b).toNat)
  case atStart => exact ⟨m, n, [], rfl, rfl, h1, h2, h3, HT.out, ⟨rfl, .inl ⟨rfl, rfl⟩⟩, Below.refl _ _⟩
  case round =>
    obtain ⟨x, y, don, rfl, rfl, g1, g2, g3, gt, hown, hnx⟩ := hrel
    obtain ⟨b, hb⟩ : ∃ b, b = Mk.e1 x y := ⟨_, rfl⟩
    have CE : Hid (∀ W, Calls Tryd.prog 49 #[.int .i64 (x : Int), .int .i64 (y : Int)] W fun e w' => e = .returned (.bool b) ∧ W = w') := fun W => by rw [hb]; exact HEND.out x y W
    cases b with
    | true =>
      have he : tot = don := by rw [gt.out, Mk.tw_end (.inr hb.symm), List.append_nil]
      have HE : Hid (tot = don) := he
      clear he gt hb
      go_wp2_with (go_at_call 49; refine (CE.out _).mono ?_; rintro e w' ⟨rfl, rfl⟩)
      go_ret
      exact ⟨_, rfl, by rw [HE.out]; exact hown, hnx⟩
    | false =>
      have hy2 : 2 ≤ y := HY2.out x y g1 g2 hb.symm
      obtain ⟨h, hh⟩ : ∃ h, h = Mk.half y := ⟨_, rfl⟩
      have hlt : h < y := by rw [hh]; exact Mk.half_lt hy2
      have hpos : 1 ≤ h := by rw [hh]; exact Mk.half_pos y
      have CH : Hid (∀ W, Calls Tryd.prog 39 #[.int .i64 (y : Int)] W fun e w' => e = .returned (.int .i64 (h : Int)) ∧ W = w') := fun W => by rw [hh]; exact half_c y hy2 g3 W
      by_cases hx : x ≤ h
      · have hxi : (x : Int) ≤ (h : Int) := by omega
        have hxb : decide ((x : Int) ≤ (h : Int)) = true := by simpa using hxi
        have hnext : tot = (don ++ [true]) ++ Mk.tw Mk.e1 x h := by rw [gt.out, Mk.tw_left hy2 hb.symm (by omega), ← hh]; simp
        have HNX : Hid (tot = (don ++ [true]) ++ Mk.tw Mk.e1 x h) := hnext
        have hd10 : don.length ≤ 9 := by have h9 := congrArg List.length hnext; have := HLEN.out; simp only [List.length_append, List.length_cons, List.length_nil] at h9; omega
        have HBS : Hid (∀ k, u7.ownBlock = some k → w.heap.size ≤ k) := own_le hown
        have HO : Hid (wr.ownsRow w.heap.size 4 1 u7 don.length (bcs don)) := hown
        have hsz := hnx.size
        clear hnext gt hb hh hown
        go_wp2_with (first | (go_at_call 49; refine (CE.out _).mono ?_; rintro e w' ⟨rfl, rfl⟩) | (go_at_call 39; refine (CH.out _).mono ?_; rintro e w' ⟨rfl, rfl⟩) | (at_builtin; refine wpList_append_own _ rfl _ _ 58 rfl w.heap.size 4 i0 (.bool false) 1 1 Tryd.underlying58 hi hz0 hz1 hz2 rfl (by decide) _ _ _ rfl (HO.out.alloc _) ⟨wr.heap.size, 0, none⟩ 1 1 [.bool true] rfl rfl (cell_new _ _ _) ?c2 ?c3 ?c4 ?c5 ?_))
        case c2 => intro u hu; simp at hu; subst hu; rfl
        case c3 => unfold maxLen; omega
        case c4 => omega
        case c5 => simp; omega
        · intro v' w1 hown' hgrow _
          have R1 : Hid (w1.ownsRow w.heap.size 4 1 v' (don ++ [true]).length (bcs (don ++ [true]))) := by
            show World.ownsRow _ _ _ _ _ _ _
            simpa [bcs] using hown'
          have R2 : Hid (Below w.heap.size w w1) := (hnx.alloc (by omega) _).grown hgrow (by simp; omega) HBS.out
          clear hown' hgrow hnx
          go_wp2
          go_roundw
          case rel => exact ⟨x, h, don ++ [true], rfl, rfl, g1, hx, by omega, HNX, R1.out, R2.out⟩
          case measure => simp [intOf]; omega
      · have hxi : ¬ (x : Int) ≤ (h : Int) := by omega
        have hxb : decide ((x : Int) ≤ (h : Int)) = false := by simpa using hxi
        obtain ⟨x2, hx2⟩ : ∃ x2 : Nat, (x : Int) - (h : Int) = (x2 : Int) ∧ x2 = x - h := ⟨x - h, by omega, rfl⟩
        obtain ⟨y2, hy3⟩ : ∃ y2 : Nat, (y : Int) - (h : Int) = (y2 : Int) ∧ y2 = y - h := ⟨y - h, by omega, rfl⟩
        have ex := hx2.1
        have ey := hy3.1
        have hnext : tot = (don ++ [false]) ++ Mk.tw Mk.e1 x2 y2 := by rw [gt.out, Mk.tw_right hy2 hb.symm (by omega), ← hh, hx2.2, hy3.2]; simp
        have HNX : Hid (tot = (don ++ [false]) ++ Mk.tw Mk.e1 x2 y2) := hnext
        have hd10 : don.length ≤ 9 := by have h9 := congrArg List.length hnext; have := HLEN.out; simp only [List.length_append, List.length_cons, List.length_nil] at h9; omega
        have r1 : 1 ≤ x2 := by omega
        have r2 : x2 ≤ y2 := by omega
        have r3 : y2 < y := by omega
        have HBS : Hid (∀ k, u7.ownBlock = some k → w.heap.size ≤ k) := own_le hown
        have HO : Hid (wr.ownsRow w.heap.size 4 1 u7 don.length (bcs don)) := hown
        have hsz := hnx.size
        clear hnext gt hb hh hown hx2 hy3
        go_wp2_with (first | (go_at_call 49; refine (CE.out _).mono ?_; rintro e w' ⟨rfl, rfl⟩) | (go_at_call 39; refine (CH.out _).mono ?_; rintro e w' ⟨rfl, rfl⟩) | (at_builtin; refine wpList_append_own _ rfl _ _ 58 rfl w.heap.size 4 i0 (.bool false) 1 1 Tryd.underlying58 hi hz0 hz1 hz2 rfl (by decide) _ _ _ rfl (HO.out.alloc _) ⟨wr.heap.size, 0, none⟩ 1 1 [.bool false] rfl rfl (cell_new _ _ _) ?c2 ?c3 ?c4 ?c5 ?_))
        case c2 => intro u hu; simp at hu; subst hu; rfl
        case c3 => unfold maxLen; omega
        case c4 => omega
        case c5 => simp; omega
        · intro v' w1 hown' hgrow _
          have R1 : Hid (w1.ownsRow w.heap.size 4 1 v' (don ++ [false]).length (bcs (don ++ [false]))) := by
            show World.ownsRow _ _ _ _ _ _ _
            simpa [bcs] using hown'
          have R2 : Hid (Below w.heap.size w w1) := (hnx.alloc (by omega) _).grown hgrow (by simp; omega) HBS.out
          clear hown' hgrow hnx
          go_wp2
          go_roundw
          case rel => exact ⟨x2, y2, don ++ [false], rfl, rfl, r1, r2, by omega, HNX, R1.out, R2.out⟩
          case measure => simp [intOf]; omega
set_option maxHeartbeats 4000000 in
theorem turns2_c (m n : Nat) (h1 : 1 ≤ m) (h2 : m ≤ n) (h3 : n ≤ 1024) (w : World) :
    Calls Tryd.prog 34 #[.int .i64 (m : Int), .int .i64 (n : Int), .func (.func 35) #[] #[]] w fun e w' => ∃ v, e = .returned v ∧ w'.ownsRow w.heap.size 4 1 v (Mk.tw Mk.e2 m n).length (bcs (Mk.tw Mk.e2 m n)) ∧ Below w.heap.size w w' := by
  obtain ⟨i0, hi, hz0, hz1, hz2⟩ := info_parts info4
  have hlen : (Mk.tw Mk.e2 m n).length ≤ 10 := Mk.tw_len Mk.e2 10 m n (by omega)
  obtain ⟨tot, htot⟩ : ∃ tot, tot = Mk.tw Mk.e2 m n := ⟨_, rfl⟩
  rw [← htot] at hlen ⊢
  have HT : Hid (tot = Mk.tw Mk.e2 m n) := htot
  have HLEN : Hid (tot.length ≤ 10) := hlen
  clear htot hlen
  have HEND : Hid (∀ x y : Nat, ∀ W, Calls Tryd.prog 35 #[.int .i64 (x : Int), .int .i64 (y : Int)] W fun e w' => e = .returned (.bool (Mk.e2 x y)) ∧ W = w') := by
    intro x y W
    refine (toElderend_c x y W).mono fun e w' h => ?_
    rw [show ((x : Int) == (y : Int)) = Mk.e2 x y by rw [Mk.e2, Bool.eq_iff_iff]; simp; omega] at h
    exact h
  have HY2 : Hid (∀ x y : Nat, 1 ≤ x → x ≤ y → Mk.e2 x y = false → 2 ≤ y) := by
    intro x y q1 q2 q3
    simp [Mk.e2] at q3; omega
  go_enter Tryd.func34, Tryd.ntmps34
  go_wp2
  go_loopw [0, 1, 7] (fun a b v wr => ∃ (x y : Nat) (don : List Bool), a = .int .i64 (x : Int) ∧ b = .int .i64 (y : Int) ∧ 1 ≤ x ∧ x ≤ y ∧ y ≤ 1024 ∧ Hid (tot = don ++ Mk.tw _ x y) ∧ wr.ownsRow w.heap.size 4 1 v don.length (bcs don) ∧ Below w.heap.size w wr) (fun _ b _ _ => (intOf b).toNat)
  case atStart => exact ⟨m, n, [], rfl, rfl, h1, h2, h3, HT.out, ⟨rfl, .inl ⟨rfl, rfl⟩⟩, Below.refl _ _⟩
  case round =>
    obtain ⟨x, y, don, rfl, rfl, g1, g2, g3, gt, hown, hnx⟩ := hrel
    obtain ⟨b, hb⟩ : ∃ b, b = Mk.e2 x y := ⟨_, rfl⟩
    have CE : Hid (∀ W, Calls Tryd.prog 35 #[.int .i64 (x : Int), .int .i64 (y : Int)] W fun e w' => e = .returned (.bool b) ∧ W = w') := fun W => by rw [hb]; exact HEND.out x y W
    cases b with
    | true =>
      have he : tot = don := by rw [gt.out, Mk.tw_end (.inr hb.symm), List.append_nil]
      have HE : Hid (tot = don) := he
      clear he gt hb
      go_wp2_with (go_at_call 35; refine (CE.out _).mono ?_; rintro e w' ⟨rfl, rfl⟩)
      go_ret
      exact ⟨_, rfl, by rw [HE.out]; exact hown, hnx⟩
    | false =>
      have hy2 : 2 ≤ y := HY2.out x y g1 g2 hb.symm
      obtain ⟨h, hh⟩ : ∃ h, h = Mk.half y := ⟨_, rfl⟩
      have hlt : h < y := by rw [hh]; exact Mk.half_lt hy2
      have hpos : 1 ≤ h := by rw [hh]; exact Mk.half_pos y
      have CH : Hid (∀ W, Calls Tryd.prog 39 #[.int .i64 (y : Int)] W fun e w' => e = .returned (.int .i64 (h : Int)) ∧ W = w') := fun W => by rw [hh]; exact half_c y hy2 g3 W
      by_cases hx : x ≤ h
      · have hxi : (x : Int) ≤ (h : Int) := by omega
        have hxb : decide ((x : Int) ≤ (h : Int)) = true := by simpa using hxi
        have hnext : tot = (don ++ [true]) ++ Mk.tw Mk.e2 x h := by rw [gt.out, Mk.tw_left hy2 hb.symm (by omega), ← hh]; simp
        have HNX : Hid (tot = (don ++ [true]) ++ Mk.tw Mk.e2 x h) := hnext
        have hd10 : don.length ≤ 9 := by have h9 := congrArg List.length hnext; have := HLEN.out; simp only [List.length_append, List.length_cons, List.length_nil] at h9; omega
        have HBS : Hid (∀ k, u7.ownBlock = some k → w.heap.size ≤ k) := own_le hown
        have HO : Hid (wr.ownsRow w.heap.size 4 1 u7 don.length (bcs don)) := hown
        have hsz := hnx.size
        clear hnext gt hb hh hown
        go_wp2_with (first | (go_at_call 35; refine (CE.out _).mono ?_; rintro e w' ⟨rfl, rfl⟩) | (go_at_call 39; refine (CH.out _).mono ?_; rintro e w' ⟨rfl, rfl⟩) | (at_builtin; refine wpList_append_own _ rfl _ _ 58 rfl w.heap.size 4 i0 (.bool false) 1 1 Tryd.underlying58 hi hz0 hz1 hz2 rfl (by decide) _ _ _ rfl (HO.out.alloc _) ⟨wr.heap.size, 0, none⟩ 1 1 [.bool true] rfl rfl (cell_new _ _ _) ?c2 ?c3 ?c4 ?c5 ?_))
        case c2 => intro u hu; simp at hu; subst hu; rfl
        case c3 => unfold maxLen; omega
        case c4 => omega
        case c5 => simp; omega
        · intro v' w1 hown' hgrow _
          have R1 : Hid (w1.ownsRow w.heap.size 4 1 v' (don ++ [true]).length (bcs (don ++ [true]))) := by
            show World.ownsRow _ _ _ _ _ _ _
            simpa [bcs] using hown'
          have R2 : Hid (Below w.heap.size w w1) := (hnx.alloc (by omega) _).grown hgrow (by simp; omega) HBS.out
          clear hown' hgrow hnx
          go_wp2
          go_roundw
          case rel => exact ⟨x, h, don ++ [true], rfl, rfl, g1, hx, by omega, HNX, R1.out, R2.out⟩
          case measure => simp [intOf]; omega
      · have hxi : ¬ (x : Int) ≤ (h : Int) := by omega
        have hxb : decide ((x : Int) ≤ (h : Int)) = false := by simpa using hxi
        obtain ⟨x2, hx2⟩ : ∃ x2 : Nat, (x : Int) - (h : Int) = (x2 : Int) ∧ x2 = x - h := ⟨x - h, by omega, rfl⟩
        obtain ⟨y2, hy3⟩ : ∃ y2 : Nat, (y : Int) - (h : Int) = (y2 : Int) ∧ y2 = y - h := ⟨y - h, by omega, rfl⟩
        have ex := hx2.1
        have ey := hy3.1
        have hnext : tot = (don ++ [false]) ++ Mk.tw Mk.e2 x2 y2 := by rw [gt.out, Mk.tw_right hy2 hb.symm (by omega), ← hh, hx2.2, hy3.2]; simp
        have HNX : Hid (tot = (don ++ [false]) ++ Mk.tw Mk.e2 x2 y2) := hnext
        have hd10 : don.length ≤ 9 := by have h9 := congrArg List.length hnext; have := HLEN.out; simp only [List.length_append, List.length_cons, List.length_nil] at h9; omega
        have r1 : 1 ≤ x2 := by omega
        have r2 : x2 ≤ y2 := by omega
        have r3 : y2 < y := by omega
        have HBS : Hid (∀ k, u7.ownBlock = some k → w.heap.size ≤ k) := own_le hown
        have HO : Hid (wr.ownsRow w.heap.size 4 1 u7 don.length (bcs don)) := hown
        have hsz := hnx.size
        clear hnext gt hb hh hown hx2 hy3
        go_wp2_with (first | (go_at_call 35; refine (CE.out _).mono ?_; rintro e w' ⟨rfl, rfl⟩) | (go_at_call 39; refine (CH.out _).mono ?_; rintro e w' ⟨rfl, rfl⟩) | (at_builtin; refine wpList_append_own _ rfl _ _ 58 rfl w.heap.size 4 i0 (.bool false) 1 1 Tryd.underlying58 hi hz0 hz1 hz2 rfl (by decide) _ _ _ rfl (HO.out.alloc _) ⟨wr.heap.size, 0, none⟩ 1 1 [.bool false] rfl rfl (cell_new _ _ _) ?c2 ?c3 ?c4 ?c5 ?_))
        case c2 => intro u hu; simp at hu; subst hu; rfl
        case c3 => unfold maxLen; omega
        case c4 => omega
        case c5 => simp; omega
        · intro v' w1 hown' hgrow _
          have R1 : Hid (w1.ownsRow w.heap.size 4 1 v' (don ++ [false]).length (bcs (don ++ [false]))) := by
            show World.ownsRow _ _ _ _ _ _ _
            simpa [bcs] using hown'
          have R2 : Hid (Below w.heap.size w w1) := (hnx.alloc (by omega) _).grown hgrow (by simp; omega) HBS.out
          clear hown' hgrow hnx
          go_wp2
          go_roundw
          case rel => exact ⟨x2, y2, don ++ [false], rfl, rfl, r1, r2, by omega, HNX, R1.out, R2.out⟩
          case measure => simp [intOf]; omega
set_option maxHeartbeats 1000000 in
theorem toText_c (i n : Nat) (hi : i < n) (hn : n ≤ 1024) (w : World) :
    Calls Tryd.prog 26 #[.int .i64 (i : Int), .int .i64 (n : Int)] w fun e w' => ∃ v, e = .returned v ∧ w'.ownsRow w.heap.size 4 1 v (Mk.tw Mk.e1 (i + 1) n).length (bcs (Mk.tw Mk.e1 (i + 1) n)) ∧ Below w.heap.size w w' := by
  obtain ⟨l, hl⟩ : ∃ l, l = Mk.tw Mk.e1 (i + 1) n := ⟨_, rfl⟩
  have C : Hid (∀ W, Calls Tryd.prog 34 #[.int .i64 ((i : Int) + 1), .int .i64 (n : Int), .func (.func 49) #[] #[]] W fun e w' => ∃ v, e = .returned v ∧ w'.ownsRow W.heap.size 4 1 v l.length (bcs l) ∧ Below W.heap.size W w') := fun W => by
    have := turns1_c (i + 1) n (by omega) (by omega) hn W
    rw [← hl] at this
    exact this
  rw [← hl]
  clear hl
  go_enter Tryd.func26, Tryd.ntmps26
  go_wp2_with fail
  refine (C.out _).mono ?_
  rintro e w1 ⟨v, rfl, ho, hb⟩
  have HO : Hid (w1.ownsRow w.heap.size 4 1 v l.length (bcs l)) := ho
  have HB : Hid (Below w.heap.size w w1) := hb
  clear ho hb
  go_wp2
  go_ret
  exact ⟨v, rfl, HO.out, HB.out⟩
set_option maxHeartbeats 1000000 in
theorem toElder_c (m n : Nat) (h1 : 1 ≤ m) (h2 : m ≤ n) (hn : n ≤ 1024) (w : World) :
    Calls Tryd.prog 18 #[.int .i64 (m : Int), .int .i64 (n : Int)] w fun e w' => ∃ v, e = .returned v ∧ w'.ownsRow w.heap.size 4 1 v (Mk.tw Mk.e2 m n).length (bcs (Mk.tw Mk.e2 m n)) ∧ Below w.heap.size w w' := by
  obtain ⟨l, hl⟩ : ∃ l, l = Mk.tw Mk.e2 m n := ⟨_, rfl⟩
  have C : Hid (∀ W, Calls Tryd.prog 34 #[.int .i64 (m : Int), .int .i64 (n : Int), .func (.func 35) #[] #[]] W fun e w' => ∃ v, e = .returned v ∧ w'.ownsRow W.heap.size 4 1 v l.length (bcs l) ∧ Below W.heap.size W w') := fun W => by
    have := turns2_c m n h1 h2 hn W
    rw [← hl] at this
    exact this
  rw [← hl]
  clear hl h1 h2 hn
  go_enter Tryd.func18, Tryd.ntmps18
  go_wp2_with fail
  refine (C.out _).mono ?_
  rintro e w1 ⟨v, rfl, ho, hb⟩
  have HO : Hid (w1.ownsRow w.heap.size 4 1 v l.length (bcs l)) := ho
  have HB : Hid (Below w.heap.size w w1) := hb
  clear ho hb
  go_wp2
  go_ret
  exact ⟨v, rfl, HO.out, HB.out⟩
end Go.Proofs.YtoldfepeldbcpaaDoor
