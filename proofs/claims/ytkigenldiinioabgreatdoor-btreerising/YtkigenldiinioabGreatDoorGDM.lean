/- Several texts, joined: BtA, BtB, BtC -/
import Derived.Test.YtkigenldiinioabGreatDoorGCM
import Derived.Test.YtkigenldiinioabGreatDoorGAM
import Derived.Deep.QuietTactic
/- How many keys levels have room for, on how many levels keys find room: walked. -/
namespace Go.Proofs.YtkigenldiinioabGreatDoor
open Go.RowKit
open Vl (V)
attribute [local go_sem ↓] Go.wp_at_zero Go.wp_at_succ
theorem cells_at {W : World} {g : Nat} {cs : Array Value} {t : TypeId} {q : Nat × Nat} (h : W.heap[g]? = some (.cells cs t q)) (i : Nat) (v : Value) (hi : cs[i]? = some v) : W.cell? ⟨g, i, none⟩ = some v := by
  simp [World.cell?, h, hi]
theorem Bt.room_small {k : Nat} (h : k ≤ 20) : Bt.room k ≤ 1099511627775 := Nat.le_trans (Bt.room_mono h) (by decide)
theorem Bt.wr {x : Int} {c : Nat} (h : x = (c : Int)) (hc : c ≤ 4611686018427387904) : IntKind.i64.wrap x = (c : Int) ∧ wrap64 x = (c : Int) := by
  subst h
  exact ⟨by rw [IntKind.wrap_i64]; omega, by unfold wrap64; omega⟩
set_option maxHeartbeats 4000000 in
theorem room_c (k : Nat) (hk : k ≤ 20) (w : World) : Calls Tryz.prog 55 #[.int .i64 (k : Int)] w fun e w' => e = .returned (.int .i64 (Bt.room k : Int)) ∧ w' = w := by
  go_enter Tryz.func55, Tryz.ntmps55
  go_wp2
  go_loopw [3, 5] (fun v i wr => ∃ (j r : Nat), v = .int .i64 (r : Int) ∧ i = .int .i64 (j : Int) ∧ j ≤ k ∧ r = Bt.room j ∧ wr = w) (fun _ i _ => k - (intOf i).toNat)
  case atStart => exact ⟨0, 0, rfl, rfl, Nat.zero_le _, rfl, rfl⟩
  case round =>
    obtain ⟨j, r, rfl, rfl, hj, hr, rfl⟩ := hrel
    have HR : Hid (r = Bt.room j) := hr
    clear hr
    by_cases hlt : j < k
    · have q1 : (j : Int) < (k : Int) := by omega
      obtain ⟨m, hm⟩ : ∃ m, m = 4 * r := ⟨_, rfl⟩
      obtain ⟨x, hx⟩ : ∃ x, x = 3 + m := ⟨_, rfl⟩
      have hb : r ≤ 1099511627775 := by rw [HR.out]; exact Bt.room_small (by omega)
      obtain ⟨v1, v2⟩ : IntKind.i64.wrap (4 * (r : Int)) = (m : Int) ∧ wrap64 (4 * (r : Int)) = (m : Int) := Bt.wr (by omega) (by omega)
      obtain ⟨v3, v4⟩ : IntKind.i64.wrap (3 + (m : Int)) = (x : Int) ∧ wrap64 (3 + (m : Int)) = (x : Int) := Bt.wr (by omega) (by omega)
      have HX : Hid (x = Bt.room (j + 1)) := by show _ = _; rw [hx, hm, HR.out, Bt.room]
      clear hm hx hb
      go_wp2
      go_roundw
      case rel => exact ⟨j + 1, x, rfl, by go_num, hlt, HX.out, trivial⟩
      case measure => simp [intOf]; omega
    · have q1 : ¬ (j : Int) < (k : Int) := by omega
      have hjk : j = k := by omega
      subst hjk
      go_wp2
      go_ret
      exact ⟨by rw [HR.out]; rfl, rfl⟩
set_option maxHeartbeats 4000000 in
theorem fewest_c (n : Nat) (hn : n ≤ 1000000) (w : World) : Calls Tryz.prog 27 #[.int .i64 (n : Int)] w fun e w' => e = .returned (.int .i64 (Bt.fewest n : Int)) ∧ w' = w := by
  have h10 : Bt.fewest n ≤ 10 := (Bt.fewest_le 10 n).2 (Nat.le_trans hn (by decide))
  obtain ⟨f, hf⟩ : ∃ f, f = Bt.fewest n := ⟨_, rfl⟩
  rw [← hf] at h10 ⊢
  have HF : Hid (f = Bt.fewest n) := hf
  clear hf
  go_enter Tryz.func27, Tryz.ntmps27
  go_wp2
  go_loopw [3] (fun v wr => ∃ (k : Nat), v = .int .i64 (k : Int) ∧ k ≤ f ∧ wr = w) (fun v _ => f - (intOf v).toNat)
  case atStart => exact ⟨0, rfl, Nat.zero_le _, rfl⟩
  case round =>
    obtain ⟨k, rfl, hk, rfl⟩ := hrel
    obtain ⟨r, hr⟩ : ∃ r, r = Bt.room k := ⟨_, rfl⟩
    have HR : Hid (r = Bt.room k) := hr
    have C : Hid (∀ W, Calls Tryz.prog 55 #[.int .i64 (k : Int)] W fun e w' => e = .returned (.int .i64 (r : Int)) ∧ w' = W) := fun W => by rw [hr]; exact room_c k (by omega) W
    clear hr
    go_wp2_with fail
    refine (C.out _).mono ?_
    rintro e w2 ⟨rfl, rfl⟩
    by_cases hlt : r < n
    · have q1 : (r : Int) < (n : Int) := by omega
      have hkf : k < f := by
        rcases Nat.lt_or_ge k f with h | h
        · exact h
        · exfalso
          have := (Bt.fewest_le k n).1 (by rw [← HF.out]; exact h)
          have := HR.out
          omega
      go_wp2
      go_roundw
      case rel => exact ⟨k + 1, by go_num, hkf, trivial⟩
      case measure => simp [intOf]; omega
    · have q1 : ¬ (r : Int) < (n : Int) := by omega
      have hkf : k = f := by
        have h1 := (Bt.fewest_le k n).2 (by rw [← HR.out]; omega)
        rw [← HF.out] at h1
        omega
      subst hkf
      go_wp2
      go_ret
      exact ⟨rfl, rfl⟩
theorem count_nil (w : World) : Calls Tryz.prog 28 #[.pointer none] w fun e w' => e = .returned (.int .i64 0) ∧ w' = w := by
  go_enter Tryz.func28, Tryz.ntmps28
  go_wp2
  go_ret
  exact ⟨rfl, rfl⟩
theorem count_node (g n : Nat) (c0 c1 c2 c3 c4 : Value) (w : World) (h : w.heap[g]? = some (.cells #[c0, c1, c2, c3, c4, .int .i64 (n : Int)] 87 (0, 0))) : Calls Tryz.prog 28 #[.pointer (some ⟨g, 0, none⟩)] w fun e w' => e = .returned (.int .i64 (n : Int)) ∧ w' = w := by
  have p := cells_at h 5 _ rfl
  clear h
  go_enter Tryz.func28, Tryz.ntmps28
  go_wp2
  go_ret
  exact ⟨rfl, rfl⟩
end Go.Proofs.YtkigenldiinioabGreatDoor
/- A tree in memory; its levels, walked. -/
namespace Go.Proofs.YtkigenldiinioabGreatDoor
open Go.RowKit
open Vl (V)
attribute [local go_sem ↓] Go.wp_at_zero Go.wp_at_succ
namespace Bt
/-- a tree's own block -/
def top : T → Option Nat
  | .nil => none
  | .node g _ _ _ _ _ _ => some g
/-- one of five -/
def pick5 (j : Nat) (a b c d e : Nat) : Nat := if j = 0 then a else if j = 1 then b else if j = 2 then c else if j = 3 then d else e
/-- a pointer to a block -/
def ptr (o : Option Nat) : Value := .pointer (o.map fun g => ⟨g, 0, none⟩)
theorem ptr_none : ptr none = .pointer none := rfl
theorem ptr_some (g : Nat) : ptr (some g) = .pointer (some ⟨g, 0, none⟩) := rfl
end Bt
/-- a tree in memory -/
def NT (W : World) : Bt.T → Prop
  | .nil => True
  | .node g r es a b c d => (∃ cap, W.heap[g]? = some (.cells #[.slice (some ⟨r, 0, none⟩) es.length cap, Bt.ptr (Bt.top a), Bt.ptr (Bt.top b), Bt.ptr (Bt.top c), Bt.ptr (Bt.top d), .int .i64 ((Bt.flat (.node g r es a b c d)).length : Int)] 87 (0, 0)) ∧ W.ownsRow 0 60 1 (.slice (some ⟨r, 0, none⟩) es.length cap) es.length (es.map fun e => Bt.ptr (some e))) ∧ NT W a ∧ NT W b ∧ NT W c ∧ NT W d
set_option maxHeartbeats 4000000 in
set_option maxRecDepth 100000 in
theorem levels_c : ∀ (t : Bt.T) (w : World), NT w t → Bt.levels t ≤ 1000 → Calls Tryz.prog 30 #[Bt.ptr (Bt.top t)] w fun e w' => e = .returned (.int .i64 (Bt.levels t : Int)) ∧ w' = w
  | .nil, w, _, _ => by
    rw [Bt.top, Bt.ptr_none]
    go_enter Tryz.func30, Tryz.ntmps30
    go_wp2
    go_ret
    exact ⟨rfl, rfl⟩
  | .node g r es a b c d, w, h, hl => by
    obtain ⟨⟨cap, hc, ho⟩, ha, hb, hcc, hd⟩ := h
    rw [Bt.levels] at hl
    have CA : Hid (Calls Tryz.prog 30 #[Bt.ptr (Bt.top a)] w fun e w' => e = .returned (.int .i64 (Bt.levels a : Int)) ∧ w' = w) := levels_c a w ha (by omega)
    have CB : Hid (Calls Tryz.prog 30 #[Bt.ptr (Bt.top b)] w fun e w' => e = .returned (.int .i64 (Bt.levels b : Int)) ∧ w' = w) := levels_c b w hb (by omega)
    have CC : Hid (Calls Tryz.prog 30 #[Bt.ptr (Bt.top c)] w fun e w' => e = .returned (.int .i64 (Bt.levels c : Int)) ∧ w' = w) := levels_c c w hcc (by omega)
    have CD : Hid (Calls Tryz.prog 30 #[Bt.ptr (Bt.top d)] w fun e w' => e = .returned (.int .i64 (Bt.levels d : Int)) ∧ w' = w) := levels_c d w hd (by omega)
    rw [Bt.levels]
    obtain ⟨la, hla⟩ : ∃ l, l = Bt.levels a := ⟨_, rfl⟩
    obtain ⟨lb, hlb⟩ : ∃ l, l = Bt.levels b := ⟨_, rfl⟩
    obtain ⟨lc, hlc⟩ : ∃ l, l = Bt.levels c := ⟨_, rfl⟩
    obtain ⟨ld, hld⟩ : ∃ l, l = Bt.levels d := ⟨_, rfl⟩
    obtain ⟨pa, hpa⟩ : ∃ p, p = Bt.ptr (Bt.top a) := ⟨_, rfl⟩
    obtain ⟨pb, hpb⟩ : ∃ p, p = Bt.ptr (Bt.top b) := ⟨_, rfl⟩
    obtain ⟨pc, hpc⟩ : ∃ p, p = Bt.ptr (Bt.top c) := ⟨_, rfl⟩
    obtain ⟨pd, hpd⟩ : ∃ p, p = Bt.ptr (Bt.top d) := ⟨_, rfl⟩
    rw [← hla, ← hlb, ← hlc, ← hld] at hl ⊢
    rw [← hla, ← hpa] at CA
    rw [← hlb, ← hpb] at CB
    rw [← hlc, ← hpc] at CC
    rw [← hld, ← hpd] at CD
    rw [← hpa, ← hpb, ← hpc, ← hpd] at hc
    obtain ⟨xa, rfl⟩ : ∃ o, pa = .pointer o := ⟨_, hpa⟩
    obtain ⟨xb, rfl⟩ : ∃ o, pb = .pointer o := ⟨_, hpb⟩
    obtain ⟨xc, rfl⟩ : ∃ o, pc = .pointer o := ⟨_, hpc⟩
    obtain ⟨xd, rfl⟩ : ∃ o, pd = .pointer o := ⟨_, hpd⟩
    have p1 := cells_at hc 1 _ rfl
    have p2 := cells_at hc 2 _ rfl
    have p3 := cells_at hc 3 _ rfl
    have p4 := cells_at hc 4 _ rfl
    obtain ⟨m1, hm1⟩ : ∃ m, m = max 0 la := ⟨_, rfl⟩
    obtain ⟨m2, hm2⟩ : ∃ m, m = max m1 lb := ⟨_, rfl⟩
    obtain ⟨m3, hm3⟩ : ∃ m, m = max m2 lc := ⟨_, rfl⟩
    obtain ⟨m4, hm4⟩ : ∃ m, m = max m3 ld := ⟨_, rfl⟩
    have HM : Hid (m1 = max 0 la ∧ m2 = max m1 lb ∧ m3 = max m2 lc ∧ m4 = max m3 ld) := ⟨hm1, hm2, hm3, hm4⟩
    rw [← hm1, ← hm2, ← hm3, ← hm4] at hl ⊢
    have HL : Hid (m4 + 1 ≤ 1000) := hl
    clear hl
    rw [Bt.top, Bt.ptr_some]
    clear ha hb hcc hd hla hlb hlc hld hpa hpb hpc hpd hm1 hm2 hm3 hm4 hc ho
    have x0 : ∀ W : World, (Instr.index 85 (.agg #[.pointer xa, .pointer xb, .pointer xc, .pointer xd]) (.int .i64 0)).run Tryz.prog W = .ok (.pointer xa) W := fun _ => by kernel_rfl
    have x1 : ∀ W : World, (Instr.index 85 (.agg #[.pointer xa, .pointer xb, .pointer xc, .pointer xd]) (.int .i64 1)).run Tryz.prog W = .ok (.pointer xb) W := fun _ => by kernel_rfl
    have x2 : ∀ W : World, (Instr.index 85 (.agg #[.pointer xa, .pointer xb, .pointer xc, .pointer xd]) (.int .i64 2)).run Tryz.prog W = .ok (.pointer xc) W := fun _ => by kernel_rfl
    have x3 : ∀ W : World, (Instr.index 85 (.agg #[.pointer xa, .pointer xb, .pointer xc, .pointer xd]) (.int .i64 3)).run Tryz.prog W = .ok (.pointer xd) W := fun _ => by kernel_rfl
    go_enter Tryz.func30, Tryz.ntmps30
    go_wp2
    go_loopw [3, 12] (fun v i wr => ∃ (j d : Nat), v = .int .i64 (d : Int) ∧ i = .int .i64 (j : Int) ∧ j ≤ 4 ∧ d = Bt.pick5 j 0 m1 m2 m3 m4 ∧ wr = w) (fun _ i _ => 4 - (intOf i).toNat)
    case atStart => exact ⟨0, 0, rfl, rfl, by omega, rfl, rfl⟩
    case round =>
      obtain ⟨j, dd, rfl, rfl, hj, hd, rfl⟩ := hrel
      rcases (show j = 0 ∨ j = 1 ∨ j = 2 ∨ j = 3 ∨ j = 4 by omega) with rfl | rfl | rfl | rfl | rfl
      · obtain rfl : dd = 0 := hd
        go_wp2_with fail
        refine CA.out.mono ?_
        rintro e w2 ⟨rfl, rfl⟩
        by_cases hx : 0 < la
        · have q : (0 : Int) < (la : Int) := by omega
          have E : Hid (la = m1) := by have := HM.out; show _ = _; omega
          go_wp2
          go_roundw
          case rel => exact ⟨1, la, rfl, rfl, by omega, E.out, trivial⟩
          case measure => simp [intOf]
        · have q : ¬ (0 : Int) < (la : Int) := by omega
          have E : Hid (0 = m1) := by have := HM.out; show _ = _; omega
          go_wp2
          go_roundw
          case rel => exact ⟨1, 0, rfl, rfl, by omega, E.out, trivial⟩
          case measure => simp [intOf]
      · obtain rfl : m1 = dd := hd.symm
        clear hd
        go_wp2_with fail
        refine CB.out.mono ?_
        rintro e w2 ⟨rfl, rfl⟩
        by_cases hx : m1 < lb
        · have q : (m1 : Int) < (lb : Int) := by omega
          have E : Hid (lb = m2) := by have := HM.out; show _ = _; omega
          go_wp2
          go_roundw
          case rel => exact ⟨2, lb, rfl, rfl, by omega, E.out, trivial⟩
          case measure => simp [intOf]
        · have q : ¬ (m1 : Int) < (lb : Int) := by omega
          have E : Hid (m1 = m2) := by have := HM.out; show _ = _; omega
          go_wp2
          go_roundw
          case rel => exact ⟨2, m1, rfl, rfl, by omega, E.out, trivial⟩
          case measure => simp [intOf]
      · obtain rfl : m2 = dd := hd.symm
        clear hd
        go_wp2_with fail
        refine CC.out.mono ?_
        rintro e w2 ⟨rfl, rfl⟩
        by_cases hx : m2 < lc
        · have q : (m2 : Int) < (lc : Int) := by omega
          have E : Hid (lc = m3) := by have := HM.out; show _ = _; omega
          go_wp2
          go_roundw
          case rel => exact ⟨3, lc, rfl, rfl, by omega, E.out, trivial⟩
          case measure => simp [intOf]
        · have q : ¬ (m2 : Int) < (lc : Int) := by omega
          have E : Hid (m2 = m3) := by have := HM.out; show _ = _; omega
          go_wp2
          go_roundw
          case rel => exact ⟨3, m2, rfl, rfl, by omega, E.out, trivial⟩
          case measure => simp [intOf]
      · obtain rfl : m3 = dd := hd.symm
        clear hd
        go_wp2_with fail
        refine CD.out.mono ?_
        rintro e w2 ⟨rfl, rfl⟩
        by_cases hx : m3 < ld
        · have q : (m3 : Int) < (ld : Int) := by omega
          have E : Hid (ld = m4) := by have := HM.out; show _ = _; omega
          go_wp2
          go_roundw
          case rel => exact ⟨4, ld, rfl, rfl, by omega, E.out, trivial⟩
          case measure => simp [intOf]
        · have q : ¬ (m3 : Int) < (ld : Int) := by omega
          have E : Hid (m3 = m4) := by have := HM.out; show _ = _; omega
          go_wp2
          go_roundw
          case rel => exact ⟨4, m3, rfl, rfl, by omega, E.out, trivial⟩
          case measure => simp [intOf]
      · obtain rfl : m4 = dd := hd.symm
        clear hd
        obtain ⟨z, hz⟩ : ∃ z, z = m4 + 1 := ⟨_, rfl⟩
        obtain ⟨vb, vb2⟩ : IntKind.i64.wrap ((m4 : Int) + 1) = (z : Int) ∧ wrap64 ((m4 : Int) + 1) = (z : Int) := Bt.wr (by omega) (by have := HL.out; omega)
        have HZ : Hid (z = m4 + 1) := hz
        clear hz x0 x1 x2 x3
        go_wp2
        go_ret
        exact ⟨by rw [← HZ.out]; rfl, rfl⟩
end Go.Proofs.YtkigenldiinioabGreatDoor
/- Where a question cuts a list in two, by halves: place, walked, at numbers and at entries. -/
namespace Go.Proofs.YtkigenldiinioabGreatDoor
open Go.RowKit
open Vl (V)
attribute [local go_sem ↓] Go.wp_at_zero Go.wp_at_succ
theorem halfs {lo hi m s : Nat} (hm : m = (lo + hi) / 2) (hs : s = lo + hi) (hlt : lo < hi) (hh : hi ≤ 1000000) : IntKind.i64.wrap ((lo : Int) + (hi : Int)) = (s : Int) ∧ wrap64 ((lo : Int) + (hi : Int)) = (s : Int) ∧ (s : Int).tdiv 2 = (m : Int) ∧ (s : Int) / 2 = (m : Int) := by
  have h := Bt.wr (x := (lo : Int) + (hi : Int)) (c := s) (by omega) (by omega)
  exact ⟨h.1, h.2, by rw [hm, ← hs]; rfl, by omega⟩
theorem succs {m m1 : Nat} (h : m1 = m + 1) (hm : m ≤ 1000000) : IntKind.i64.wrap ((m : Int) + 1) = (m1 : Int) ∧ wrap64 ((m : Int) + 1) = (m1 : Int) := Bt.wr (by omega) (by omega)
theorem cut_no {m k : Nat} (h : false = true ↔ m < k) : k ≤ m := by
  rcases Nat.lt_or_ge m k with h1 | h1
  · exact absurd (h.2 h1) Bool.false_ne_true
  · exact h1
theorem mea1 {lo m hi : Nat} (h1 : lo ≤ m) (h2 : m < hi) : ((m : Int)).toNat - ((lo : Int)).toNat < ((hi : Int)).toNat - ((lo : Int)).toNat := by omega
theorem mea2 {lo m hi m1 : Nat} (h1 : lo ≤ m) (h2 : m < hi) (h3 : m1 = m + 1) : ((hi : Int)).toNat - ((m1 : Int)).toNat < ((hi : Int)).toNat - ((lo : Int)).toNat := by omega
theorem half_of {lo hi : Nat} (h : lo < hi) : lo ≤ (lo + hi) / 2 ∧ (lo + hi) / 2 < hi := by omega
set_option maxHeartbeats 4000000 in
set_option maxRecDepth 100000 in
theorem placeU_c (cap : Value) (p : Nat → Bool) (xs : List Nat) (g o n c k : Nat) (w : World) (hn : n = xs.length) (hl : n ≤ 1000000) (hg : g < w.heap.size)
    (hx : ∀ (j : Nat) (x : Nat), xs[j]? = some x → w.cell? ⟨g, o + j, none⟩ = some (.int .u64 (x : Int))) (hc : Bt.Cut p xs k)
    (hp : ∀ (x : Nat) (W : World), x ∈ xs → Below w.heap.size w W → Calls Tryz.prog 51 #[.int .u64 (x : Int), cap] W fun e w' => e = .returned (.bool (p x)) ∧ Below W.heap.size W w') :
    Calls Tryz.prog 50 #[.slice (some ⟨g, o, none⟩) n c, .func (.func 51) #[] #[cap]] w fun e w' => e = .returned (.int .i64 (k : Int)) ∧ Below w.heap.size w w' := by
  have HX : Hid (∀ (j : Nat) (x : Nat), xs[j]? = some x → w.cell? ⟨g, o + j, none⟩ = some (.int .u64 (x : Int))) := hx
  have HC : Hid (Bt.Cut p xs k) := hc
  have HP : Hid (∀ (x : Nat) (W : World), x ∈ xs → Below w.heap.size w W → Calls Tryz.prog 51 #[.int .u64 (x : Int), cap] W fun e w' => e = .returned (.bool (p x)) ∧ Below W.heap.size W w') := hp
  have HN : Hid (n = xs.length ∧ g < w.heap.size) := ⟨hn, hg⟩
  clear hx hc hp hn hg
  go_enter Tryz.func50, Tryz.ntmps50
  go_wp2
  go_loopw [5, 6] (fun v u wr => ∃ (lo hi : Nat), v = .int .i64 (lo : Int) ∧ u = .int .i64 (hi : Int) ∧ lo ≤ k ∧ k ≤ hi ∧ hi ≤ n ∧ Below w.heap.size w wr) (fun v u _ => (intOf u).toNat - (intOf v).toNat)
  case atStart => exact ⟨0, n, rfl, rfl, Nat.zero_le _, by rw [HN.out.1]; exact HC.out.1, Nat.le_refl _, Below.refl _ _⟩
  case round =>
    obtain ⟨lo, hi, rfl, rfl, h1, h2, h3, hb⟩ := hrel
    have HB : Hid (Below w.heap.size w wr) := hb
    clear hb
    by_cases hlt : lo < hi
    · have q1 : (lo : Int) < (hi : Int) := Int.ofNat_lt.2 hlt
      obtain ⟨m, hm⟩ : ∃ m, m = (lo + hi) / 2 := ⟨_, rfl⟩
      obtain ⟨s, hs⟩ : ∃ s, s = lo + hi := ⟨_, rfl⟩
      have HM : Hid (lo ≤ m ∧ m < hi ∧ hi ≤ n ∧ n ≤ 1000000) := by
        have h := half_of hlt
        rw [← hm] at h
        exact ⟨h.1, h.2, h3, hl⟩
      obtain ⟨v1, v2, v3, v4⟩ := halfs hm hs hlt (Nat.le_trans h3 hl)
      obtain ⟨x, hx⟩ : ∃ x, xs[m]? = some x := ⟨_, List.getElem?_eq_getElem (Nat.lt_of_lt_of_le HM.out.2.1 (by rw [← HN.out.1]; exact HM.out.2.2.1))⟩
      have d0 : wr.cell? ⟨g, o + m, none⟩ = some (.int .u64 (x : Int)) := (HB.out.cell (p := ⟨g, o + m, none⟩) HN.out.2).trans (HX.out m x hx)
      have HV : Hid (p x = true ↔ m < k) := HC.out.2 m x hx
      have HMX : Hid (x ∈ xs) := List.mem_of_getElem? hx
      have k0 : (0 : Int) ≤ (m : Int) := Int.natCast_nonneg _
      have k1 : (m : Int) < (n : Int) := Int.ofNat_lt.2 (Nat.lt_of_lt_of_le HM.out.2.1 HM.out.2.2.1)
      obtain ⟨m1, hm1⟩ : ∃ m1, m1 = m + 1 := ⟨_, rfl⟩
      obtain ⟨v5, v6⟩ : IntKind.i64.wrap ((m : Int) + 1) = (m1 : Int) ∧ wrap64 ((m : Int) + 1) = (m1 : Int) := succs hm1 (Nat.le_of_lt (Nat.lt_of_lt_of_le HM.out.2.1 (Nat.le_trans HM.out.2.2.1 HM.out.2.2.2)))
      have HM1 : Hid (m1 = m + 1) := hm1
      clear hm hs hx hm1
      go_wp2_with fail
      refine (HP.out x _ HMX.out HB.out).mono ?_
      rintro e w2 ⟨rfl, hb2⟩
      have HB2 : Hid (Below w.heap.size w w2) := HB.out.trans (hb2.mono HB.out.size)
      clear hb2 d0
      obtain ⟨b, hb⟩ : ∃ b, b = p x := ⟨_, rfl⟩
      rw [← hb]
      rw [← hb] at HV
      clear hb
      cases b
      · have hk : k ≤ m := cut_no HV.out
        go_wp2
        go_roundw
        case rel => first | exact ⟨lo, m, rfl, rfl, h1, hk, Nat.le_of_lt (Nat.lt_of_lt_of_le HM.out.2.1 h3), HB2.out⟩ | ((repeat apply Exists.intro); exact ⟨⟨lo, m, rfl, rfl, h1, hk, Nat.le_of_lt (Nat.lt_of_lt_of_le HM.out.2.1 h3), HB2.out⟩, rfl⟩)
        case measure =>
          simp only [intOf]
          exact mea1 HM.out.1 HM.out.2.1
      · have hk : m1 ≤ k := by rw [HM1.out]; exact HV.out.1 rfl
        go_wp2
        go_roundw
        case rel => first | exact ⟨m1, hi, rfl, rfl, hk, h2, h3, HB2.out⟩ | ((repeat apply Exists.intro); exact ⟨⟨m1, hi, rfl, rfl, hk, h2, h3, HB2.out⟩, rfl⟩)
        case measure =>
          simp only [intOf]
          exact mea2 HM.out.1 HM.out.2.1 HM1.out
    · have q1 : ¬ (lo : Int) < (hi : Int) := fun h => hlt (Int.ofNat_lt.1 h)
      have hk : lo = k := Nat.le_antisymm h1 (Nat.le_trans h2 (Nat.le_of_not_lt hlt))
      subst hk
      have HF := HB.out
      go_wp2
      go_ret
      exact ⟨rfl, HF⟩
set_option maxHeartbeats 4000000 in
set_option maxRecDepth 100000 in
theorem placeK_c (cap : Value) (p : Nat → Bool) (xs : List Nat) (g o n c k : Nat) (w : World) (hn : n = xs.length) (hl : n ≤ 1000000) (hg : g < w.heap.size)
    (hx : ∀ (j : Nat) (x : Nat), xs[j]? = some x → w.cell? ⟨g, o + j, none⟩ = some (.pointer (some ⟨x, 0, none⟩))) (hc : Bt.Cut p xs k)
    (hp : ∀ (x : Nat) (W : World), x ∈ xs → Below w.heap.size w W → Calls Tryz.prog 68 #[.pointer (some ⟨x, 0, none⟩), cap] W fun e w' => e = .returned (.bool (p x)) ∧ Below W.heap.size W w') :
    Calls Tryz.prog 43 #[.slice (some ⟨g, o, none⟩) n c, .func (.func 68) #[] #[cap]] w fun e w' => e = .returned (.int .i64 (k : Int)) ∧ Below w.heap.size w w' := by
  have HX : Hid (∀ (j : Nat) (x : Nat), xs[j]? = some x → w.cell? ⟨g, o + j, none⟩ = some (.pointer (some ⟨x, 0, none⟩))) := hx
  have HC : Hid (Bt.Cut p xs k) := hc
  have HP : Hid (∀ (x : Nat) (W : World), x ∈ xs → Below w.heap.size w W → Calls Tryz.prog 68 #[.pointer (some ⟨x, 0, none⟩), cap] W fun e w' => e = .returned (.bool (p x)) ∧ Below W.heap.size W w') := hp
  have HN : Hid (n = xs.length ∧ g < w.heap.size) := ⟨hn, hg⟩
  clear hx hc hp hn hg
  go_enter Tryz.func43, Tryz.ntmps43
  go_wp2
  go_loopw [5, 6] (fun v u wr => ∃ (lo hi : Nat), v = .int .i64 (lo : Int) ∧ u = .int .i64 (hi : Int) ∧ lo ≤ k ∧ k ≤ hi ∧ hi ≤ n ∧ Below w.heap.size w wr) (fun v u _ => (intOf u).toNat - (intOf v).toNat)
  case atStart => exact ⟨0, n, rfl, rfl, Nat.zero_le _, by rw [HN.out.1]; exact HC.out.1, Nat.le_refl _, Below.refl _ _⟩
  case round =>
    obtain ⟨lo, hi, rfl, rfl, h1, h2, h3, hb⟩ := hrel
    have HB : Hid (Below w.heap.size w wr) := hb
    clear hb
    by_cases hlt : lo < hi
    · have q1 : (lo : Int) < (hi : Int) := Int.ofNat_lt.2 hlt
      obtain ⟨m, hm⟩ : ∃ m, m = (lo + hi) / 2 := ⟨_, rfl⟩
      obtain ⟨s, hs⟩ : ∃ s, s = lo + hi := ⟨_, rfl⟩
      have HM : Hid (lo ≤ m ∧ m < hi ∧ hi ≤ n ∧ n ≤ 1000000) := by
        have h := half_of hlt
        rw [← hm] at h
        exact ⟨h.1, h.2, h3, hl⟩
      obtain ⟨v1, v2, v3, v4⟩ := halfs hm hs hlt (Nat.le_trans h3 hl)
      obtain ⟨x, hx⟩ : ∃ x, xs[m]? = some x := ⟨_, List.getElem?_eq_getElem (Nat.lt_of_lt_of_le HM.out.2.1 (by rw [← HN.out.1]; exact HM.out.2.2.1))⟩
      have d0 : wr.cell? ⟨g, o + m, none⟩ = some (.pointer (some ⟨x, 0, none⟩)) := (HB.out.cell (p := ⟨g, o + m, none⟩) HN.out.2).trans (HX.out m x hx)
      have HV : Hid (p x = true ↔ m < k) := HC.out.2 m x hx
      have HMX : Hid (x ∈ xs) := List.mem_of_getElem? hx
      have k0 : (0 : Int) ≤ (m : Int) := Int.natCast_nonneg _
      have k1 : (m : Int) < (n : Int) := Int.ofNat_lt.2 (Nat.lt_of_lt_of_le HM.out.2.1 HM.out.2.2.1)
      obtain ⟨m1, hm1⟩ : ∃ m1, m1 = m + 1 := ⟨_, rfl⟩
      obtain ⟨v5, v6⟩ : IntKind.i64.wrap ((m : Int) + 1) = (m1 : Int) ∧ wrap64 ((m : Int) + 1) = (m1 : Int) := succs hm1 (Nat.le_of_lt (Nat.lt_of_lt_of_le HM.out.2.1 (Nat.le_trans HM.out.2.2.1 HM.out.2.2.2)))
      have HM1 : Hid (m1 = m + 1) := hm1
      clear hm hs hx hm1
      go_wp2_with fail
      refine (HP.out x _ HMX.out HB.out).mono ?_
      rintro e w2 ⟨rfl, hb2⟩
      have HB2 : Hid (Below w.heap.size w w2) := HB.out.trans (hb2.mono HB.out.size)
      clear hb2 d0
      obtain ⟨b, hb⟩ : ∃ b, b = p x := ⟨_, rfl⟩
      rw [← hb]
      rw [← hb] at HV
      clear hb
      cases b
      · have hk : k ≤ m := cut_no HV.out
        go_wp2
        go_roundw
        case rel => first | exact ⟨lo, m, rfl, rfl, h1, hk, Nat.le_of_lt (Nat.lt_of_lt_of_le HM.out.2.1 h3), HB2.out⟩ | ((repeat apply Exists.intro); exact ⟨⟨lo, m, rfl, rfl, h1, hk, Nat.le_of_lt (Nat.lt_of_lt_of_le HM.out.2.1 h3), HB2.out⟩, rfl⟩)
        case measure =>
          simp only [intOf]
          exact mea1 HM.out.1 HM.out.2.1
      · have hk : m1 ≤ k := by rw [HM1.out]; exact HV.out.1 rfl
        go_wp2
        go_roundw
        case rel => first | exact ⟨m1, hi, rfl, rfl, hk, h2, h3, HB2.out⟩ | ((repeat apply Exists.intro); exact ⟨⟨m1, hi, rfl, rfl, hk, h2, h3, HB2.out⟩, rfl⟩)
        case measure =>
          simp only [intOf]
          exact mea2 HM.out.1 HM.out.2.1 HM1.out
    · have q1 : ¬ (lo : Int) < (hi : Int) := fun h => hlt (Int.ofNat_lt.1 h)
      have hk : lo = k := Nat.le_antisymm h1 (Nat.le_trans h2 (Nat.le_of_not_lt hlt))
      subst hk
      have HF := HB.out
      go_wp2
      go_ret
      exact ⟨rfl, HF⟩
set_option maxHeartbeats 4000000 in
set_option maxRecDepth 100000 in
theorem placeL_c (cap : Value) (p : Nat → Bool) (xs : List Nat) (g o n c k : Nat) (w : World) (hn : n = xs.length) (hl : n ≤ 1000000) (hg : g < w.heap.size)
    (hx : ∀ (j : Nat) (x : Nat), xs[j]? = some x → w.cell? ⟨g, o + j, none⟩ = some (.pointer (some ⟨x, 0, none⟩))) (hc : Bt.Cut p xs k)
    (hp : ∀ (x : Nat) (W : World), x ∈ xs → Below w.heap.size w W → Calls Tryz.prog 44 #[.pointer (some ⟨x, 0, none⟩), cap] W fun e w' => e = .returned (.bool (p x)) ∧ Below W.heap.size W w') :
    Calls Tryz.prog 43 #[.slice (some ⟨g, o, none⟩) n c, .func (.func 44) #[] #[cap]] w fun e w' => e = .returned (.int .i64 (k : Int)) ∧ Below w.heap.size w w' := by
  have HX : Hid (∀ (j : Nat) (x : Nat), xs[j]? = some x → w.cell? ⟨g, o + j, none⟩ = some (.pointer (some ⟨x, 0, none⟩))) := hx
  have HC : Hid (Bt.Cut p xs k) := hc
  have HP : Hid (∀ (x : Nat) (W : World), x ∈ xs → Below w.heap.size w W → Calls Tryz.prog 44 #[.pointer (some ⟨x, 0, none⟩), cap] W fun e w' => e = .returned (.bool (p x)) ∧ Below W.heap.size W w') := hp
  have HN : Hid (n = xs.length ∧ g < w.heap.size) := ⟨hn, hg⟩
  clear hx hc hp hn hg
  go_enter Tryz.func43, Tryz.ntmps43
  go_wp2
  go_loopw [5, 6] (fun v u wr => ∃ (lo hi : Nat), v = .int .i64 (lo : Int) ∧ u = .int .i64 (hi : Int) ∧ lo ≤ k ∧ k ≤ hi ∧ hi ≤ n ∧ Below w.heap.size w wr) (fun v u _ => (intOf u).toNat - (intOf v).toNat)
  case atStart => exact ⟨0, n, rfl, rfl, Nat.zero_le _, by rw [HN.out.1]; exact HC.out.1, Nat.le_refl _, Below.refl _ _⟩
  case round =>
    obtain ⟨lo, hi, rfl, rfl, h1, h2, h3, hb⟩ := hrel
    have HB : Hid (Below w.heap.size w wr) := hb
    clear hb
    by_cases hlt : lo < hi
    · have q1 : (lo : Int) < (hi : Int) := Int.ofNat_lt.2 hlt
      obtain ⟨m, hm⟩ : ∃ m, m = (lo + hi) / 2 := ⟨_, rfl⟩
      obtain ⟨s, hs⟩ : ∃ s, s = lo + hi := ⟨_, rfl⟩
      have HM : Hid (lo ≤ m ∧ m < hi ∧ hi ≤ n ∧ n ≤ 1000000) := by
        have h := half_of hlt
        rw [← hm] at h
        exact ⟨h.1, h.2, h3, hl⟩
      obtain ⟨v1, v2, v3, v4⟩ := halfs hm hs hlt (Nat.le_trans h3 hl)
      obtain ⟨x, hx⟩ : ∃ x, xs[m]? = some x := ⟨_, List.getElem?_eq_getElem (Nat.lt_of_lt_of_le HM.out.2.1 (by rw [← HN.out.1]; exact HM.out.2.2.1))⟩
      have d0 : wr.cell? ⟨g, o + m, none⟩ = some (.pointer (some ⟨x, 0, none⟩)) := (HB.out.cell (p := ⟨g, o + m, none⟩) HN.out.2).trans (HX.out m x hx)
      have HV : Hid (p x = true ↔ m < k) := HC.out.2 m x hx
      have HMX : Hid (x ∈ xs) := List.mem_of_getElem? hx
      have k0 : (0 : Int) ≤ (m : Int) := Int.natCast_nonneg _
      have k1 : (m : Int) < (n : Int) := Int.ofNat_lt.2 (Nat.lt_of_lt_of_le HM.out.2.1 HM.out.2.2.1)
      obtain ⟨m1, hm1⟩ : ∃ m1, m1 = m + 1 := ⟨_, rfl⟩
      obtain ⟨v5, v6⟩ : IntKind.i64.wrap ((m : Int) + 1) = (m1 : Int) ∧ wrap64 ((m : Int) + 1) = (m1 : Int) := succs hm1 (Nat.le_of_lt (Nat.lt_of_lt_of_le HM.out.2.1 (Nat.le_trans HM.out.2.2.1 HM.out.2.2.2)))
      have HM1 : Hid (m1 = m + 1) := hm1
      clear hm hs hx hm1
      go_wp2_with fail
      refine (HP.out x _ HMX.out HB.out).mono ?_
      rintro e w2 ⟨rfl, hb2⟩
      have HB2 : Hid (Below w.heap.size w w2) := HB.out.trans (hb2.mono HB.out.size)
      clear hb2 d0
      obtain ⟨b, hb⟩ : ∃ b, b = p x := ⟨_, rfl⟩
      rw [← hb]
      rw [← hb] at HV
      clear hb
      cases b
      · have hk : k ≤ m := cut_no HV.out
        go_wp2
        go_roundw
        case rel => first | exact ⟨lo, m, rfl, rfl, h1, hk, Nat.le_of_lt (Nat.lt_of_lt_of_le HM.out.2.1 h3), HB2.out⟩ | ((repeat apply Exists.intro); exact ⟨⟨lo, m, rfl, rfl, h1, hk, Nat.le_of_lt (Nat.lt_of_lt_of_le HM.out.2.1 h3), HB2.out⟩, rfl⟩)
        case measure =>
          simp only [intOf]
          exact mea1 HM.out.1 HM.out.2.1
      · have hk : m1 ≤ k := by rw [HM1.out]; exact HV.out.1 rfl
        go_wp2
        go_roundw
        case rel => first | exact ⟨m1, hi, rfl, rfl, hk, h2, h3, HB2.out⟩ | ((repeat apply Exists.intro); exact ⟨⟨m1, hi, rfl, rfl, hk, h2, h3, HB2.out⟩, rfl⟩)
        case measure =>
          simp only [intOf]
          exact mea2 HM.out.1 HM.out.2.1 HM1.out
    · have q1 : ¬ (lo : Int) < (hi : Int) := fun h => hlt (Int.ofNat_lt.1 h)
      have hk : lo = k := Nat.le_antisymm h1 (Nat.le_trans h2 (Nat.le_of_not_lt hlt))
      subst hk
      have HF := HB.out
      go_wp2
      go_ret
      exact ⟨rfl, HF⟩
set_option maxHeartbeats 4000000 in
set_option maxRecDepth 100000 in
theorem placeH_c (cap : Value) (p : Nat → Bool) (xs : List Nat) (g o n c k : Nat) (w : World) (hn : n = xs.length) (hl : n ≤ 1000000) (hg : g < w.heap.size)
    (hx : ∀ (j : Nat) (x : Nat), xs[j]? = some x → w.cell? ⟨g, o + j, none⟩ = some (.pointer (some ⟨x, 0, none⟩))) (hc : Bt.Cut p xs k)
    (hp : ∀ (x : Nat) (W : World), x ∈ xs → Below w.heap.size w W → Calls Tryz.prog 46 #[.pointer (some ⟨x, 0, none⟩), cap] W fun e w' => e = .returned (.bool (p x)) ∧ Below W.heap.size W w') :
    Calls Tryz.prog 43 #[.slice (some ⟨g, o, none⟩) n c, .func (.func 46) #[] #[cap]] w fun e w' => e = .returned (.int .i64 (k : Int)) ∧ Below w.heap.size w w' := by
  have HX : Hid (∀ (j : Nat) (x : Nat), xs[j]? = some x → w.cell? ⟨g, o + j, none⟩ = some (.pointer (some ⟨x, 0, none⟩))) := hx
  have HC : Hid (Bt.Cut p xs k) := hc
  have HP : Hid (∀ (x : Nat) (W : World), x ∈ xs → Below w.heap.size w W → Calls Tryz.prog 46 #[.pointer (some ⟨x, 0, none⟩), cap] W fun e w' => e = .returned (.bool (p x)) ∧ Below W.heap.size W w') := hp
  have HN : Hid (n = xs.length ∧ g < w.heap.size) := ⟨hn, hg⟩
  clear hx hc hp hn hg
  go_enter Tryz.func43, Tryz.ntmps43
  go_wp2
  go_loopw [5, 6] (fun v u wr => ∃ (lo hi : Nat), v = .int .i64 (lo : Int) ∧ u = .int .i64 (hi : Int) ∧ lo ≤ k ∧ k ≤ hi ∧ hi ≤ n ∧ Below w.heap.size w wr) (fun v u _ => (intOf u).toNat - (intOf v).toNat)
  case atStart => exact ⟨0, n, rfl, rfl, Nat.zero_le _, by rw [HN.out.1]; exact HC.out.1, Nat.le_refl _, Below.refl _ _⟩
  case round =>
    obtain ⟨lo, hi, rfl, rfl, h1, h2, h3, hb⟩ := hrel
    have HB : Hid (Below w.heap.size w wr) := hb
    clear hb
    by_cases hlt : lo < hi
    · have q1 : (lo : Int) < (hi : Int) := Int.ofNat_lt.2 hlt
      obtain ⟨m, hm⟩ : ∃ m, m = (lo + hi) / 2 := ⟨_, rfl⟩
      obtain ⟨s, hs⟩ : ∃ s, s = lo + hi := ⟨_, rfl⟩
      have HM : Hid (lo ≤ m ∧ m < hi ∧ hi ≤ n ∧ n ≤ 1000000) := by
        have h := half_of hlt
        rw [← hm] at h
        exact ⟨h.1, h.2, h3, hl⟩
      obtain ⟨v1, v2, v3, v4⟩ := halfs hm hs hlt (Nat.le_trans h3 hl)
      obtain ⟨x, hx⟩ : ∃ x, xs[m]? = some x := ⟨_, List.getElem?_eq_getElem (Nat.lt_of_lt_of_le HM.out.2.1 (by rw [← HN.out.1]; exact HM.out.2.2.1))⟩
      have d0 : wr.cell? ⟨g, o + m, none⟩ = some (.pointer (some ⟨x, 0, none⟩)) := (HB.out.cell (p := ⟨g, o + m, none⟩) HN.out.2).trans (HX.out m x hx)
      have HV : Hid (p x = true ↔ m < k) := HC.out.2 m x hx
      have HMX : Hid (x ∈ xs) := List.mem_of_getElem? hx
      have k0 : (0 : Int) ≤ (m : Int) := Int.natCast_nonneg _
      have k1 : (m : Int) < (n : Int) := Int.ofNat_lt.2 (Nat.lt_of_lt_of_le HM.out.2.1 HM.out.2.2.1)
      obtain ⟨m1, hm1⟩ : ∃ m1, m1 = m + 1 := ⟨_, rfl⟩
      obtain ⟨v5, v6⟩ : IntKind.i64.wrap ((m : Int) + 1) = (m1 : Int) ∧ wrap64 ((m : Int) + 1) = (m1 : Int) := succs hm1 (Nat.le_of_lt (Nat.lt_of_lt_of_le HM.out.2.1 (Nat.le_trans HM.out.2.2.1 HM.out.2.2.2)))
      have HM1 : Hid (m1 = m + 1) := hm1
      clear hm hs hx hm1
      go_wp2_with fail
      refine (HP.out x _ HMX.out HB.out).mono ?_
      rintro e w2 ⟨rfl, hb2⟩
      have HB2 : Hid (Below w.heap.size w w2) := HB.out.trans (hb2.mono HB.out.size)
      clear hb2 d0
      obtain ⟨b, hb⟩ : ∃ b, b = p x := ⟨_, rfl⟩
      rw [← hb]
      rw [← hb] at HV
      clear hb
      cases b
      · have hk : k ≤ m := cut_no HV.out
        go_wp2
        go_roundw
        case rel => first | exact ⟨lo, m, rfl, rfl, h1, hk, Nat.le_of_lt (Nat.lt_of_lt_of_le HM.out.2.1 h3), HB2.out⟩ | ((repeat apply Exists.intro); exact ⟨⟨lo, m, rfl, rfl, h1, hk, Nat.le_of_lt (Nat.lt_of_lt_of_le HM.out.2.1 h3), HB2.out⟩, rfl⟩)
        case measure =>
          simp only [intOf]
          exact mea1 HM.out.1 HM.out.2.1
      · have hk : m1 ≤ k := by rw [HM1.out]; exact HV.out.1 rfl
        go_wp2
        go_roundw
        case rel => first | exact ⟨m1, hi, rfl, rfl, hk, h2, h3, HB2.out⟩ | ((repeat apply Exists.intro); exact ⟨⟨m1, hi, rfl, rfl, hk, h2, h3, HB2.out⟩, rfl⟩)
        case measure =>
          simp only [intOf]
          exact mea2 HM.out.1 HM.out.2.1 HM1.out
    · have q1 : ¬ (lo : Int) < (hi : Int) := fun h => hlt (Int.ofNat_lt.1 h)
      have hk : lo = k := Nat.le_antisymm h1 (Nat.le_trans h2 (Nat.le_of_not_lt hlt))
      subst hk
      have HF := HB.out
      go_wp2
      go_ret
      exact ⟨rfl, HF⟩
end Go.Proofs.YtkigenldiinioabGreatDoor
