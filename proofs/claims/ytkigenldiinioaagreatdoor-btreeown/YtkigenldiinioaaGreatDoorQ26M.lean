/- Several texts, joined: RSameA, BtLa, EnS, BtTs -/
import Derived.Test.YtkigenldiinioaaGreatDoorQ25M
import Derived.Test.YtkigenldiinioaaGreatDoorBtZM
import Derived.Test.YtkigenldiinioaaGreatDoorBtRbM
import Derived.Test.YtkigenldiinioaaGreatDoorBtWkM
/- The document's own Same, walked, whatever the values are: it answers as the program's does. -/
namespace Go.Proofs.YtkigenldiinioaaGreatDoor
open Go.RowKit
open Vl (V)
namespace Vl
theorem sameL_eqlen : ∀ (l l2 : List V), sameL l l2 = true → l.length = l2.length
  | [], [], _ => rfl
  | [], _ :: _, h => by simp [sameL] at h
  | _ :: _, [], h => by simp [sameL] at h
  | x :: r, y :: r2, h => by
    rw [sameL, Bool.and_eq_true] at h
    simp [sameL_eqlen r r2 h.2]
theorem sameF_eqlen : ∀ (l l2 : List (ByteArray × V)), sameF l l2 = true → l.length = l2.length
  | [], [], _ => rfl
  | [], _ :: _, h => by simp [sameF] at h
  | _ :: _, [], h => by simp [sameF] at h
  | (m, x) :: r, (p, y) :: r2, h => by
    rw [sameF, Bool.and_eq_true] at h
    simp [sameF_eqlen r r2 h.2]
end Vl
theorem rsame17 : ∀ (N : Nat) (a : V), Vl.count a ≤ N → ∀ (b : V) (w : World) (H : Nat) (va vb : Value), H ≤ w.heap.size → Rep w H a va → Rep w H b vb →
    Calls Tryz.prog 36 #[va, vb] w fun e w' => e = .returned (.bool (Vl.same a b)) ∧ Below w.heap.size w w' := by
  intro N
  induction N with
  | zero => intro t ht; obtain ⟨k, b, n, s, l, f⟩ := t; rw [Vl.count] at ht; omega
  | succ N ih =>
    rintro ⟨k, b, n, s, l, f⟩ ht ⟨k2, b2, n2, s2, l2, f2⟩ w H va vb hH hA hB
    rw [Rep] at hA hB
    obtain ⟨ao, ac, fo, fc, rfl, h2, h3, h4, h5, h6, h7, h8⟩ := hA
    obtain ⟨ao2, ac2, fo2, fc2, rfl, g2, g3, g4, g5, g6, g7, g8⟩ := hB
    by_cases hd : k = k2 ∧ b = b2 ∧ n = n2 ∧ s = s2 ∧ l.length = l2.length ∧ f.length = f2.length
    · obtain ⟨rfl, rfl, rfl, rfl, hl, hf⟩ := hd
      have e : Vl.same ⟨k, b, n, s, l, f⟩ ⟨k, b, n, s, l2, f2⟩ = (Vl.sameL l l2 && Vl.sameF f f2) := by rw [Vl.same]; simp
      rw [e]
      have := rsame17_tail N ih k b n s l l2 f f2 ao fo l.length ac f.length fc ao2 fo2 ac2 fc2 w H hH ht ⟨rfl, hl⟩ ⟨rfl, hf⟩ (by unfold maxLen at h5; omega) (by unfold maxLen at h6; omega) h7 h8 g7 g8
      rw [← hl, ← hf]
      exact this
    · have e : Vl.same ⟨k, b, n, s, l, f⟩ ⟨k2, b2, n2, s2, l2, f2⟩ = false := by
        rw [Vl.same]
        apply Bool.eq_false_iff.2
        intro h
        simp only [Bool.and_eq_true, decide_eq_true_eq] at h
        exact hd ⟨h.1.1.1.1.1, h.1.1.1.1.2, h.1.1.1.2, h.1.1.2, Vl.sameL_eqlen _ _ h.1.2, Vl.sameF_eqlen _ _ h.2⟩
      rw [e]
      exact rsame17_head k b n s ao fo l.length ac f.length fc k2 b2 n2 s2 ao2 fo2 l2.length ac2 f2.length fc2 w hd
end Go.Proofs.YtkigenldiinioaaGreatDoor
/- The helpers of the statements about trees: whole numbers, lists of numbers held against each other: walked. -/
namespace Go.Proofs.YtkigenldiinioaaGreatDoor
open Go.RowKit
open Vl (V)
attribute [local go_sem ↓] Go.wp_at_zero Go.wp_at_succ
/-- a whole number as a value -/
def Bt.wv (n : Int) : V := ⟨2, false, n, ⟨#[]⟩, [], []⟩
def Bt.wa (n : Int) : Value := .agg #[.int .u8 2, .bool false, .int .i64 n, .string ⟨#[]⟩, .slice none 0 0, .slice none 0 0]
theorem wv_rep (W : World) (H : Nat) (n : Int) (h : -9223372036854775808 ≤ n ∧ n < 9223372036854775808) : Rep W H (Bt.wv n) (Bt.wa n) := by
  rw [Bt.wv, Rep]
  exact ⟨none, 0, none, 0, rfl, by omega, h, by decide, by decide, by decide, fun h => by simp at h, fun h => by simp at h⟩
theorem wv_kerr (n : Int) : Bt.kerr (Bt.wv n) = 0 := by
  have h : Vl.alone Bn.u8 0 ⟨2, false, n, ⟨#[]⟩, [], []⟩ = 0 := by
    simp [Vl.alone, Vl.strange, ByteArray.size]
  rw [Bt.kerr, Bt.wv, Vl.check, h]
  simp [Vl.checkL, Vl.checkF]
theorem wv_small (n : Int) : Vl.small (Bt.wv n) := by
  rw [Bt.wv, Vl.small]
  exact ⟨by decide, by decide, by decide, by rw [Vl.smallL]; trivial, by rw [Vl.smallF]; trivial⟩
theorem wv_cmp (m n : Int) : Vl.cmp (Bt.wv m) (Bt.wv n) = Lib.compareInt m n := by
  rw [Bt.wv, Bt.wv, Vl.cmp]
  simp
set_option maxHeartbeats 1000000 in
theorem whole_c (n : Int) (w : World) : Calls Tryz.prog 28 #[.int .i64 n] w fun e w' => e = .returned (Bt.wa n) ∧ Below w.heap.size w w' := by
  obtain ⟨w2, hw2⟩ : ∃ w2, w2 = w.alloc (.cells #[.int .u8 2, .bool false, .int .i64 n, .string ⟨#[]⟩, .slice none 0 0, .slice none 0 0] 27) := ⟨_, rfl⟩
  have HE : Hid (w2.heap[w.heap.size]? = some (.cells #[.int .u8 2, .bool false, .int .i64 n, .string ⟨#[]⟩, .slice none 0 0, .slice none 0 0] 27 (0, 0)) ∧ Below w.heap.size w w2) := ⟨by rw [hw2]; exact heap_alloc_new w _, by rw [hw2]; exact below_new _ _⟩
  have HW2 : Hid (w2 = w.alloc (.cells #[.int .u8 2, .bool false, .int .i64 n, .string ⟨#[]⟩, .slice none 0 0, .slice none 0 0] 27)) := hw2
  clear hw2
  go_enter Tryz.func28, Tryz.ntmps28
  go_wp2
  rw [← HW2.out]
  exact bodyPost_ret (v := Bt.wa n) (results_cell_row rfl _ _ w.heap.size 27 #[.int .u8 2, .bool false, .int .i64 n, .string ⟨#[]⟩, .slice none 0 0, .slice none 0 0] (0, 0) _ rfl HE.out.1 Tryz.underlying27 rfl (by kernel_rfl)) rfl ⟨rfl, HE.out.2⟩
set_option maxHeartbeats 2000000 in
set_option maxRecDepth 100000 in
theorem ids_c (a b : List Nat) (pa pb : Option Addr) (ca cb : Nat) (w : World) (hla : a.length ≤ 1000000) (ha : ∀ (j x : Nat), a[j]? = some x → ∃ g, pa = some ⟨g, 0, none⟩ ∧ g < w.heap.size ∧ w.cell? ⟨g, j, none⟩ = some (.int .u64 (x : Int))) (hb : ∀ (j x : Nat), b[j]? = some x → ∃ g, pb = some ⟨g, 0, none⟩ ∧ g < w.heap.size ∧ w.cell? ⟨g, j, none⟩ = some (.int .u64 (x : Int))) :
    Calls Tryz.prog 16 #[.slice pa a.length ca, .slice pb b.length cb] w fun e w' => e = .returned (.bool (decide (a = b))) ∧ Below w.heap.size w w' := by
  obtain ⟨n, hn⟩ : ∃ n, n = a.length := ⟨_, rfl⟩
  obtain ⟨m, hm⟩ : ∃ m, m = b.length := ⟨_, rfl⟩
  rw [← hn, ← hm]
  by_cases hnm : n = m
  · subst hnm
    have HL : Hid (n = a.length ∧ n = b.length ∧ n ≤ 1000000) := ⟨hn, hm, by omega⟩
    have HA : Hid (∀ (j x : Nat), a[j]? = some x → ∃ g, pa = some ⟨g, 0, none⟩ ∧ g < w.heap.size ∧ w.cell? ⟨g, j, none⟩ = some (.int .u64 (x : Int))) := ha
    have HB : Hid (∀ (j x : Nat), b[j]? = some x → ∃ g, pb = some ⟨g, 0, none⟩ ∧ g < w.heap.size ∧ w.cell? ⟨g, j, none⟩ = some (.int .u64 (x : Int))) := hb
    clear ha hb hla hn hm
    go_enter Tryz.func16, Tryz.ntmps16
    go_wp2_with fail
    go_loopw [13] (fun i wr => ∃ (j : Nat), i = .int .i64 (j : Int) ∧ j ≤ n ∧ Below w.heap.size w wr ∧ a.take j = b.take j) (fun i _ => n - (intOf i).toNat)
    case atStart => exact ⟨0, rfl, by omega, Below.refl _ _, rfl⟩
    case round =>
      obtain ⟨j, rfl, hj, hbr, heq⟩ := hrel
      have HR : Hid (Below w.heap.size w wr ∧ a.take j = b.take j) := ⟨hbr, heq⟩
      clear hbr heq
      by_cases hjn : j = n
      · subst hjn
        have q0 : ¬ (j : Int) < (j : Int) := by omega
        have E : Hid (decide (a = b) = true) := by
          have h1 := HR.out.2
          rw [List.take_of_length_le (by have := HL.out; omega), List.take_of_length_le (by have := HL.out; omega)] at h1
          exact decide_eq_true h1
        go_wp2
        go_ret
        exact ⟨by rw [E.out]; rfl, HR.out.1⟩
      · have q1 : (j : Int) < (n : Int) := by omega
        have q0 : (0 : Int) ≤ (j : Int) := by omega
        obtain ⟨x, hx⟩ : ∃ x, a[j]? = some x := ⟨_, List.getElem?_eq_getElem (by have := HL.out; omega)⟩
        obtain ⟨y, hy⟩ : ∃ y, b[j]? = some y := ⟨_, List.getElem?_eq_getElem (by have := HL.out; omega)⟩
        obtain ⟨ga, rfl, hga, hca⟩ := HA.out j x hx
        obtain ⟨gb, rfl, hgb, hcb⟩ := HB.out j y hy
        have HXY : Hid (a[j]? = some x ∧ b[j]? = some y ∧ j < n) := ⟨hx, hy, by omega⟩
        have p1 : ∀ p : BelowOf wr.heap.size wr, p.W.cell? ⟨ga, j, none⟩ = some (.int .u64 (x : Int)) := fun p => ((p.h.cell (p := ⟨ga, j, none⟩) (Nat.lt_of_lt_of_le hga HR.out.1.size)).trans ((HR.out.1.cell (p := ⟨ga, j, none⟩) hga).trans hca))
        have p2 : ∀ p : BelowOf wr.heap.size wr, p.W.cell? ⟨gb, j, none⟩ = some (.int .u64 (y : Int)) := fun p => ((p.h.cell (p := ⟨gb, j, none⟩) (Nat.lt_of_lt_of_le hgb HR.out.1.size)).trans ((HR.out.1.cell (p := ⟨gb, j, none⟩) hgb).trans hcb))
        obtain ⟨j1, hj1⟩ : ∃ j1, j1 = j + 1 := ⟨_, rfl⟩
        obtain ⟨v1, v2⟩ : IntKind.i64.wrap ((j : Int) + 1) = (j1 : Int) ∧ wrap64 ((j : Int) + 1) = (j1 : Int) := Bt.wr (by omega) (by have := HL.out; omega)
        have HJ1 : Hid (j1 = j + 1) := hj1
        clear hx hy hga hgb hca hcb hj1 hj hjn
        go_upto_region 6 with fail
        by_cases hxy : x = y
        · subst hxy
          refine wp_region_below wr.heap.size wr (Below.refl _ _) (by kernel_rfl) (by kernel_rfl) ?_
          repeat (go_big_quiet_step (fail))
          refine wpQuiet_nil ?_
          intro _ hw'
          obtain ⟨pq, hw''⟩ := hw'
          subst hw''
          have HF : Hid (Below w.heap.size w pq.W ∧ a.take j1 = b.take j1) := by
            refine ⟨HR.out.1.trans (pq.h.mono HR.out.1.size), ?_⟩
            obtain ⟨x1, x2, _⟩ := HXY.out
            rw [HJ1.out, List.take_add_one, List.take_add_one, HR.out.2, x1, x2]
          clear p1 p2
          go_wp2
          clear v1 v2
          go_roundw
          case rel => exact ⟨j1, rfl, by have := HXY.out; have := HJ1.out; omega, HF.out.1, HF.out.2⟩
          case measure =>
            have := HXY.out
            have := HJ1.out
            simp [intOf]
            omega
        · have qx : ((x : Int) != (y : Int)) = true := by simp; omega
          have qy : ¬ ((x : Int) = (y : Int)) := by omega
          have E : Hid (decide (a = b) = false) := decide_eq_false fun e => hxy (by
            obtain ⟨x1, x2, _⟩ := HXY.out
            rw [e, x2] at x1
            exact (Option.some.inj x1).symm)
          clear hxy
          refine wp_region_below wr.heap.size wr (Below.refl _ _) (by kernel_rfl) (by kernel_rfl) ?_
          repeat (go_big_quiet_step (fail))
          refine wpQuiet_nil ?_
          intro _ hw'
          obtain ⟨pq, hw''⟩ := hw'
          subst hw''
          have HF := HR.out.1.trans (pq.h.mono HR.out.1.size)
          go_wp2
          go_ret
          exact ⟨by rw [E.out]; rfl, HF⟩
  · have q : ((n : Int) != (m : Int)) = true := by simp; omega
    have q2 : ¬ ((n : Int) = (m : Int)) := by omega
    have E : Hid (decide (a = b) = false) := decide_eq_false fun e => hnm (by rw [hn, hm, e])
    clear ha hb hn hm hnm hla
    go_enter Tryz.func16, Tryz.ntmps16
    go_wp2
    go_ret
    exact ⟨by rw [E.out]; rfl, Below.refl _ _⟩
end Go.Proofs.YtkigenldiinioaaGreatDoor
/- Entries in a row, as they are read; the document's Same of two rows of the same entries: walked. -/
namespace Go.Proofs.YtkigenldiinioaaGreatDoor
open Go.RowKit
open Vl (V)
attribute [local go_sem ↓] Go.wp_at_zero Go.wp_at_succ
/-- numbers in a row -/
def NumsAt (w : World) (pi : Option Addr) (l : List Nat) : Prop := ∀ (m x : Nat), l[m]? = some x → ∃ g, pi = some ⟨g, 0, none⟩ ∧ g < w.heap.size ∧ w.cell? ⟨g, m, none⟩ = some (.int .u64 (x : Int))
/-- entries in a row -/
def EntsAt (w : World) (a : Option Addr) (L : List (V × List Nat)) : Prop := ∀ (j : Nat) (p : V × List Nat), L[j]? = some p → ∃ g k0 k1 k2 k3 k4 k5 pi cap, a = some ⟨g, 0, none⟩ ∧ g < w.heap.size ∧
  (w.cell? ⟨g, j * 7, none⟩ = some k0 ∧ w.cell? ⟨g, j * 7 + 1, none⟩ = some k1 ∧ w.cell? ⟨g, j * 7 + 2, none⟩ = some k2 ∧ w.cell? ⟨g, j * 7 + 3, none⟩ = some k3 ∧ w.cell? ⟨g, j * 7 + 4, none⟩ = some k4 ∧ w.cell? ⟨g, j * 7 + 5, none⟩ = some k5 ∧ w.cell? ⟨g, j * 7 + 6, none⟩ = some (.slice pi p.2.length cap)) ∧ Rep w w.heap.size p.1 (.agg #[k0, k1, k2, k3, k4, k5]) ∧ NumsAt w pi p.2 ∧ p.2.length ≤ 1000000
theorem NumsAt.stays {w w' : World} {pi : Option Addr} {l : List Nat} (h : NumsAt w pi l) (hb : Below w.heap.size w w') : NumsAt w' pi l := fun m x hx => by
  obtain ⟨g, h1, h2, h3⟩ := h m x hx
  exact ⟨g, h1, Nat.lt_of_lt_of_le h2 hb.size, (hb.cell (p := ⟨g, m, none⟩) h2).trans h3⟩
theorem EntsAt.stays {w w' : World} {a : Option Addr} {L : List (V × List Nat)} (h : EntsAt w a L) (hb : Below w.heap.size w w') : EntsAt w' a L := fun j p hp => by
  obtain ⟨g, k0, k1, k2, k3, k4, k5, pi, cap, h1, h2, ⟨c0, c1, c2, c3, c4, c5, c6⟩, h4, h5, h6⟩ := h j p hp
  have cl : ∀ o, w'.cell? ⟨g, o, none⟩ = w.cell? ⟨g, o, none⟩ := fun o => hb.cell (p := ⟨g, o, none⟩) h2
  exact ⟨g, k0, k1, k2, k3, k4, k5, pi, cap, h1, Nat.lt_of_lt_of_le h2 hb.size, ⟨(cl _).trans c0, (cl _).trans c1, (cl _).trans c2, (cl _).trans c3, (cl _).trans c4, (cl _).trans c5, (cl _).trans c6⟩, rep_stays hb hb.size _ _ h4, h5.stays hb, h6⟩
set_option maxHeartbeats 4000000 in
set_option maxRecDepth 100000 in
theorem sameE_c (L : List (V × List Nat)) (a b : Option Addr) (ca cb : Nat) (w : World) (hL : L.length ≤ 1000000) (ha : EntsAt w a L) (hb : EntsAt w b L) :
    Calls Tryz.prog 15 #[.slice a L.length ca, .slice b L.length cb] w fun e w' => e = .returned (.bool true) ∧ Below w.heap.size w w' := by
  obtain ⟨n, hn⟩ : ∃ n, n = L.length := ⟨_, rfl⟩
  rw [← hn] at hL ⊢
  have HN : Hid (n = L.length ∧ n ≤ 1000000) := ⟨hn, hL⟩
  have HA : Hid (EntsAt w a L ∧ EntsAt w b L) := ⟨ha, hb⟩
  have hl := hL
  clear hn ha hb hL
  go_enter Tryz.func15, Tryz.ntmps15
  go_wp2_with fail
  go_loopw [13] (fun i wr => ∃ (j : Nat), i = .int .i64 (j : Int) ∧ j ≤ n ∧ Below w.heap.size w wr) (fun i _ => n - (intOf i).toNat)
  case atStart => exact ⟨0, rfl, by omega, Below.refl _ _⟩
  case round =>
    obtain ⟨j, rfl, hj, hbr⟩ := hrel
    have HR : Hid (Below w.heap.size w wr) := hbr
    clear hbr
    by_cases hjn : j = n
    · subst hjn
      have q0 : ¬ (j : Int) < (j : Int) := by omega
      go_wp2
      go_ret
      exact ⟨rfl, HR.out⟩
    · have hlt : j < n := by omega
      have q0 : (j : Int) < (n : Int) := by omega
      have q1 : (0 : Int) ≤ (j : Int) := by omega
      obtain ⟨p, hp⟩ : ∃ p, L[j]? = some p := ⟨_, List.getElem?_eq_getElem (by have := HN.out; omega)⟩
      obtain ⟨g, k0, k1, k2, k3, k4, k5, pi, cap, rfl, h2, ⟨c0, c1, c2, c3, c4, c5, c6⟩, h4, h5, h6⟩ := HA.out.1 j p hp
      obtain ⟨g', m0, m1, m2, m3, m4, m5, pi', cap', rfl, h2', ⟨e0, e1, e2, e3, e4, e5, e6⟩, h4', h5', h6'⟩ := HA.out.2 j p hp
      obtain ⟨ln, hln⟩ : ∃ ln, ln = p.2.length := ⟨_, rfl⟩
      obtain ⟨o, ho⟩ : ∃ o, o = j * 7 := ⟨_, rfl⟩
      rw [← ho] at c0 c1 c2 c3 c4 c5 c6 e0 e1 e2 e3 e4 e5 e6
      rw [← hln] at c6 e6
      have CS : Hid (∀ W, Below w.heap.size w W → Calls Tryz.prog 36 #[.agg #[k0, k1, k2, k3, k4, k5], .agg #[m0, m1, m2, m3, m4, m5]] W fun e w' => e = .returned (.bool true) ∧ Below W.heap.size W w') := fun W hW => by
        have h := rsame17 _ p.1 (Nat.le_refl _) p.1 W w.heap.size _ _ hW.size (rep_stays hW (Nat.le_refl _) _ _ h4) (rep_stays hW (Nat.le_refl _) _ _ h4')
        rw [Vl.same_refl] at h
        exact h
      have CI : Hid (∀ W, Below w.heap.size w W → Calls Tryz.prog 16 #[.slice pi ln cap, .slice pi' ln cap'] W fun e w' => e = .returned (.bool true) ∧ Below W.heap.size W w') := fun W hW => by
        have h := ids_c p.2 p.2 pi pi' cap cap' W h6 (h5.stays hW) (h5'.stays hW)
        rw [← hln] at h
        simpa using h
      have CB : Hid (∀ W, Below wr.heap.size wr W → Below w.heap.size w W) := fun W hW => HR.out.trans (hW.mono HR.out.size)
      have cl : ∀ (p : BelowOf wr.heap.size wr) (o : Nat), p.W.cell? ⟨g, o, none⟩ = w.cell? ⟨g, o, none⟩ := fun p o => (CB.out _ p.h).cell (p := ⟨g, o, none⟩) h2
      have cl' : ∀ (p : BelowOf wr.heap.size wr) (o : Nat), p.W.cell? ⟨g', o, none⟩ = w.cell? ⟨g', o, none⟩ := fun p o => (CB.out _ p.h).cell (p := ⟨g', o, none⟩) h2'
      have a0 : ∀ p : BelowOf wr.heap.size wr, p.W.cell? ⟨g, o, none⟩ = some k0 := fun p => (cl p _).trans c0
      have a1 : ∀ p : BelowOf wr.heap.size wr, p.W.cell? ⟨g, o + 1, none⟩ = some k1 := fun p => (cl p _).trans c1
      have a2 : ∀ p : BelowOf wr.heap.size wr, p.W.cell? ⟨g, o + 2, none⟩ = some k2 := fun p => (cl p _).trans c2
      have a3 : ∀ p : BelowOf wr.heap.size wr, p.W.cell? ⟨g, o + 3, none⟩ = some k3 := fun p => (cl p _).trans c3
      have a4 : ∀ p : BelowOf wr.heap.size wr, p.W.cell? ⟨g, o + 4, none⟩ = some k4 := fun p => (cl p _).trans c4
      have a5 : ∀ p : BelowOf wr.heap.size wr, p.W.cell? ⟨g, o + 5, none⟩ = some k5 := fun p => (cl p _).trans c5
      have a6 : ∀ p : BelowOf wr.heap.size wr, p.W.cell? ⟨g, o + 6, none⟩ = some (.slice pi ln cap) := fun p => (cl p _).trans c6
      have b0 : ∀ p : BelowOf wr.heap.size wr, p.W.cell? ⟨g', o, none⟩ = some m0 := fun p => (cl' p _).trans e0
      have b1 : ∀ p : BelowOf wr.heap.size wr, p.W.cell? ⟨g', o + 1, none⟩ = some m1 := fun p => (cl' p _).trans e1
      have b2 : ∀ p : BelowOf wr.heap.size wr, p.W.cell? ⟨g', o + 2, none⟩ = some m2 := fun p => (cl' p _).trans e2
      have b3 : ∀ p : BelowOf wr.heap.size wr, p.W.cell? ⟨g', o + 3, none⟩ = some m3 := fun p => (cl' p _).trans e3
      have b4 : ∀ p : BelowOf wr.heap.size wr, p.W.cell? ⟨g', o + 4, none⟩ = some m4 := fun p => (cl' p _).trans e4
      have b5 : ∀ p : BelowOf wr.heap.size wr, p.W.cell? ⟨g', o + 5, none⟩ = some m5 := fun p => (cl' p _).trans e5
      have b6 : ∀ p : BelowOf wr.heap.size wr, p.W.cell? ⟨g', o + 6, none⟩ = some (.slice pi' ln cap') := fun p => (cl' p _).trans e6
      have ho' := ho.symm
      obtain ⟨j1, hj1⟩ : ∃ j1, j1 = j + 1 := ⟨_, rfl⟩
      obtain ⟨v1, v2⟩ : IntKind.i64.wrap ((j : Int) + 1) = (j1 : Int) ∧ wrap64 ((j : Int) + 1) = (j1 : Int) := succs hj1 (by omega)
      have HJ : Hid (j1 = j + 1 ∧ j < n) := ⟨hj1, hlt⟩
      clear c0 c1 c2 c3 c4 c5 c6 e0 e1 e2 e3 e4 e5 e6 cl cl' h2 h2' h4 h4' h5 h5' h6 h6' hp hln ho hj1 hjn hj hlt hl
      go_upto_region 6 with fail
      refine wp_region_below wr.heap.size wr (Below.refl _ _) (by kernel_rfl) (by kernel_rfl) ?_
      repeat (go_big_quiet_step (first | (go_at_call 36; exact below_call _ (Nat.le_refl _) (CS.out _ (CB.out _ (BelowOf.h _)))) | (go_at_call 16; exact below_call _ (Nat.le_refl _) (CI.out _ (CB.out _ (BelowOf.h _))))))
      refine wpQuiet_nil ?_
      intro _ hw'
      obtain ⟨pq, hw''⟩ := hw'
      subst hw''
      have HB2 : Hid (Below w.heap.size w pq.W) := CB.out _ pq.h
      go_wp2
      go_roundw
      case rel => first | exact ⟨j1, rfl, by have := HJ.out; omega, HB2.out⟩ | ((repeat apply Exists.intro); exact ⟨⟨j1, rfl, by have := HJ.out; omega, HB2.out⟩, rfl⟩)
      case measure =>
        simp only [intOf]
        have := HJ.out
        omega
end Go.Proofs.YtkigenldiinioaaGreatDoor
/- Trees as lists of keys with their numbers: what the calls make of them. -/
namespace Go.Proofs.YtkigenldiinioaaGreatDoor
open Go.RowKit Go.Shelf
open Vl (V)
attribute [local go_sem ↓] Go.wp_at_zero Go.wp_at_succ
namespace Bt
/-- what a tree has -/
def cont (t : T) (key : Nat → V) (ids : Nat → List Nat) : List (V × List Nat) := (flat t).map fun e => (key e, ids e)
/-- how many keys are ahead of one -/
def lspot (x : V) (L : List (V × List Nat)) : Nat := (L.takeWhile fun p => decide (Vl.cmp p.1 x < 0)).length
/-- a new key with a number -/
def lnew (x : V) (id : Nat) (L : List (V × List Nat)) : List (V × List Nat) := L.take (lspot x L) ++ (x, [id]) :: L.drop (lspot x L)
/-- how many numbers there are -/
def lsum (L : List (V × List Nat)) : Nat := (L.map fun p => p.2.length).sum
theorem spot_cont (key : Nat → V) (ids : Nat → List Nat) (x : V) (l : List Nat) : spot key x l = lspot x (l.map fun e => (key e, ids e)) := by
  rw [spot, lspot, List.takeWhile_map, List.length_map]
  rfl
theorem spot_congr {key key' : Nat → V} {x : V} {l : List Nat} (h : ∀ e ∈ l, key' e = key e) : spot key' x l = spot key x l := by
  unfold spot
  induction l with
  | nil => rfl
  | cons a r ih =>
    have ha := h a (by simp)
    have hr := ih fun e he => h e (by simp [he])
    by_cases q : ahead key x a = true
    · rw [List.takeWhile_cons_of_pos q, List.takeWhile_cons_of_pos (by rw [ahead, ha]; exact q), List.length_cons, List.length_cons, hr]
    · rw [List.takeWhile_cons_of_neg q, List.takeWhile_cons_of_neg (by rw [ahead, ha]; exact q)]
theorem kins_cont {key : Nat → V} {ids : Nat → List Nat} {x : V} {e id : Nat} {l : List Nat} (he : ∀ f ∈ l, f ≠ e) : (kins (set key e x) e l).map (fun f => (set key e x f, set ids e [id] f)) = lnew x id (l.map fun f => (key f, ids f)) := by
  have h1 : ∀ f ∈ l, set key e x f = key f := fun f hf => set_other (he f hf)
  have hm : l.map (fun f => (set key e x f, set ids e [id] f)) = l.map fun f => (key f, ids f) := List.map_congr_left fun f hf => by rw [set_other (he f hf), set_other (he f hf)]
  rw [kins, lnew, set_same, spot_congr h1, spot_cont key ids, List.map_append, List.map_cons, List.map_take, List.map_drop, hm, set_same, set_same]
theorem at_cont {key : Nat → V} {ids : Nat → List Nat} {x : V} {l : List Nat} {L : List (V × List Nat)} (hL : L = l.map fun e => (key e, ids e)) (h : ∀ p ∈ L, Vl.cmp p.1 x ≠ 0) : at? key x l = none := at_less fun e he => h (key e, ids e) (by rw [hL]; exact List.mem_map.2 ⟨e, he, rfl⟩)
end Bt
/-- a tree in memory, with what it has: F where no key's memory lies, O its own blocks -/
def TSt (w : World) (F O : Nat → Prop) (tb : Nat) (L : List (V × List Nat)) : Prop := ∃ t key ids ir n, TA w F tb t key ids ir n ∧ L = Bt.cont t key ids ∧ (∀ g, OB tb t ir g → O g) ∧ ∀ g, O g → F g
theorem TSt.start {w : World} {F : Nat → Prop} {tb : Nat} (h : w.heap[tb]? = some (.cells #[.pointer none, .int .i64 0] 69 (0, 0))) (hF : F tb) (hl : ∀ g, F g → g < w.heap.size) : TSt w F (fun g => g = tb) tb [] :=
  ⟨.nil, fun _ => Bt.wv 0, fun _ => [], fun _ => 0, 0, {
    box := h
    lt := hl
    fbox := hF
    nt := trivial
    fnt := fun g hg => by cases hg
    nd := List.nodup_nil
    ent := fun e he => by cases he
    inj := fun e he => by cases he
    wf := trivial
    rises := List.Pairwise.nil
    lev := by simp [Bt.levels, Bt.flat, Bt.fewest_zero]
    small := fun e he => by cases he
    asc := fun e he => by cases he
    sum := rfl
    le := by omega }, rfl, fun g hg => hg.elim (fun q => q) (fun q => q.elim (fun q => nomatch q) (fun ⟨e, he, _⟩ => nomatch he)), fun g hg => by rw [hg]; exact hF⟩
theorem TSt.lt {w : World} {F O : Nat → Prop} {tb : Nat} {L : List (V × List Nat)} (h : TSt w F O tb L) {g : Nat} (hg : F g) : g < w.heap.size := by
  obtain ⟨t, key, ids, ir, n, h1, _⟩ := h
  exact h1.lt g hg
/-- a tree stays where another one changes -/
theorem TSt.other {w w' : World} {F F' O P : Nat → Prop} {tb : Nat} {L : List (V × List Nat)} (h : TSt w F O tb L) (hk : Kept P w w') (hP : ∀ g, O g → ¬ P g) (hPF : ∀ g, P g → F g) (h1 : ∀ g, F g → F' g) (h2 : ∀ g, F' g → F g ∨ w.heap.size ≤ g) (h3 : ∀ g, F' g → g < w'.heap.size) : TSt w' F' O tb L := by
  obtain ⟨t, key, ids, ir, n, hT, hL, ho, hoF⟩ := h
  have own : ∀ g, OB tb t ir g → w'.heap[g]? = w.heap[g]? := fun g hg => hk.block g (hT.lt g (hT.ob hg)) (hP g (ho g hg))
  refine ⟨t, key, ids, ir, n, {
    box := (own tb (.inl rfl)).trans hT.box
    lt := h3
    fbox := h1 _ hT.fbox
    nt := nt_stays hT.nt fun g hg => own g (.inr (.inl hg))
    fnt := fun g hg => h1 _ (hT.fnt g hg)
    nd := hT.nd
    ent := fun e he => ⟨h1 _ (hT.ent e he).1, h1 _ (hT.ent e he).2.1, (hT.ent e he).2.2.stays (own e (.inr (.inr ⟨e, he, .inl rfl⟩))) (own _ (.inr (.inr ⟨e, he, .inr rfl⟩))) fun g hg hf => ⟨hk.block g hg fun q => hf (hPF g q), Nat.lt_of_lt_of_le hg hk.size, fun q => by
      rcases h2 g q with q | q
      · exact hf q
      · omega⟩⟩
    inj := hT.inj
    wf := hT.wf
    rises := hT.rises
    lev := hT.lev
    small := hT.small
    asc := hT.asc
    sum := hT.sum
    le := hT.le }, hL, ho, fun g hg => h1 g (hoF g hg)⟩
theorem TSt.stays {w w' : World} {F O : Nat → Prop} {tb : Nat} {L : List (V × List Nat)} (h : TSt w F O tb L) (hb : Below w.heap.size w w') : TSt w' F O tb L := by
  obtain ⟨t, key, ids, ir, n, hT, hL, ho, hoF⟩ := h
  exact ⟨t, key, ids, ir, n, hT.stays hb, hL, ho, hoF⟩
theorem TSt.sum {w : World} {F O : Nat → Prop} {tb : Nat} {L : List (V × List Nat)} {t : Bt.T} {key : Nat → V} {ids : Nat → List Nat} {ir : Nat → Nat} {n : Nat} (hT : TA w F tb t key ids ir n) (hL : L = Bt.cont t key ids) (_ : ∀ g, O g → F g) : n = Bt.lsum L ∧ L.length = (Bt.flat t).length := by
  rw [hL, Bt.lsum, Bt.cont, List.map_map, hT.sum]
  exact ⟨rfl, by rw [List.length_map]⟩
/-- Put of a new key -/
theorem put_t {w : World} {F O : Nat → Prop} {tb : Nat} {L : List (V × List Nat)} (h : TSt w F O tb L) (hU : Bn.HasU w) {x : V} {v : Value} (hv : Rep w w.heap.size x v) (hx : Bt.kerr x = 0) (hsm : Vl.small x) {id : Nat} (he : ∀ p ∈ L, Vl.cmp p.1 x ≠ 0) (hn : Bt.lsum L < 1024) :
    Calls Tryz.prog 24 #[.pointer (some ⟨tb, 0, none⟩), v, .int .u64 (id : Int)] w fun ex w' => ex = .returned (.int .i64 0) ∧ ∃ F' O', TSt w' F' O' tb (Bt.lnew x id L) ∧ Kept O w w' ∧ (∀ g, F g → F' g) ∧ (∀ g, F' g → F g ∨ w.heap.size ≤ g) ∧ (∀ g, O' g → O g ∨ w.heap.size ≤ g) ∧ ∀ g, O g → O' g := by
  obtain ⟨t, key, ids, ir, n, hT, hL, ho, hoF⟩ := h
  obtain ⟨hs, _⟩ := TSt.sum (O := O) hT hL hoF
  refine (put_new hT hU (withOK_all t) hv hx hsm (id := id) (Bt.at_cont hL he) (by omega)).mono ?_
  rintro ex w' ⟨rfl, e, t', i', s, k1, k2, k3, k4, k5, k6⟩
  have hne : ∀ f ∈ Bt.flat t, f ≠ e := fun f hf q => by have := hT.lt f (hT.ent f hf).1; omega
  refine ⟨rfl, _, fun g => O g ∨ OB tb t' (Bt.set ir e i') g, ⟨t', _, _, _, _, k5, ?_, fun g hg => .inr hg, fun g hg => ?_⟩, k4.mono ho, fun g hg => .inl hg, fun g hg => ?_, fun g hg => ?_, fun g hg => .inl hg⟩
  · rw [Bt.cont, k1, hL]
    exact (Bt.kins_cont hne).symm
  · rcases hg with q | q
    · exact .inl (hoF g q)
    · exact k5.ob q
  · rcases hg with q | q
    · exact .inl q
    · exact .inr (by omega)
  · rcases hg with q | q
    · exact .inl q
    · exact (k6 g q).imp (ho g) (fun q => q)
end Go.Proofs.YtkigenldiinioaaGreatDoor
