/- Several texts, joined: RCmpA, RfB, RfM, AlM, RepF, RName, RZero -/
import Derived.Test.YtkigenldiinioaaGreatDoorQ35M
import Derived.Test.YtkigenldiinioaaGreatDoorRfAM
import Derived.Test.YtkigenldiinioaaGreatDoorQ32M
import Derived.Test.YtkigenldiinioaaGreatDoorQ02M
import Derived.Test.YtkigenldiinioaaGreatDoorQ08M
/- The document's own Compare, walked, whatever the values are: it answers as the program's does. -/
namespace Go.Proofs.YtkigenldiinioaaGreatDoor
open Go.RowKit
open Vl (V)
theorem rcompare20 : ∀ (N : Nat) (a : V), Vl.count a ≤ N → ∀ (b : V) (w : World) (H : Nat) (va vb : Value), H ≤ w.heap.size → Rep w H a va → Rep w H b vb →
    Calls Tryz.prog 21 #[va, vb] w fun e w' => e = .returned (.int .i64 (Vl.cmp a b)) ∧ Below w.heap.size w w' := by
  intro N
  induction N with
  | zero => intro t ht; obtain ⟨k, b, n, s, l, f⟩ := t; rw [Vl.count] at ht; omega
  | succ N ih =>
    rintro ⟨k, b, n, s, l, f⟩ ht ⟨k2, b2, n2, s2, l2, f2⟩ w H va vb hH hA hB
    rw [Rep] at hA hB
    obtain ⟨ao, ac, fo, fc, rfl, h2, h3, h4, h5, h6, h7, h8⟩ := hA
    obtain ⟨ao2, ac2, fo2, fc2, rfl, g2, g3, g4, g5, g6, g7, g8⟩ := hB
    rw [Vl.cmp]
    by_cases hk : k = k2
    · subst hk
      rw [if_neg (by simp)]
      by_cases k1 : k = 1
      · subst k1
        rw [if_pos rfl]
        exact rcompare20_bool b n s _ _ b2 n2 s2 _ _ w
      rw [if_neg k1]
      by_cases k2 : k = 2
      · subst k2
        rw [if_pos rfl]
        exact rcompare20_int b n s _ _ b2 n2 s2 _ _ w
      rw [if_neg k2]
      by_cases k3 : k = 3 ∨ k = 4
      · rw [if_pos k3]
        exact rcompare20_text k k3 b n s _ _ b2 n2 s2 _ _ w
      rw [if_neg k3]
      by_cases k5 : k = 5
      · subst k5
        rw [if_pos rfl]
        exact rcompare20_list N ih b n s l l2 f ao l.length ac _ b2 n2 s2 ao2 l2.length ac2 _ w H hH ht ⟨rfl, rfl⟩ (by unfold maxLen at h5; omega) (by unfold maxLen at g5; omega) h7 g7
      rw [if_neg k5]
      by_cases k6 : k = 6
      · subst k6
        rw [if_pos rfl]
        exact rcompare20_struct N ih b n s l f f2 _ fo f.length fc b2 n2 s2 _ fo2 f2.length fc2 w H hH ht ⟨rfl, rfl⟩ (by unfold maxLen at h6; omega) (by unfold maxLen at g6; omega) h8 g8
      rw [if_neg k6]
      exact rcompare20_else k k1 k2 (fun h => k3 (.inl h)) (fun h => k3 (.inr h)) k5 k6 b n s _ _ b2 n2 s2 _ _ w
    · rw [if_pos hk]
      exact rcompare20_kinds k b n s _ _ k2 b2 n2 s2 _ _ w hk
end Go.Proofs.YtkigenldiinioaaGreatDoor
/- The document's Find: walked. -/
namespace Go.Proofs.YtkigenldiinioaaGreatDoor
open Go.RowKit
open Vl (V)
attribute [local go_sem ↓] Go.wp_at_zero Go.wp_at_succ
namespace Bt
theorem lat_first {x : V} : ∀ {L : KL} {j : Nat} {p : V × List Nat}, L[j]? = some p → Vl.cmp p.1 x = 0 → (∀ (m : Nat) (q : V × List Nat), m < j → L[m]? = some q → Vl.cmp q.1 x ≠ 0) → lat x L = some p
  | [], _, _, h, _, _ => by simp at h
  | a :: r, 0, p, h, hc, _ => by
    simp at h
    subst h
    rw [lat, List.find?_cons_of_pos (by simpa using hc)]
  | a :: r, j + 1, p, h, hc, hn => by
    have h0 := hn 0 a (by omega) rfl
    rw [lat, List.find?_cons_of_neg (by simpa using h0)]
    exact lat_first (L := r) (j := j) (by simpa using h) hc fun m q hm hq => hn (m + 1) q (by omega) (by simpa using hq)
theorem lat_never {x : V} {L : KL} (h : ∀ (m : Nat) (q : V × List Nat), L[m]? = some q → Vl.cmp q.1 x ≠ 0) : lat x L = none := by
  rw [lat, List.find?_eq_none]
  intro q hq
  obtain ⟨m, hm⟩ := List.getElem?_of_mem hq
  simpa using h m q hm
end Bt
/-- numbers that were handed back -/
def NumR (w : World) (l : List Nat) (e : Ending) (w' : World) : Prop := ∃ pi m cap, e = .returned (.slice pi m cap) ∧ m = l.length ∧ NumsAt w' pi l ∧ Below w.heap.size w w'
theorem own_empty_n (w : World) : (w.alloc (.cells #[] 51)).ownsRow w.heap.size 51 1 (.slice (some ⟨w.heap.size, 0, none⟩) 0 0) 0 [] :=
  ⟨rfl, .inr ⟨w.heap.size, 0, #[], rfl, Nat.le_refl _, heap_alloc_new w _, Nat.le_refl _, by decide, rfl, rfl⟩⟩
set_option maxHeartbeats 8000000 in
set_option maxRecDepth 100000 in
theorem rfind_c (L : Bt.KL) (a : Option Addr) (ca : Nat) (w : World) (x : V) (v : Value) (hL : L.length ≤ 1000000) (hi : ∀ p ∈ L, 1 ≤ p.2.length) (ha : EntsAt w a L) (hv : Rep w w.heap.size x v) :
    Calls Tryz.prog 17 #[.slice a L.length ca, v] w (NumR w (Bt.lids x L)) := by
  obtain ⟨n, hn⟩ : ∃ n, n = L.length := ⟨_, rfl⟩
  rw [← hn] at hL ⊢
  have HN : Hid (n = L.length ∧ n ≤ 1000000 ∧ ∀ p ∈ L, 1 ≤ p.2.length) := ⟨hn, hL, hi⟩
  have HA : Hid (EntsAt w a L) := ha
  have hl := hL
  obtain ⟨d0, d1, d2, d3, d4, d5, rfl⟩ := repV_box hv
  obtain ⟨qk, qb, qn, qs, qa, ql, qc, qf, qm, qd, f0, f1, f2, f3, f4, f5⟩ := rep_form hv
  subst f0 f1 f2 f3 f4 f5
  obtain ⟨w1, hw1⟩ : ∃ w1, w1 = w.alloc (.cells #[.int .u8 (qk : Int), .bool qb, .int .i64 qn, .string qs, .slice qa ql qc, .slice qf qm qd] 27) := ⟨_, rfl⟩
  obtain ⟨B, hB⟩ : ∃ B, B = w.heap.size := ⟨_, rfl⟩
  have b1 : Below w.heap.size w w1 := by rw [hw1]; exact below_new _ _
  have hb1 : w1.heap[B]? = some (.cells #[.int .u8 (qk : Int), .bool qb, .int .i64 qn, .string qs, .slice qa ql qc, .slice qf qm qd] 27 (0, 0)) := by rw [hw1, hB]; exact heap_alloc_new w _
  have HD : Hid (∀ W, Below w1.heap.size w1 W → Below w.heap.size w W ∧ W.heap[B]? = some (.cells #[.int .u8 (qk : Int), .bool qb, .int .i64 qn, .string qs, .slice qa ql qc, .slice qf qm qd] 27 (0, 0))) := fun W hW => ⟨b1.trans (hW.mono b1.size), (hW.block _ (lt_of_row hb1)).trans hb1⟩
  have HC : Hid (∀ (p : V × List Nat) (va : Value) (W : World), Below w.heap.size w W → Rep w w.heap.size p.1 va → Calls Tryz.prog 21 #[va, .agg #[.int .u8 (qk : Int), .bool qb, .int .i64 qn, .string qs, .slice qa ql qc, .slice qf qm qd]] W fun e w' => e = .returned (.int .i64 (Vl.cmp p.1 x)) ∧ Below W.heap.size W w') := fun p va W hW hr => rcompare20 _ p.1 (Nat.le_refl _) x W w.heap.size _ _ hW.size (rep_stays hW (Nat.le_refl _) _ _ hr) (rep_stays hW (Nat.le_refl _) _ _ hv)
  obtain ⟨i1, hi1, hy0, hy1, hy2⟩ := info_parts insU_info
  clear hn ha hL hi hv b1 hb1
  go_enter Tryz.func17, Tryz.ntmps17
  go_wp2_with fail
  rw [← hw1, ← hB]
  clear hw1 hB
  go_loopw [9] (fun i wr => ∃ (j : Nat), i = .int .i64 (j : Int) ∧ j ≤ n ∧ (∀ (m : Nat) (q : V × List Nat), m < j → L[m]? = some q → Vl.cmp q.1 x ≠ 0) ∧ Below w1.heap.size w1 wr) (fun i _ => n - (intOf i).toNat)
  case atStart => exact ⟨0, rfl, by omega, fun m q h => by omega, Below.refl _ _⟩
  case round =>
    obtain ⟨j, rfl, hj, hno, hbr⟩ := hrel
    have HR : Hid (Below w1.heap.size w1 wr ∧ ∀ (m : Nat) (q : V × List Nat), m < j → L[m]? = some q → Vl.cmp q.1 x ≠ 0) := ⟨hbr, hno⟩
    clear hbr hno
    by_cases hjn : j = n
    · subst hjn
      have q0 : ¬ (j : Int) < (j : Int) := by omega
      have E : Hid (Bt.lids x L = [] ∧ Below w.heap.size w wr) := ⟨Bt.lids_none (Bt.lat_never fun m q hq => HR.out.2 m q (by have := (List.getElem?_eq_some_iff.1 hq).1; have := HN.out.1; omega) hq), (HD.out _ HR.out.1).1⟩
      go_wp2
      go_ret
      exact ⟨none, 0, 0, rfl, by rw [E.out.1]; rfl, (by rw [E.out.1]; exact fun m y hy => by simp at hy), E.out.2⟩
    · have hlt : j < n := by omega
      have q0 : (j : Int) < (n : Int) := by omega
      have q1 : (0 : Int) ≤ (j : Int) := by omega
      have HBL : Hid (Below w.heap.size w wr) := (HD.out _ HR.out.1).1
      obtain ⟨p, hp⟩ : ∃ p, L[j]? = some p := ⟨_, List.getElem?_eq_getElem (by have := HN.out; omega)⟩
      obtain ⟨g, k0, k1, k2, k3, k4, k5, pi, cap, rfl, h2, ⟨c0, c1, c2, c3, c4, c5, c6⟩, h4, h5, h6⟩ := HA.out j p hp
      obtain ⟨ln, hln⟩ : ∃ ln, ln = p.2.length := ⟨_, rfl⟩
      obtain ⟨o, ho⟩ : ∃ o, o = j * 7 := ⟨_, rfl⟩
      rw [← ho] at c0 c1 c2 c3 c4 c5 c6
      rw [← hln] at c6
      have cl := fun o => (HBL.out).cell (p := ⟨g, o, none⟩) h2
      have a0 := (cl _).trans c0
      have a1 := (cl _).trans c1
      have a2 := (cl _).trans c2
      have a3 := (cl _).trans c3
      have a4 := (cl _).trans c4
      have a5 := (cl _).trans c5
      have a6 := (cl _).trans c6
      have ho' := ho.symm
      obtain ⟨kk0, kk1, kk2, kk3, kk4, kk5, ky0, ky1, kz0, kz1, f0, f1, f2, f3, f4, f5⟩ := rep_form h4
      subst f0 f1 f2 f3 f4 f5
      obtain ⟨j1, hj1⟩ : ∃ j1, j1 = j + 1 := ⟨_, rfl⟩
      obtain ⟨v1, v2⟩ : IntKind.i64.wrap ((j : Int) + 1) = (j1 : Int) ∧ wrap64 ((j : Int) + 1) = (j1 : Int) := succs hj1 (by omega)
      obtain ⟨c, hc⟩ : ∃ c, c = Vl.cmp p.1 x := ⟨_, rfl⟩
      have HJ : Hid (j1 = j + 1 ∧ j < n ∧ L[j]? = some p ∧ ln = p.2.length ∧ c = Vl.cmp p.1 x ∧ 1 ≤ ln ∧ ln ≤ 1000000) := ⟨hj1, hlt, hp, hln, hc, by rw [hln]; exact HN.out.2.2 p (List.mem_of_getElem? hp), by rw [hln]; exact h6⟩
      have CC : Hid (∀ W, Below w.heap.size w W → Calls Tryz.prog 21 #[.agg #[.int .u8 (kk0 : Int), .bool kk1, .int .i64 kk2, .string kk3, .slice kk4 kk5 ky0, .slice ky1 kz0 kz1], .agg #[.int .u8 (qk : Int), .bool qb, .int .i64 qn, .string qs, .slice qa ql qc, .slice qf qm qd]] W fun e w' => e = .returned (.int .i64 c) ∧ Below W.heap.size W w') := fun W hW => by
        rw [hc]; exact HC.out p _ W hW h4
      have H5 : Hid (NumsAt w pi p.2) := h5
      clear c0 c1 c2 c3 c4 c5 c6 cl h2 h4 h5 h6 hp hln ho hj1 hjn hj hlt hl hc
      go_upto_region 4 with fail
      obtain ⟨w3, hw3⟩ : ∃ w3, w3 = wr.alloc (.cells #[.int .u8 (kk0 : Int), .bool kk1, .int .i64 kk2, .string kk3, .slice kk4 kk5 ky0, .slice ky1 kz0 kz1, .slice pi ln cap] 49) := ⟨_, rfl⟩
      have n1 := by have := heap_alloc_new wr (.cells #[.int .u8 (kk0 : Int), .bool kk1, .int .i64 kk2, .string kk3, .slice kk4 kk5 ky0, .slice ky1 kz0 kz1, .slice pi ln cap] 49); rw [← hw3] at this; exact this
      have n2 : Below wr.heap.size wr w3 := by rw [hw3]; exact below_new _ _
      rw [← hw3]
      obtain ⟨X, hX⟩ : ∃ X, X = wr.heap.size := ⟨_, rfl⟩
      rw [← hX] at n1 ⊢
      have HB3 : Hid (Below w1.heap.size w1 w3 ∧ w3.heap[X]? = some (.cells #[.int .u8 (kk0 : Int), .bool kk1, .int .i64 kk2, .string kk3, .slice kk4 kk5 ky0, .slice ky1 kz0 kz1, .slice pi ln cap] 49 (0, 0))) := ⟨HR.out.1.trans (n2.mono HR.out.1.size), n1⟩
      have y0 := cells_at n1 0 _ rfl
      have y1 := cells_at n1 1 _ rfl
      have y2 := cells_at n1 2 _ rfl
      have y3 := cells_at n1 3 _ rfl
      have y4 := cells_at n1 4 _ rfl
      have y5 := cells_at n1 5 _ rfl
      have zb := (HD.out _ HB3.out.1).2
      have z0 := cells_at zb 0 _ rfl
      have z1 := cells_at zb 1 _ rfl
      have z2 := cells_at zb 2 _ rfl
      have z3 := cells_at zb 3 _ rfl
      have z4 := cells_at zb 4 _ rfl
      have z5 := cells_at zb 5 _ rfl
      clear n2 hw3 n1 zb hX
      go_wp2_with fail
      refine (CC.out _ (HD.out _ HB3.out.1).1).mono ?_
      rintro ex w4 ⟨rfl, hb4⟩
      have HB4 : Hid (Below w1.heap.size w1 w4 ∧ w4.heap[X]? = some (.cells #[.int .u8 (kk0 : Int), .bool kk1, .int .i64 kk2, .string kk3, .slice kk4 kk5 ky0, .slice ky1 kz0 kz1, .slice pi ln cap] 49 (0, 0))) := ⟨HB3.out.1.trans (hb4.mono HB3.out.1.size), (hb4.block _ (lt_of_row HB3.out.2)).trans HB3.out.2⟩
      clear hb4 y0 y1 y2 y3 y4 y5 z0 z1 z2 z3 z4 z5 a0 a1 a2 a3 a4 a5 a6
      have y6 := cells_at HB4.out.2 6 _ rfl
      by_cases hc0 : c = 0
      · have qc : (c == 0) = true := by simp [hc0]
        have E : Hid (Bt.lids x L = p.2) := Bt.lids_some (Bt.lat_first HJ.out.2.2.1 (by rw [← HJ.out.2.2.2.2.1]; exact hc0) HR.out.2)
        subst hc0
        have HOWN : Hid ((w4.alloc (.cells #[] 51)).ownsRow w.heap.size 51 1 (.slice (some ⟨w4.heap.size, 0, none⟩) 0 0) 0 []) := by
          have h := own_empty_n w4
          have hs := (HD.out _ HB4.out.1).1.size
          refine ⟨h.1, ?_⟩
          rcases h.2 with ⟨q, _⟩ | ⟨g2, cap2, cur2, r1, r2, r3⟩
          · cases q
          · cases r1
            exact .inr ⟨_, _, cur2, rfl, hs, r3⟩
        have HNS : Hid (∃ gp, pi = some ⟨gp, 0, none⟩ ∧ ∀ j u, (Bt.nums p.2)[j]? = some u → (w4.alloc (.cells #[] 51)).cell? ((⟨gp, 0, none⟩ : Addr).add j) = some u) := by
          have hpl := HJ.out
          obtain ⟨gp, hgp, _, _⟩ := H5.out 0 (p.2[0]'(by omega)) (List.getElem?_eq_getElem _)
          refine ⟨gp, hgp, fun m u hu => ?_⟩
          rw [Bt.nums, List.getElem?_map] at hu
          cases hq : p.2[m]? with
          | none => rw [hq] at hu; cases hu
          | some y =>
            rw [hq] at hu
            cases hu
            obtain ⟨g3, hg3, hl3, hc3⟩ := H5.out m y hq
            rw [hgp] at hg3
            cases hg3
            rw [Addr.add_mid, Nat.zero_add]
            have b5 : Below w.heap.size w (w4.alloc (.cells #[] 51)) := (HD.out _ HB4.out.1).1.trans ((below_new w4 _).mono (HD.out _ HB4.out.1).1.size)
            exact (b5.cell (p := ⟨_, m, none⟩) hl3).trans hc3
        obtain ⟨gp, rfl, hns⟩ := HNS.out
        have HNS2 : Hid (∀ j u, (Bt.nums p.2)[j]? = some u → (w4.alloc (.cells #[] 51)).cell? ((⟨gp, 0, none⟩ : Addr).add j) = some u) := hns
        clear hns HNS
        have HLN : Hid ((Bt.nums p.2).length = ln * 1 ∧ 0 < ln) := ⟨by rw [Bt.nums, List.length_map, HJ.out.2.2.2.1]; omega, by have := HJ.out; omega⟩
        have fit63 : Hid (0 + ln ≤ maxLen) := by show _ ≤ _; have := HJ.out; unfold maxLen; omega
        have fit47 : Hid ((0 + ln) * 8 ≤ 140737488355328) := by show _ ≤ _; have := HJ.out; omega
        have HSZ : Hid (w.heap.size ≤ (w4.alloc (.cells #[] 51)).heap.size) := by have := (HD.out _ HB4.out.1).1.size; show _ ≤ _; simp; omega
        have HNX : Hid (∀ gg cap w5, (w4.alloc (.cells #[] 51)).grownBy w5 (some w4.heap.size) → w5.ownsRow w.heap.size 51 1 (.slice (some ⟨gg, 0, none⟩) (0 + ln) cap) (0 + ln) ([] ++ Bt.nums p.2) → (∃ pi m cap2, Value.slice (some ⟨gg, 0, none⟩) ln cap = .slice pi m cap2 ∧ m = (Bt.lids x L).length ∧ NumsAt w5 pi (Bt.lids x L) ∧ Below w.heap.size w w5)) := fun gg cap w5 h1 h2 => by
          have b4 := (HD.out _ HB4.out.1).1
          have b5 : Below w.heap.size w (w4.alloc (.cells #[] 51)) := b4.trans ((below_new w4 _).mono b4.size)
          have b6 := b5.grown h1 b5.size (fun k hk => by
            obtain rfl := Option.some.inj hk
            exact b4.size)
          have hln := HJ.out.2.2.2.1
          rw [List.nil_append] at h2
          have hN : NO w p.2 (.slice (some ⟨gg, 0, none⟩) ln cap) w5 := ⟨b6, by rw [← hln]; rw [Nat.zero_add] at h2; exact h2⟩
          obtain ⟨a2, c2, e2, hA2⟩ := hN.done
          rw [E.out]
          refine ⟨a2, p.2.length, c2, e2, rfl, hA2.at fun g hg => hg.2, b6⟩
        have y6' : (w4.alloc (.cells #[] 51)).cell? ⟨X, 6, none⟩ = some (.slice (some ⟨gp, 0, none⟩) ln cap) := ((below_new w4 _).cell (p := ⟨X, 6, none⟩) (lt_of_row HB4.out.2)).trans y6
        clear y6
        go_wp2_with (first | (at_builtin; refine wpList_append_lies _ rfl _ _ 38 rfl w.heap.size 51 i1 _ 1 8 Tryz.underlying38 hi1 hy0 hy1 hy2 rfl (by decide) _ _ _ rfl HOWN.out ⟨gp, 0, none⟩ ln cap (Bt.nums p.2) rfl HLN.out.1 HNS2.out nums_one HLN.out.2 fit63.out fit47.out HSZ.out _ rfl ?_; intro gg cap5 w5 hown5 hgrow hat hglt; have S5 : Hid (∃ pi m cap2, Value.slice (some ⟨gg, 0, none⟩) ln cap5 = .slice pi m cap2 ∧ m = (Bt.lids x L).length ∧ NumsAt w5 pi (Bt.lids x L) ∧ Below w.heap.size w w5) := HNX.out gg cap5 w5 hgrow hown5; clear hown5 hgrow hat hglt))
        go_ret
        obtain ⟨pi2, m2, cap2, e2, s2⟩ := S5.out
        exact ⟨pi2, m2, cap2, by rw [← e2]; rfl, s2⟩
      · have qc : (c == 0) = false := by simp [hc0]
        have HC0 : Hid (c ≠ 0) := hc0
        clear hc0
        go_wp2
        clear v1 v2
        go_roundw
        case rel =>
          refine ⟨j1, rfl, by have := HJ.out; omega, fun m q hm hq => ?_, HB4.out.1⟩
          have hj := HJ.out
          rcases Nat.lt_or_ge m j with h | h
          · exact HR.out.2 m q h hq
          · obtain rfl : m = j := by omega
            rw [hj.2.2.1] at hq
            obtain rfl := Option.some.inj hq
            rw [← hj.2.2.2.2.1]
            exact HC0.out
        case measure =>
          simp only [intOf]
          have := HJ.out
          omega
end Go.Proofs.YtkigenldiinioaaGreatDoor
/- What the document's Put makes of a list, step by step, as mathematics. -/
namespace Go.Proofs.YtkigenldiinioaaGreatDoor
open Vl (V)
namespace Bt
theorem lspot_cut {x : V} {L : KL} (h : L.Pairwise fun p q => Vl.cmp p.1 q.1 < 0) : Cut (fun p : V × List Nat => decide (Vl.cmp p.1 x < 0)) L (lspot x L) :=
  cut_while _ (h.imp fun {a b} hab hb => by
    rw [decide_eq_true_eq] at hb ⊢
    exact lt_trans hab hb)
theorem lat_mem {x : V} {L : KL} {p : V × List Nat} (h : lat x L = some p) : p ∈ L ∧ Vl.cmp p.1 x = 0 := ⟨List.mem_of_find?_eq_some h, by simpa using List.find?_some h⟩
theorem lat_some {x : V} {L : KL} (h : L.Pairwise fun p q => Vl.cmp p.1 q.1 < 0) {p : V × List Nat} (hp : p ∈ L) (hc : Vl.cmp p.1 x = 0) : lat x L = some p := by
  induction L with
  | nil => cases hp
  | cons a r ih =>
    obtain ⟨h1, h2⟩ := List.pairwise_cons.1 h
    rcases List.mem_cons.1 hp with q | q
    · subst q
      rw [lat, List.find?_cons_of_pos (by simpa using hc)]
    · have h3 := lt_of_lt_of_eq (h1 p q) hc
      rw [lat, List.find?_cons_of_neg (by simp; omega)]
      exact ih h2 q
/-- where an entry lies against a key -/
theorem spot_cases {x : V} {L : KL} (h : L.Pairwise fun p q => Vl.cmp p.1 q.1 < 0) {j : Nat} {p : V × List Nat} (hp : L[j]? = some p) :
    (Vl.cmp p.1 x < 0 ↔ j < lspot x L) ∧ (Vl.cmp p.1 x = 0 → j = lspot x L ∧ lat x L = some p) ∧ (j = lspot x L → (lat x L).isSome = true → Vl.cmp p.1 x = 0) := by
  have hc := lspot_cut (x := x) h
  have h1 : Vl.cmp p.1 x < 0 ↔ j < lspot x L := by simpa using hc.2 j p hp
  refine ⟨h1, fun h0 => ?_, fun hj hl => ?_⟩
  · refine ⟨?_, lat_some h (List.mem_of_getElem? hp) h0⟩
    have hge : ¬ j < lspot x L := fun q => by have := h1.2 q; omega
    rcases Nat.lt_or_ge (lspot x L) j with q | q
    · have hjl := (List.getElem?_eq_some_iff.1 hp).1
      have hlt : lspot x L < L.length := by omega
      have h3 := List.pairwise_iff_getElem.1 h (lspot x L) j hlt hjl q
      rw [(List.getElem?_eq_some_iff.1 hp).2] at h3
      have h4 := lt_of_lt_of_eq h3 h0
      have := (hc.2 (lspot x L) _ (List.getElem?_eq_getElem hlt)).1 (by simpa using h4)
      omega
    · omega
  · obtain ⟨q, hq⟩ := Option.isSome_iff_exists.1 hl
    obtain ⟨hm, h0⟩ := lat_mem hq
    obtain ⟨i, hi⟩ := List.getElem?_of_mem hm
    have hil := (List.getElem?_eq_some_iff.1 hi).1
    have hjl := (List.getElem?_eq_some_iff.1 hp).1
    have hge : ¬ i < lspot x L := fun c => by
      have := (hc.2 i q hi).2 c
      simp at this
      omega
    rcases Nat.lt_or_ge j i with c | c
    · have h3 := List.pairwise_iff_getElem.1 h j i hjl hil c
      rw [(List.getElem?_eq_some_iff.1 hp).2, (List.getElem?_eq_some_iff.1 hi).2] at h3
      have h4 := h1.1 (lt_of_lt_of_eq h3 h0)
      omega
    · obtain rfl : i = j := by omega
      rw [hp] at hi
      rw [Option.some.inj hi]
      exact h0
/-- entries, as far as they were looked at -/
def pst (x : V) (id : Nat) (L : KL) (j : Nat) : KL := if (lat x L).isSome = true then lon x (nins id) (L.take j) else if lspot x L < j then L.take (lspot x L) ++ (x, [id]) :: (L.take j).drop (lspot x L) else L.take j
theorem lon_app {x : V} {f : List Nat → List Nat} {A B : KL} : lon x f (A ++ B) = lon x f A ++ lon x f B := List.map_append
theorem pst_zero {x : V} {id : Nat} {L : KL} : pst x id L 0 = [] := by
  rw [pst]
  split
  · rfl
  · rw [if_neg (by omega)]; rfl
theorem pst_length {x : V} {id : Nat} {L : KL} {j : Nat} (hj : j ≤ L.length) : (pst x id L j).length ≤ j + 1 := by
  rw [pst]
  split
  · rw [lon, List.length_map, List.length_take]; omega
  · split
    · simp only [List.length_append, List.length_cons, List.length_drop, List.length_take]; omega
    · rw [List.length_take]; omega
section
variable {x : V} {id : Nat} {L : KL} {j : Nat} {p : V × List Nat}
theorem drop_step (hp : L[j]? = some p) {s : Nat} (hs : s ≤ j) : (L.take (j + 1)).drop s = (L.take j).drop s ++ [p] := by
  have hl := (List.getElem?_eq_some_iff.1 hp).1
  rw [List.take_add_one, hp]
  have e : (L.take j).length = j := by rw [List.length_take]; omega
  rw [List.drop_append, e, show s - j = 0 by omega]
  rfl
theorem pst_same (h : L.Pairwise fun p q => Vl.cmp p.1 q.1 < 0) (hp : L[j]? = some p) (hc : Vl.cmp p.1 x ≠ 0) (hs : Vl.cmp p.1 x < 0 ∨ lspot x L < j) : pst x id L (j + 1) = pst x id L j ++ [p] := by
  have h1 := (spot_cases (x := x) h hp).1
  rw [pst, pst]
  split
  · rw [List.take_add_one, hp, lon_app]
    congr 1
    show [if Vl.cmp p.1 x = 0 then (p.1, nins id p.2) else p] = [p]
    rw [if_neg hc]
  · rcases hs with q | q
    · rw [if_neg (by have := h1.1 q; omega), if_neg (by have := h1.1 q; omega), List.take_add_one, hp]
      rfl
    · rw [if_pos (by omega), if_pos q, drop_step hp (by omega)]
      simp
theorem pst_hit (h : L.Pairwise fun p q => Vl.cmp p.1 q.1 < 0) (hp : L[j]? = some p) (hc : Vl.cmp p.1 x = 0) : pst x id L (j + 1) = pst x id L j ++ [(p.1, nins id p.2)] := by
  have h1 := ((spot_cases (x := x) h hp).2.1 hc).2
  rw [pst, pst, h1, if_pos (by rfl), if_pos (by rfl), List.take_add_one, hp, lon_app]
  congr 1
  show [if Vl.cmp p.1 x = 0 then (p.1, nins id p.2) else p] = _
  rw [if_pos hc]
theorem pst_new (h : L.Pairwise fun p q => Vl.cmp p.1 q.1 < 0) (hp : L[j]? = some p) (hc : ¬ Vl.cmp p.1 x < 0) (hc0 : Vl.cmp p.1 x ≠ 0) (hs : ¬ lspot x L < j) : pst x id L (j + 1) = (pst x id L j ++ [(x, [id])]) ++ [p] := by
  have h1 := spot_cases (x := x) h hp
  have hj : j = lspot x L := by
    have : ¬ j < lspot x L := fun q => hc (h1.1.2 q)
    omega
  have hn : ¬ (lat x L).isSome = true := fun q => hc0 (h1.2.2 hj q)
  have e : (L.take j).length = j := by rw [List.length_take]; have := (List.getElem?_eq_some_iff.1 hp).1; omega
  rw [pst, pst, if_neg hn, if_neg hn, if_pos (by omega), if_neg (by omega), drop_step hp (by omega), ← hj, List.drop_of_length_le (by omega)]
  simp
theorem pst_all (hs : lspot x L < L.length) : pst x id L L.length = lput x id L := by
  rw [pst, lput, List.take_length]
  split
  · rfl
  · rw [lnew]
theorem lspot_le : lspot x L ≤ L.length := by
  rw [lspot]
  exact (List.takeWhile_sublist _).length_le
theorem pst_end (h : L.Pairwise fun p q => Vl.cmp p.1 q.1 < 0) (hs : ¬ lspot x L < L.length) : pst x id L L.length ++ [(x, [id])] = lput x id L := by
  have hn : ¬ (lat x L).isSome = true := fun q => by
    obtain ⟨y, hy⟩ := Option.isSome_iff_exists.1 q
    obtain ⟨hm, h0⟩ := lat_mem hy
    obtain ⟨i, hi⟩ := List.getElem?_of_mem hm
    have hil := (List.getElem?_eq_some_iff.1 hi).1
    have := ((spot_cases (x := x) h hi).2.1 h0).1
    omega
  have hl := lspot_le (x := x) (L := L)
  rw [pst, lput, if_neg hn, if_neg hn, if_neg hs, List.take_length, lnew, List.take_of_length_le (by omega), List.drop_of_length_le (by omega)]
end
/-- what the document's Drop has taken over so far -/
theorem ldrop_take {x : V} {id : Nat} {L : KL} {j : Nat} {p : V × List Nat} (hp : L[j]? = some p) : ldrop x id (L.take (j + 1)) = ldrop x id (L.take j) ++ (if 0 < (if Vl.cmp p.1 x = 0 then nrem id p.2 else p.2).length then [(p.1, if Vl.cmp p.1 x = 0 then nrem id p.2 else p.2)] else []) := by
  rw [ldrop, ldrop, List.take_add_one, hp, lon_app, List.filter_append]
  congr 1
  show List.filter _ [if Vl.cmp p.1 x = 0 then (p.1, nrem id p.2) else p] = _
  by_cases hc : Vl.cmp p.1 x = 0
  · rw [if_pos hc, if_pos hc, List.filter_cons]
    simp
  · rw [if_neg hc, if_neg hc, List.filter_cons]
    simp
end Bt
end Go.Proofs.YtkigenldiinioaaGreatDoor
/- A list of pairs put from its end: each is put in front; what is put and dropped again leaves the list: mathematics. -/
namespace Go.Proofs.YtkigenldiinioaaGreatDoor
open Vl (V)
namespace Bt
theorem nins_first {id : Nat} : ∀ {l : List Nat}, (∀ y ∈ l, id < y) → nins id l = id :: l
  | [], _ => rfl
  | y :: r, h => by
    have h1 : ¬ y < id := by have := h y (by simp); omega
    have h2 : nspot id (y :: r) = 0 := by rw [nspot, List.takeWhile_cons_of_neg (by simpa using h1)]; rfl
    rw [nins, h2]; rfl
theorem nrem_nins {id : Nat} {l : List Nat} (h : id ∉ l) : nrem id (nins id l) = l := by
  have hk : ∀ m : List Nat, (∀ y ∈ m, y ∈ l) → m.filter (fun y => decide (y ≠ id)) = m := fun m hm => List.filter_eq_self.2 fun y hy => by
    have : y ≠ id := fun e => h (e ▸ hm y hy)
    simpa using this
  rw [nrem, nins, List.filter_append, List.filter_cons_of_neg (by simp), hk _ (fun y hy => List.mem_of_mem_take hy), hk _ (fun y hy => List.mem_of_mem_drop hy), List.take_append_drop]
theorem lat_no {x : V} {L : KL} (h : ∀ q ∈ L, Vl.cmp q.1 x ≠ 0) : lat x L = none := by
  rw [lat, List.find?_eq_none]
  intro q hq
  simpa using h q hq
theorem lat_ahead {z : V} {R : KL} (h : ∀ q ∈ R, Vl.cmp z q.1 < 0) : lat z R = none := lat_no fun q hq => by
  have h1 := h q hq
  have h2 := Vl.cmp_turn z q.1
  omega
theorem lput_first {z : V} {id : Nat} {R : KL} (h : ∀ q ∈ R, Vl.cmp z q.1 < 0) : lput z id R = (z, [id]) :: R := by
  have hs : lspot z R = 0 := by
    cases R with
    | nil => rfl
    | cons q r =>
      have h1 := h q (by simp)
      have h2 := Vl.cmp_turn z q.1
      rw [lspot, List.takeWhile_cons_of_neg (by simp; omega)]; rfl
  rw [lput, lat_ahead h, if_neg (by simp), lnew, hs]; rfl
theorem lon_none {z : V} {f : List Nat → List Nat} {R : KL} (h : ∀ q ∈ R, Vl.cmp q.1 z ≠ 0) : lon z f R = R := by
  rw [lon]
  conv => rhs; rw [← List.map_id R]
  exact List.map_congr_left fun q hq => by rw [if_neg (h q hq)]; rfl
theorem lput_more {z : V} {id : Nat} {ids : List Nat} {R : KL} (h : ∀ q ∈ R, Vl.cmp z q.1 < 0) (hi : ∀ y ∈ ids, id < y) : lput z id ((z, ids) :: R) = (z, id :: ids) :: R := by
  have hz : lat z ((z, ids) :: R) = some (z, ids) := by rw [lat, List.find?_cons_of_pos (by simp [Vl.cmp_refl])]
  have hr : lon z (nins id) R = R := lon_none fun q hq => by
    have h1 := h q hq
    have h2 := Vl.cmp_turn z q.1
    omega
  rw [lput, hz, if_pos (show (some (z, ids)).isSome = true from rfl)]
  show (if Vl.cmp z z = 0 then (z, nins id ids) else (z, ids)) :: lon z (nins id) R = _
  rw [if_pos (Vl.cmp_refl z), hr, nins_first hi]
theorem lput_key {z : V} {id : Nat} {L : KL} {p : V × List Nat} (h : p ∈ lput z id L) : p.1 = z ∨ ∃ q ∈ L, q.1 = p.1 := by
  rw [lput] at h
  split at h
  · obtain ⟨q, hq, rfl⟩ := List.mem_map.1 h
    exact .inr ⟨q, hq, by split <;> rfl⟩
  · rw [lnew, List.mem_append, List.mem_cons] at h
    rcases h with h | h | h
    · exact .inr ⟨p, List.mem_of_mem_take h, rfl⟩
    · exact .inl (by rw [h])
    · exact .inr ⟨p, List.mem_of_mem_drop h, rfl⟩
theorem ldrop_key {z : V} {id : Nat} {L : KL} {p : V × List Nat} (h : p ∈ ldrop z id L) : ∃ q ∈ L, q.1 = p.1 := by
  rw [ldrop] at h
  obtain ⟨q, hq, rfl⟩ := List.mem_map.1 (List.mem_filter.1 h).1
  exact ⟨q, hq, by split <;> rfl⟩
theorem put_ok {z : V} {id : Nat} {L : KL} (h : ∀ p ∈ L, kerr p.1 = 0) : ∀ p ∈ (if perr z id L = 0 then lput z id L else L), kerr p.1 = 0 := fun p hp => by
  split at hp
  · rename_i h0
    rcases lput_key hp with q | ⟨q, hq, e⟩
    · rw [q]
      rw [perr] at h0
      split at h0
      · exact h0
      · rename_i c
        exact Decidable.byContradiction c
    · rw [← e]; exact h q hq
  · exact h p hp
theorem drop_ok {z : V} {id : Nat} {L : KL} (h : ∀ p ∈ L, kerr p.1 = 0) : ∀ p ∈ (if derr z id L = 0 then ldrop z id L else L), kerr p.1 = 0 := fun p hp => by
  split at hp
  · obtain ⟨q, hq, e⟩ := ldrop_key hp
    rw [← e]; exact h q hq
  · exact h p hp
/-- put and dropped again -/
theorem ldrop_lput {z : V} {id : Nat} {L : KL} (h : LW L) (hn : lhas z id L = false) : ldrop z id (lput z id L) = L := by
  have hlen : ∀ m : KL, (∀ p ∈ m, p ∈ L) → m.filter (fun p => decide (0 < p.2.length)) = m := fun m hm => List.filter_eq_self.2 fun p hp => by
    have := (h.asc p (hm p hp)).2
    simp; omega
  rw [lput]
  split
  · rename_i hs
    have e : lon z (nrem id) (lon z (nins id) L) = L := by
      rw [lon, lon, List.map_map]
      conv => rhs; rw [← List.map_id L]
      refine List.map_congr_left fun p hp => ?_
      show (fun q => if Vl.cmp q.1 z = 0 then (q.1, nrem id q.2) else q) (if Vl.cmp p.1 z = 0 then (p.1, nins id p.2) else p) = p
      by_cases hc : Vl.cmp p.1 z = 0
      · have hl := lat_some h.rises hp hc
        have hx : id ∉ p.2 := fun hm => by
          rw [lhas, lids_some hl, (nhas_mem (h.asc p hp).1).2 hm] at hn
          cases hn
        rw [if_pos hc]
        show (if Vl.cmp p.1 z = 0 then (p.1, nrem id (nins id p.2)) else _) = p
        rw [if_pos hc, nrem_nins hx]
      · rw [if_neg hc]
        show (if Vl.cmp p.1 z = 0 then _ else p) = p
        rw [if_neg hc]
    rw [ldrop, e, hlen L fun _ q => q]
  · rename_i hs
    have hno : ∀ p ∈ L, Vl.cmp p.1 z ≠ 0 := fun p hp hc => hs (by rw [lat_some h.rises hp hc]; rfl)
    have e : lon z (nrem id) (lnew z id L) = L.take (lspot z L) ++ (z, []) :: L.drop (lspot z L) := by
      rw [lnew, lon_app, lon_none (fun q hq => hno q (List.mem_of_mem_take hq))]
      congr 1
      show (if Vl.cmp z z = 0 then (z, nrem id [id]) else (z, [id])) :: lon z (nrem id) (L.drop (lspot z L)) = _
      rw [if_pos (Vl.cmp_refl z), lon_none (fun q hq => hno q (List.mem_of_mem_drop hq)), nrem, List.filter_cons_of_neg (by simp), List.filter_nil]
    rw [ldrop, e, List.filter_append, List.filter_cons_of_neg (by simp), hlen _ (fun p hp => List.mem_of_mem_take hp), hlen _ (fun p hp => List.mem_of_mem_drop hp), List.take_append_drop]
/-- the second tree, as far as a key's numbers were put (from the last) -/
def UP (x : V) (ids : List Nat) (k : Nat) (R : KL) : KL := if k = ids.length then R else (x, ids.drop k) :: R
theorem up_start {x : V} {ids : List Nat} {R : KL} : UP x ids ids.length R = R := if_pos rfl
theorem up_end {x : V} {ids : List Nat} {R : KL} (h : 1 ≤ ids.length) : UP x ids 0 R = (x, ids) :: R := by rw [UP, if_neg (by omega)]; rfl
theorem up_put {x : V} {ids : List Nat} {k id : Nat} {R : KL} (h : ∀ q ∈ R, Vl.cmp x q.1 < 0) (ha : ids.Pairwise (· < ·)) (hk : ids[k]? = some id) : lput x id (UP x ids (k + 1) R) = UP x ids k R := by
  have hl := (List.getElem?_eq_some_iff.1 hk).1
  have he := (List.getElem?_eq_some_iff.1 hk).2
  have hd : ids.drop k = id :: ids.drop (k + 1) := by rw [List.drop_eq_getElem_cons hl, he]
  rw [UP, UP, if_neg (by omega : ¬ k = ids.length), hd]
  split
  · rename_i e
    rw [lput_first h, e, List.drop_length]
  · refine lput_more h fun y hy => ?_
    have := ha.sublist (List.drop_sublist k ids)
    rw [hd] at this
    exact (List.pairwise_cons.1 this).1 y hy
theorem up_err {x : V} {ids : List Nat} {k id : Nat} {R : KL} (h : ∀ q ∈ R, Vl.cmp x q.1 < 0) (ha : ids.Pairwise (· < ·)) (hk : ids[k]? = some id) (hx : kerr x = 0) (hs : ids.length + lsum R ≤ 1024) : perr x id (UP x ids (k + 1) R) = 0 := by
  have hl := (List.getElem?_eq_some_iff.1 hk).1
  have he := (List.getElem?_eq_some_iff.1 hk).2
  have hd : ids.drop k = id :: ids.drop (k + 1) := by rw [List.drop_eq_getElem_cons hl, he]
  have hp := ha.sublist (List.drop_sublist k ids)
  rw [hd] at hp
  have h1 : lhas x id (UP x ids (k + 1) R) = false := by
    rw [UP]
    split
    · rw [lhas, lids_none (lat_ahead h)]; rfl
    · rw [lhas, lids_some (p := (x, ids.drop (k + 1))) (by rw [lat, List.find?_cons_of_pos (by simp [Vl.cmp_refl])])]
      cases hn : nhas id (ids.drop (k + 1)) with
      | false => rfl
      | true =>
        have := (nhas_mem (List.pairwise_cons.1 hp).2).1 hn
        exact absurd ((List.pairwise_cons.1 hp).1 _ this) (Nat.lt_irrefl _)
  have h2 : ¬ 1024 ≤ lsum (UP x ids (k + 1) R) := by
    rw [UP]
    split
    · omega
    · rw [lsum, List.map_cons, List.sum_cons, List.length_drop]
      rw [lsum] at hs
      omega
  rw [perr, if_neg (by simpa using hx), h1, if_neg (by simp), if_neg h2]
theorem lw_drop {L : KL} {j : Nat} {p : V × List Nat} (h : LW L) (hp : L[j]? = some p) : (∀ q ∈ L.drop (j + 1), Vl.cmp p.1 q.1 < 0) ∧ p.2.length + lsum (L.drop (j + 1)) ≤ 1024 ∧ p :: L.drop (j + 1) = L.drop j := by
  have hl := (List.getElem?_eq_some_iff.1 hp).1
  have he := (List.getElem?_eq_some_iff.1 hp).2
  have hd : L.drop j = p :: L.drop (j + 1) := by rw [List.drop_eq_getElem_cons hl, he]
  refine ⟨?_, ?_, hd.symm⟩
  · have := h.rises.sublist (List.drop_sublist j L)
    rw [hd] at this
    exact (List.pairwise_cons.1 this).1
  · have h1 := h.le
    have h2 : lsum L = lsum (L.take j) + (p.2.length + lsum (L.drop (j + 1))) := by
      conv => lhs; rw [← List.take_append_drop j L, hd]
      simp only [lsum, List.map_append, List.map_cons, List.sum_append, List.sum_cons]
    omega
/-- what was put is there -/
theorem lput_has {z : V} {id : Nat} {L : KL} (hw : LW (lput z id L)) : id ∈ lids z (lput z id L) := by
  have hn : ∀ l : List Nat, id ∈ nins id l := fun l => by rw [nins]; simp
  have key : ∃ p ∈ lput z id L, Vl.cmp p.1 z = 0 ∧ id ∈ p.2 := by
    rw [lput]
    split
    · rename_i hs
      obtain ⟨p, hp⟩ := Option.isSome_iff_exists.1 hs
      obtain ⟨hm, hc⟩ := lat_mem hp
      exact ⟨(p.1, nins id p.2), List.mem_map.2 ⟨p, hm, if_pos hc⟩, hc, hn _⟩
    · exact ⟨(z, [id]), by rw [lnew]; simp, Vl.cmp_refl z, by simp⟩
  obtain ⟨p, hp, hc, hi⟩ := key
  rw [lids_some (lat_some hw.rises hp hc)]
  exact hi
end Bt
end Go.Proofs.YtkigenldiinioaaGreatDoor
/- The six cells of a value that is handed in. -/
namespace Go.Proofs.YtkigenldiinioaaGreatDoor
open Go.RowKit
open Vl (V)
theorem rep_shape {w : World} {H : Nat} {x : V} {v : Value} (h : Rep w H x v) :
    ∃ (k : Nat) (b : Bool) (n : Int) (s : ByteArray) (ao : Option Addr) (ll lc : Nat) (fo : Option Addr) (fl fc : Nat), v = .agg #[.int .u8 (k : Int), .bool b, .int .i64 n, .string s, .slice ao ll lc, .slice fo fl fc] := by
  obtain ⟨k, b, n, s, l, f⟩ := x
  rw [Rep] at h
  obtain ⟨ao, lc, fo, fc, h1, _⟩ := h
  exact ⟨k, b, n, s, ao, l.length, lc, fo, f.length, fc, h1⟩
end Go.Proofs.YtkigenldiinioaaGreatDoor
/- The document's Name and Check's door, walked over whatever its Utf answers. -/
namespace Go.Proofs.YtkigenldiinioaaGreatDoor
open Go.RowKit
open Vl (V)
/-- what the document's Utf answers of texts within the limit: u -/
def RUtf (u : ByteArray → Bool) : Prop :=
  ∀ (s : ByteArray) (w : World), s.size ≤ 1024 → Calls Tryz.prog 59 #[.string s] w fun e w' => e = .returned (.bool (u s)) ∧ Below w.heap.size w w'
set_option maxHeartbeats 4000000 in
set_option maxRecDepth 100000 in
theorem rname60 {u : ByteArray → Bool} (hU : RUtf u) (m : ByteArray) (hm : m.size ≤ maxLen) (w : World) :
    Calls Tryz.prog 60 #[.string m] w fun e w' => e = .returned (.int .i64 ((Vl.nameErr u m : Nat) : Int)) ∧ Below w.heap.size w w' := by
  obtain ⟨q, hq⟩ : ∃ q, q = u m := ⟨_, rfl⟩
  have C59 : Hid (m.size ≤ 1024 → Calls Tryz.prog 59 #[.string m] w fun e w' => e = .returned (.bool q) ∧ Below w.heap.size w w') := fun h => by rw [hq]; exact hU m w h
  obtain ⟨r, hr⟩ : ∃ r, r = Vl.nameErr u m := ⟨_, rfl⟩
  have HR : Hid (r = if m.size = 0 ∨ 1024 < m.size then 4 else if q = false then 9 else 0) := by
    show _ = _
    rw [hr, Vl.nameErr, hq]
  have HML : Hid (m.size ≤ 9223372036854775807) := maxLen_lt hm
  rw [← hr]
  clear hr hq hm hU
  by_cases h0 : m.size = 0
  · have h1 : m.toList = [] := (str_nil m).2 h0
    have h2 : r = 4 := by rw [HR.out, if_pos (Or.inl h0)]
    subst h2
    clear h0
    go_enter Tryz.func60, Tryz.ntmps60
    go_wp2
    exact ⟨rfl, _, results_tmp (by rfl) _ _ _, rfl, Below.refl _ _⟩
  · have h1 : ¬ m.toList = [] := fun h => h0 ((str_nil m).1 h)
    by_cases h3 : 1024 < m.size
    · have h2 : r = 4 := by rw [HR.out, if_pos (Or.inr h3)]
      subst h2
      have h4 := HML.out
      go_enter Tryz.func60, Tryz.ntmps60
      go_wp2
      exact ⟨rfl, _, results_tmp (by rfl) _ _ _, rfl, Below.refl _ _⟩
    · have h2 : r = if q = false then 9 else 0 := by rw [HR.out, if_neg (by omega)]
      have h4 : m.size ≤ 1024 := by omega
      have h5 : m.toList.isEmpty = false := by simpa using h1
      have h6 : decide ((1024 : Int) < (m.size : Int)) = false := by simp; omega
      cases q
      · subst h2
        go_enter Tryz.func60, Tryz.ntmps60
        go_wp2_with (go_at_call 59; refine (C59.out h4).mono ?_; rintro e w3 ⟨rfl, hb3⟩)
        exact ⟨rfl, _, results_tmp (by rfl) _ _ _, rfl, hb3⟩
      · subst h2
        go_enter Tryz.func60, Tryz.ntmps60
        go_wp2_with (go_at_call 59; refine (C59.out h4).mono ?_; rintro e w3 ⟨rfl, hb3⟩)
        exact ⟨rfl, _, results_tmp (by rfl) _ _ _, rfl, hb3⟩
end Go.Proofs.YtkigenldiinioaaGreatDoor
/- The document's zero, walked: whether the kind is one and every field that it has not is zero. -/
namespace Go.Proofs.YtkigenldiinioaaGreatDoor
open Go.RowKit
open Vl (V)
theorem str_emp (s : ByteArray) : s.toList.isEmpty = decide (s.size = 0) := by
  rw [Bool.eq_iff_iff, List.isEmpty_iff, str_nil, decide_eq_true_eq]
set_option maxHeartbeats 4000000 in
set_option maxRecDepth 100000 in
theorem rzero58 (k : Nat) (b : Bool) (n : Int) (s : ByteArray) (l : List V) (f : List (ByteArray × V)) (ao : Option Addr) (ac : Nat) (fo : Option Addr) (fc : Nat) (w : World) :
    Calls Tryz.prog 58 #[.agg #[.int .u8 (k : Int), .bool b, .int .i64 n, .string s, .slice ao l.length ac, .slice fo f.length fc]] w fun e w' => e = .returned (.bool (decide (k < 7) && !Vl.strange ⟨k, b, n, s, l, f⟩)) ∧ Below w.heap.size w w' := by
  obtain ⟨ll, hll⟩ : ∃ n, n = l.length := ⟨_, rfl⟩
  obtain ⟨fl, hfl⟩ : ∃ n, n = f.length := ⟨_, rfl⟩
  obtain ⟨r, hr⟩ : ∃ r, r = (decide (k < 7) && !Vl.strange ⟨k, b, n, s, l, f⟩) := ⟨_, rfl⟩
  have HR : Hid (r = (decide (k < 7) && !((b && decide (k ≠ 1)) || (decide (n ≠ 0) && decide (k ≠ 2)) || (decide (s.size ≠ 0) && decide (k ≠ 3) && decide (k ≠ 4)) || (decide (0 < ll) && decide (k ≠ 5)) || (decide (0 < fl) && decide (k ≠ 6))))) := by
    show _ = _
    rw [hr, Vl.strange, hll, hfl]
  rw [← hr, ← hll, ← hfl]
  clear hr hll hfl
  go_enter Tryz.func58, Tryz.ntmps58
  go_wp2
  all_goals
    refine ⟨rfl, _, results_tmp (by rfl) _ _ _, ?_, below_new _ _⟩
    refine congrArg (fun z => Ending.returned (Value.bool z)) (Eq.symm ?_)
    rw [HR.out]
    try simp only [str_emp] at *
    first
      | (simp_all; done)
      | (simp_all; omega)
      | (have hk : k = 1 ∨ k = 2 ∨ k = 3 ∨ k = 4 ∨ k = 5 ∨ k = 6 ∨ (k ≠ 1 ∧ k ≠ 2 ∧ k ≠ 3 ∧ k ≠ 4 ∧ k ≠ 5 ∧ k ≠ 6) := by omega
         clear HR
         rcases Nat.eq_zero_or_pos fl with hf | hf
         all_goals
           rcases hk with hk | hk | hk | hk | hk | hk | hk
           all_goals first
             | omega
             | (subst hk; simp_all; done)
             | (subst hk; simp_all; omega)
             | (simp_all; done)
             | (simp_all; omega))
end Go.Proofs.YtkigenldiinioaaGreatDoor
