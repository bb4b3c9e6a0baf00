/- The document's own lists of numbers and entries: how many, whether one is there, one more: walked. -/
import Derived.Test.YtkigenldiinioaaGreatDoorQ33M
namespace Go.Proofs.YtkigenldiinioaaGreatDoor
open Go.RowKit
open Vl (V)
attribute [local go_sem ↓] Go.wp_at_zero Go.wp_at_succ
namespace Bt
theorem lsum_take {L : KL} {j : Nat} {p : V × List Nat} (h : L[j]? = some p) : lsum (L.take (j + 1)) = lsum (L.take j) + p.2.length := by
  rw [List.take_add_one, h]
  simp [lsum]
theorem lsum_take_le (L : KL) (j : Nat) : lsum (L.take j) ≤ lsum L := by
  have e : lsum L = lsum (L.take j) + lsum (L.drop j) := by
    conv => lhs; rw [← List.take_append_drop j L]
    simp only [lsum, List.map_append, List.sum_append]
  omega
/-- numbers, as far as they were looked at, and one more -/
def wst (id : Nat) (l : List Nat) (j : Nat) : List Nat := if nspot id l < j then l.take (nspot id l) ++ id :: (l.take j).drop (nspot id l) else l.take j
theorem wst_low {id : Nat} {l : List Nat} {j x : Nat} (hx : l[j]? = some x) (hj : j < nspot id l) : wst id l (j + 1) = wst id l j ++ [x] := by
  rw [wst, wst, if_neg (by omega), if_neg (by omega), List.take_add_one, hx]
  rfl
theorem wst_at {id : Nat} {l : List Nat} {j x : Nat} (hx : l[j]? = some x) (hj : j = nspot id l) : wst id l (j + 1) = (wst id l j ++ [id]) ++ [x] := by
  have hl := (List.getElem?_eq_some_iff.1 hx).1
  rw [wst, wst, if_pos (by omega), if_neg (by omega), List.take_add_one, hx, ← hj]
  have e : (l.take j).length = j := by rw [List.length_take]; omega
  rw [List.drop_append, e, Nat.sub_self, List.drop_of_length_le (by omega)]
  simp
theorem wst_high {id : Nat} {l : List Nat} {j x : Nat} (hx : l[j]? = some x) (hj : nspot id l < j) : wst id l (j + 1) = wst id l j ++ [x] := by
  have hl := (List.getElem?_eq_some_iff.1 hx).1
  rw [wst, wst, if_pos (by omega), if_pos hj, List.take_add_one, hx]
  have e : (l.take j).length = j := by rw [List.length_take]; omega
  rw [List.drop_append, e, show nspot id l - j = 0 by omega]
  simp
theorem wst_all {id : Nat} {l : List Nat} (hj : nspot id l < l.length) : wst id l l.length = nins id l := by
  rw [wst, if_pos hj, List.take_length, nins]
theorem wst_end {id : Nat} {l : List Nat} (hj : ¬ nspot id l < l.length) : wst id l l.length ++ [id] = nins id l := by
  rw [wst, if_neg hj, List.take_length, nins, List.take_of_length_le (by omega), List.drop_of_length_le (by omega)]
theorem wst_length {id : Nat} {l : List Nat} {j : Nat} (hj : j ≤ l.length) : (wst id l j).length ≤ j + 1 := by
  rw [wst]
  split
  · simp only [List.length_append, List.length_cons, List.length_drop, List.length_take]; omega
  · rw [List.length_take]; omega
end Bt
theorem ent_info2 : (Tryz.prog.info? 49).map (fun i => (i.zero, i.size, i.bytes)) = some (some (.agg #[.int .u8 0, .bool false, .int .i64 0, .string ⟨#[]⟩, .slice none 0 0, .slice none 0 0, .slice none 0 0]), 7, 104) := by kernel_rfl
set_option maxHeartbeats 4000000 in
set_option maxRecDepth 100000 in
theorem rcount_c (L : Bt.KL) (a : Option Addr) (ca : Nat) (w : World) (hL : L.length ≤ 1000000) (hs : Bt.lsum L ≤ 1000000) (ha : EntsAt w a L) :
    Calls Tryz.prog 19 #[.slice a L.length ca] w fun e w' => e = .returned (.int .i64 (Bt.lsum L : Int)) ∧ Below w.heap.size w w' := by
  obtain ⟨n, hn⟩ : ∃ n, n = L.length := ⟨_, rfl⟩
  rw [← hn] at hL ⊢
  have HN : Hid (n = L.length ∧ n ≤ 1000000 ∧ Bt.lsum L ≤ 1000000) := ⟨hn, hL, hs⟩
  have HA : Hid (EntsAt w a L) := ha
  have hl := hL
  clear hn ha hL hs
  go_enter Tryz.func19, Tryz.ntmps19
  go_wp2_with fail
  go_loopw [3, 8] (fun d i wr => ∃ (j dd : Nat), d = .int .i64 (dd : Int) ∧ i = .int .i64 (j : Int) ∧ j ≤ n ∧ dd = Bt.lsum (L.take j) ∧ Below w.heap.size w wr) (fun _ i _ => n - (intOf i).toNat)
  case atStart => exact ⟨0, 0, rfl, rfl, by omega, rfl, Below.refl _ _⟩
  case round =>
    obtain ⟨j, dd, rfl, rfl, hj, hd, hbr⟩ := hrel
    have HR : Hid (Below w.heap.size w wr ∧ dd = Bt.lsum (L.take j)) := ⟨hbr, hd⟩
    clear hbr hd
    by_cases hjn : j = n
    · subst hjn
      have q0 : ¬ (j : Int) < (j : Int) := by omega
      have E : Hid (dd = Bt.lsum L) := by
        have := HR.out.2
        rw [HN.out.1, List.take_length] at this
        exact this
      go_wp2
      go_ret
      exact ⟨by rw [E.out]; rfl, HR.out.1⟩
    · have hlt : j < n := by omega
      have q0 : (j : Int) < (n : Int) := by omega
      have q1 : (0 : Int) ≤ (j : Int) := by omega
      obtain ⟨p, hp⟩ : ∃ p, L[j]? = some p := ⟨_, List.getElem?_eq_getElem (by have := HN.out; omega)⟩
      obtain ⟨g, k0, k1, k2, k3, k4, k5, pi, cap, rfl, h2, ⟨c0, c1, c2, c3, c4, c5, c6⟩, h4, h5, h6⟩ := HA.out j p hp
      obtain ⟨ln, hln⟩ : ∃ ln, ln = p.2.length := ⟨_, rfl⟩
      obtain ⟨o, ho⟩ : ∃ o, o = j * 7 := ⟨_, rfl⟩
      rw [← ho] at c0 c1 c2 c3 c4 c5 c6
      rw [← hln] at c6
      have cl := fun o => HR.out.1.cell (p := ⟨g, o, none⟩) h2
      have a0 := (cl _).trans c0
      have a1 := (cl _).trans c1
      have a2 := (cl _).trans c2
      have a3 := (cl _).trans c3
      have a4 := (cl _).trans c4
      have a5 := (cl _).trans c5
      have a6 := (cl _).trans c6
      have ho' := ho.symm
      obtain ⟨j1, hj1⟩ : ∃ j1, j1 = j + 1 := ⟨_, rfl⟩
      obtain ⟨d1, hd1⟩ : ∃ d1, d1 = dd + ln := ⟨_, rfl⟩
      have hle : d1 ≤ 1000000 := by
        have h1 := Bt.lsum_take hp
        have h2 := Bt.lsum_take_le L (j + 1)
        have := HN.out
        have := HR.out.2
        omega
      obtain ⟨v1, v2⟩ : IntKind.i64.wrap ((j : Int) + 1) = (j1 : Int) ∧ wrap64 ((j : Int) + 1) = (j1 : Int) := succs hj1 (by omega)
      obtain ⟨v3, v4⟩ : IntKind.i64.wrap ((dd : Int) + (ln : Int)) = (d1 : Int) ∧ wrap64 ((dd : Int) + (ln : Int)) = (d1 : Int) := Bt.wr (by omega) (by omega)
      have HJ : Hid (j1 = j + 1 ∧ j < n ∧ d1 = Bt.lsum (L.take j1)) := ⟨hj1, hlt, by rw [hj1, Bt.lsum_take hp, hd1, HR.out.2, hln]⟩
      obtain ⟨kk0, kk1, kk2, kk3, kk4, kk5, ky0, ky1, kz0, kz1, f0, f1, f2, f3, f4, f5⟩ := rep_form h4
      subst f0 f1 f2 f3 f4 f5
      clear c0 c1 c2 c3 c4 c5 c6 cl h2 h4 h5 h6 hp hln ho hj1 hjn hj hlt hl hd1 hle
      go_upto_region 5 with fail
      obtain ⟨w3, hw3⟩ : ∃ w3, w3 = wr.alloc (.cells #[.int .u8 (kk0 : Int), .bool kk1, .int .i64 kk2, .string kk3, .slice kk4 kk5 ky0, .slice ky1 kz0 kz1, .slice pi ln cap] 49) := ⟨_, rfl⟩
      have n1 := by have := heap_alloc_new wr (.cells #[.int .u8 (kk0 : Int), .bool kk1, .int .i64 kk2, .string kk3, .slice kk4 kk5 ky0, .slice ky1 kz0 kz1, .slice pi ln cap] 49); rw [← hw3] at this; exact this
      have n2 : Below wr.heap.size wr w3 := by rw [hw3]; exact below_new _ _
      rw [← hw3]
      have HB3 : Hid (Below w.heap.size w w3) := HR.out.1.trans (n2.mono HR.out.1.size)
      have y6 := cells_at n1 6 _ rfl
      clear n2 hw3 n1
      go_wp2
      clear v1 v2 v3 v4
      go_roundw
      case rel => first | exact ⟨j1, d1, rfl, rfl, by have := HJ.out; omega, HJ.out.2.2, HB3.out⟩ | ((repeat apply Exists.intro); exact ⟨⟨j1, d1, rfl, rfl, by have := HJ.out; omega, HJ.out.2.2, HB3.out⟩, rfl⟩)
      case measure =>
        simp only [intOf]
        have := HJ.out
        omega
set_option maxHeartbeats 4000000 in
set_option maxRecDepth 100000 in
theorem rhas_c (l : List Nat) (id : Nat) (pa : Option Addr) (ca : Nat) (w : World) (hla : l.length ≤ 1000000) (ha : NumsAt w pa l) :
    Calls Tryz.prog 47 #[.slice pa l.length ca, .int .u64 (id : Int)] w fun e w' => e = .returned (.bool (decide (id ∈ l))) ∧ w' = w := by
  obtain ⟨n, hn⟩ : ∃ n, n = l.length := ⟨_, rfl⟩
  rw [← hn] at hla ⊢
  have HL : Hid (n = l.length ∧ n ≤ 1000000) := ⟨hn, hla⟩
  have HA : Hid (NumsAt w pa l) := ha
  have hl := hla
  clear hn ha hla
  go_enter Tryz.func47, Tryz.ntmps47
  go_wp2_with fail
  go_loopw [9] (fun i wr => ∃ (j : Nat), i = .int .i64 (j : Int) ∧ j ≤ n ∧ (∀ m x, m < j → l[m]? = some x → x ≠ id) ∧ wr = w) (fun i _ => n - (intOf i).toNat)
  case atStart => exact ⟨0, rfl, by omega, fun m x h => by omega, rfl⟩
  case round =>
    obtain ⟨j, rfl, hj, hno, rfl⟩ := hrel
    have HR : Hid (∀ m x, m < j → l[m]? = some x → x ≠ id) := hno
    clear hno
    by_cases hjn : j = n
    · subst hjn
      have q0 : ¬ (j : Int) < (j : Int) := by omega
      have E : Hid (decide (id ∈ l) = false) := decide_eq_false fun h => by
        obtain ⟨m, hm⟩ := List.getElem?_of_mem h
        exact HR.out m id (by have := (List.getElem?_eq_some_iff.1 hm).1; have := HL.out; omega) hm rfl
      go_wp2
      go_ret
      exact ⟨by rw [E.out]; rfl, rfl⟩
    · have q1 : (j : Int) < (n : Int) := by omega
      have q0 : (0 : Int) ≤ (j : Int) := by omega
      obtain ⟨x, hx⟩ : ∃ x, l[j]? = some x := ⟨_, List.getElem?_eq_getElem (by have := HL.out; omega)⟩
      obtain ⟨ga, rfl, hga, hca⟩ := HA.out j x hx
      obtain ⟨j1, hj1⟩ : ∃ j1, j1 = j + 1 := ⟨_, rfl⟩
      obtain ⟨v1, v2⟩ : IntKind.i64.wrap ((j : Int) + 1) = (j1 : Int) ∧ wrap64 ((j : Int) + 1) = (j1 : Int) := Bt.wr (by omega) (by have := HL.out; omega)
      have HJ1 : Hid (j1 = j + 1 ∧ j < n ∧ l[j]? = some x) := ⟨hj1, by omega, hx⟩
      clear hx hga hj1 hj hjn
      by_cases hxy : x = id
      · subst hxy
        have E : Hid (decide (x ∈ l) = true) := decide_eq_true (List.mem_of_getElem? HJ1.out.2.2)
        go_wp2
        go_ret
        exact ⟨by rw [E.out]; rfl, rfl⟩
      · have qx : ((x : Int) == (id : Int)) = false := by simp; omega
        have qy : ¬ ((x : Int) = (id : Int)) := by omega
        have HXN : Hid (x ≠ id) := hxy
        clear hxy
        go_wp2
        clear v1 v2
        go_roundw
        case rel =>
          refine ⟨j1, rfl, by have := HJ1.out; omega, fun m y hm hy => ?_, trivial⟩
          rcases Nat.lt_or_ge m j with q | q
          · exact HR.out m y q hy
          · obtain rfl : m = j := by have := HJ1.out; omega
            rw [HJ1.out.2.2] at hy
            obtain rfl := Option.some.inj hy
            exact HXN.out
        case measure =>
          simp only [intOf]
          have := HJ1.out
          omega
/-- a row that grew by one number -/
theorem NO.app {w W W5 : World} {l : List Nat} {lv : Value} {x gg cap : Nat} (h : NO w l lv W) (hg : (W.alloc (.cells #[.int .u64 (x : Int)] 51)).grownBy W5 lv.ownBlock) (ho : W5.ownsRow w.heap.size 51 1 (.slice (some ⟨gg, 0, none⟩) (l.length + 1) cap) (l.length + 1) (Bt.nums l ++ [.int .u64 (x : Int)])) : NO w (l ++ [x]) (.slice (some ⟨gg, 0, none⟩) (l.length + 1) cap) W5 :=
  (h.call (below_new W _)).next hg ho
set_option maxHeartbeats 8000000 in
set_option maxRecDepth 100000 in
theorem rwith_c (l : List Nat) (id : Nat) (pa : Option Addr) (ca : Nat) (w : World) (hla : l.length ≤ 1000000) (ha : NumsAt w pa l) (hasc : l.Pairwise (· < ·)) (hno : Bt.nhas id l = false) :
    Calls Tryz.prog 48 #[.slice pa l.length ca, .int .u64 (id : Int)] w fun e w' => ∃ lv, e = .returned lv ∧ NO w (Bt.nins id l) lv w' := by
  obtain ⟨n, hn⟩ : ∃ n, n = l.length := ⟨_, rfl⟩
  obtain ⟨s, hs⟩ : ∃ s, s = Bt.nspot id l := ⟨_, rfl⟩
  obtain ⟨hk, h12⟩ := Bt.nspot_cut (id := id) hasc
  rw [← hs] at hk h12
  rw [← hn] at hla hk ⊢
  have HL : Hid (n = l.length ∧ n ≤ 1000000 ∧ s ≤ n ∧ s = Bt.nspot id l) := ⟨hn, hla, hk, hs⟩
  have HC : Hid (∀ (j x : Nat), l[j]? = some x → (j < s → x < id) ∧ (¬ j < s → id < x)) := fun j x hx => by
    have h1 := h12 j x hx
    have h2 : x ≠ id := fun e => by
      have := (Bt.nhas_mem hasc (id := id)).2 (e ▸ List.mem_of_getElem? hx)
      rw [hno] at this; cases this
    refine ⟨fun q => by simpa using h1.2 q, fun q => ?_⟩
    have h3 : ¬ x < id := fun c => q (h1.1 (by simpa using c))
    omega
  have HA : Hid (NumsAt w pa l) := ha
  obtain ⟨i1, hi1, hy0, hy1, hy2⟩ := info_parts insU_info
  have hl := hla
  clear hn ha hla hasc hno hk h12 hs
  go_enter Tryz.func48, Tryz.ntmps48
  go_wp2_with fail
  go_loopw [5, 6, 11] (fun o p i wr => ∃ (j : Nat) (lv : Value), lv = o ∧ p = .bool (decide (s < j)) ∧ i = .int .i64 (j : Int) ∧ j ≤ n ∧ NO w (Bt.wst id l j) lv wr) (fun _ _ i _ => n - (intOf i).toNat)
  case atStart =>
    refine ⟨0, _, rfl, rfl, rfl, by omega, ?_⟩
    have e : Bt.wst id l 0 = [] := by rw [Bt.wst, if_neg (by omega), List.take_zero]
    rw [e]
    exact NO.start w
  case round =>
    obtain ⟨j, lv, hlv, rfl, rfl, hj, hrn⟩ := hrel
    subst hlv
    obtain ⟨ll, hll⟩ : ∃ ll, ll = (Bt.wst id l j).length := ⟨_, rfl⟩
    have HR : Hid (NO w (Bt.wst id l j) lv wr ∧ ll = (Bt.wst id l j).length ∧ ll ≤ j + 1) := ⟨hrn, hll, by rw [hll]; exact Bt.wst_length (by have := HL.out; omega)⟩
    clear hrn hll
    by_cases hjn : j = n
    · subst hjn
      have q0 : ¬ (j : Int) < (j : Int) := by omega
      by_cases hsj : s < j
      · have E : Hid (Bt.wst id l j = Bt.nins id l) := by
          show _ = _
          rw [HL.out.1]
          exact Bt.wst_all (by have := HL.out; omega)
        have qd : decide (s < j) = true := decide_eq_true hsj
        rw [qd]
        go_wp2
        go_ret
        exact ⟨_, rfl, by have := HR.out.1; rw [E.out] at this; exact this⟩
      · have E : Hid (Bt.wst id l j ++ [id] = Bt.nins id l) := by
          show _ = _
          rw [HL.out.1]
          exact Bt.wst_end (by have := HL.out; omega)
        have qd : decide (s < j) = false := decide_eq_false hsj
        rw [qd]
        have HOWN : Hid (wr.ownsRow w.heap.size 51 1 lv ll (Bt.nums (Bt.wst id l j))) := by
          have := HR.out.1.row
          rw [← HR.out.2.1] at this
          exact this
        have fit63 : Hid (ll + 1 ≤ maxLen) := by show _ ≤ _; have := HR.out.2.2; unfold maxLen; omega
        have fit47 : Hid ((ll + 1) * 8 ≤ 140737488355328) := by show _ ≤ _; have := HR.out.2.2; omega
        have HSZ : Hid (w.heap.size ≤ (wr.alloc (.cells #[.int .u64 (id : Int)] 51)).heap.size) := by have := HR.out.1.below.size; show _ ≤ _; simp; omega
        have HNX : Hid (∀ gg cap w5, (wr.alloc (.cells #[.int .u64 (id : Int)] 51)).grownBy w5 lv.ownBlock → w5.ownsRow w.heap.size 51 1 (.slice (some ⟨gg, 0, none⟩) (ll + 1) cap) (ll + 1) (Bt.nums (Bt.wst id l j) ++ [.int .u64 (id : Int)]) → NO w (Bt.nins id l) (.slice (some ⟨gg, 0, none⟩) (ll + 1) cap) w5) := fun gg cap w5 h1 h2 => by
          have := HR.out.1.app (x := id) (gg := gg) (cap := cap) h1 (by rw [← HR.out.2.1]; exact h2)
          rw [← HR.out.2.1, E.out] at this
          exact this
        go_wp2_with (first | (at_builtin; refine wpList_append_lies _ rfl _ _ 38 rfl w.heap.size 51 i1 _ 1 8 Tryz.underlying38 hi1 hy0 hy1 hy2 rfl (by decide) _ _ _ rfl (HOWN.out.alloc _) ⟨wr.heap.size, 0, none⟩ 1 1 [.int .u64 (id : Int)] rfl rfl (World.news_of_block (heap_alloc_new wr _)) (by intro u hu; simp at hu; subst hu; rfl) (by decide) fit63.out fit47.out HSZ.out _ rfl ?_; intro gg cap w5 hown5 hgrow hat hglt; have S5 : Hid (NO w (Bt.nins id l) (.slice (some ⟨gg, 0, none⟩) (ll + 1) cap) w5) := HNX.out gg cap w5 hgrow hown5; clear hown5 hgrow hat hglt))
        go_ret
        exact ⟨_, rfl, S5.out⟩
    · have q1 : (j : Int) < (n : Int) := by omega
      have q0 : (0 : Int) ≤ (j : Int) := by omega
      obtain ⟨x, hx⟩ : ∃ x, l[j]? = some x := ⟨_, List.getElem?_eq_getElem (by have := HL.out; omega)⟩
      obtain ⟨ga, rfl, hga, hca⟩ := HA.out j x hx
      have a0 := (HR.out.1.below.cell (p := ⟨ga, j, none⟩) hga).trans hca
      obtain ⟨j1, hj1⟩ : ∃ j1, j1 = j + 1 := ⟨_, rfl⟩
      obtain ⟨v1, v2⟩ : IntKind.i64.wrap ((j : Int) + 1) = (j1 : Int) ∧ wrap64 ((j : Int) + 1) = (j1 : Int) := Bt.wr (by omega) (by have := HL.out; omega)
      have HJ1 : Hid (j1 = j + 1 ∧ j < n ∧ l[j]? = some x) := ⟨hj1, by omega, hx⟩
      have HCX := HC.out j x hx
      clear hx hga hca hj1
      by_cases hsj : j = s
      · have hidx : id < x := HCX.2 (by omega)
        have qd : decide (s < j) = false := decide_eq_false (by omega)
        have qx : (id : Int) < (x : Int) := by omega
        have qx2 : decide ((id : Int) < (x : Int)) = true := decide_eq_true qx
        have E : Hid (decide (s < j1) = true ∧ Bt.wst id l j1 = (Bt.wst id l j ++ [id]) ++ [x]) := ⟨decide_eq_true (by have := HJ1.out; omega), by rw [HJ1.out.1]; exact Bt.wst_at HJ1.out.2.2 (by rw [hsj]; exact HL.out.2.2.2)⟩
        rw [qd]
        have HOWN : Hid (wr.ownsRow w.heap.size 51 1 lv ll (Bt.nums (Bt.wst id l j))) := by
          have := HR.out.1.row
          rw [← HR.out.2.1] at this
          exact this
        have fit63 : Hid (ll + 1 ≤ maxLen) := by show _ ≤ _; have := HR.out.2.2; unfold maxLen; omega
        have fit47 : Hid ((ll + 1) * 8 ≤ 140737488355328) := by show _ ≤ _; have := HR.out.2.2; omega
        have fit63' : Hid (ll + 1 + 1 ≤ maxLen) := by show _ ≤ _; have := HR.out.2.2; unfold maxLen; omega
        have fit47' : Hid ((ll + 1 + 1) * 8 ≤ 140737488355328) := by show _ ≤ _; have := HR.out.2.2; omega
        have HSZ : Hid (w.heap.size ≤ (wr.alloc (.cells #[.int .u64 (id : Int)] 51)).heap.size) := by have := HR.out.1.below.size; show _ ≤ _; simp; omega
        have HNX : Hid (∀ gg cap w5, (wr.alloc (.cells #[.int .u64 (id : Int)] 51)).grownBy w5 lv.ownBlock → w5.ownsRow w.heap.size 51 1 (.slice (some ⟨gg, 0, none⟩) (ll + 1) cap) (ll + 1) (Bt.nums (Bt.wst id l j) ++ [.int .u64 (id : Int)]) → NO w (Bt.wst id l j ++ [id]) (.slice (some ⟨gg, 0, none⟩) (ll + 1) cap) w5 ∧ w5.ownsRow w.heap.size 51 1 (.slice (some ⟨gg, 0, none⟩) (ll + 1) cap) (ll + 1) (Bt.nums (Bt.wst id l j ++ [id])) ∧ w.heap.size ≤ (w5.alloc (.cells #[.int .u64 (x : Int)] 51)).heap.size) := fun gg cap w5 h1 h2 => by
          have := HR.out.1.app (x := id) (gg := gg) (cap := cap) h1 (by rw [← HR.out.2.1]; exact h2)
          rw [← HR.out.2.1] at this
          refine ⟨this, ?_, ?_⟩
          · have h3 := this.row
            rw [List.length_append, List.length_singleton, ← HR.out.2.1] at h3
            exact h3
          · have := this.below.size; simp; omega
        have HNY : Hid (∀ ga2 capa W gg cap w5, NO w (Bt.wst id l j ++ [id]) (.slice (some ⟨ga2, 0, none⟩) (ll + 1) capa) W → (W.alloc (.cells #[.int .u64 (x : Int)] 51)).grownBy w5 (Value.slice (some ⟨ga2, 0, none⟩) (ll + 1) capa).ownBlock → w5.ownsRow w.heap.size 51 1 (.slice (some ⟨gg, 0, none⟩) (ll + 1 + 1) cap) (ll + 1 + 1) (Bt.nums (Bt.wst id l j ++ [id]) ++ [.int .u64 (x : Int)]) → NO w (Bt.wst id l j1) (.slice (some ⟨gg, 0, none⟩) (ll + 1 + 1) cap) w5) := fun ga2 capa W gg cap w5 h0 h1 h2 => by
          have e : (Bt.wst id l j ++ [id]).length = ll + 1 := by rw [List.length_append, List.length_singleton, HR.out.2.1]
          have := h0.app (x := x) (gg := gg) (cap := cap) h1 (by rw [e]; exact h2)
          rw [e, ← E.out.2] at this
          exact this
        clear HCX hidx hsj qd
        go_upto_region 8 with (first | (at_builtin; refine wpList_append_lies _ rfl _ _ 38 rfl w.heap.size 51 i1 _ 1 8 Tryz.underlying38 hi1 hy0 hy1 hy2 rfl (by decide) _ _ _ rfl (HOWN.out.alloc _) ⟨wr.heap.size, 0, none⟩ 1 1 [.int .u64 (id : Int)] rfl rfl (World.news_of_block (heap_alloc_new wr _)) (by intro u hu; simp at hu; subst hu; rfl) (by decide) fit63.out fit47.out HSZ.out _ rfl ?_; intro gg cap w5 hown5 hgrow hat hglt; have S5 : Hid (NO w (Bt.wst id l j ++ [id]) (.slice (some ⟨gg, 0, none⟩) (ll + 1) cap) w5 ∧ w5.ownsRow w.heap.size 51 1 (.slice (some ⟨gg, 0, none⟩) (ll + 1) cap) (ll + 1) (Bt.nums (Bt.wst id l j ++ [id])) ∧ w.heap.size ≤ (w5.alloc (.cells #[.int .u64 (x : Int)] 51)).heap.size) := HNX.out gg cap w5 hgrow hown5; clear hown5 hgrow hat hglt))
        go_wp2_with (first | (at_builtin; refine wpList_append_lies _ rfl _ _ 38 rfl w.heap.size 51 i1 _ 1 8 Tryz.underlying38 hi1 hy0 hy1 hy2 rfl (by decide) _ _ _ rfl (S5.out.2.1.alloc _) ⟨w5.heap.size, 0, none⟩ 1 1 [.int .u64 (x : Int)] rfl rfl (World.news_of_block (heap_alloc_new w5 _)) (by intro u hu; simp at hu; subst hu; rfl) (by decide) fit63'.out fit47'.out S5.out.2.2 _ rfl ?_; intro gg2 cap2 w6 hown6 hgrow6 hat6 hglt6; have S6 : Hid (NO w (Bt.wst id l j1) (.slice (some ⟨gg2, 0, none⟩) (ll + 1 + 1) cap2) w6) := HNY.out _ _ _ gg2 cap2 w6 S5.out.1 hgrow6 hown6; clear hown6 hgrow6 hat6 hglt6))
        clear v1 v2
        go_roundw
        case rel => first | exact ⟨j1, _, rfl, by rw [E.out.1], rfl, by have := HJ1.out; omega, S6.out⟩ | ((repeat apply Exists.intro); exact ⟨⟨j1, _, rfl, by rw [E.out.1], rfl, by have := HJ1.out; omega, S6.out⟩, rfl⟩)
        case measure =>
          simp only [intOf]
          have := HJ1.out
          omega
      · have HOWN : Hid (wr.ownsRow w.heap.size 51 1 lv ll (Bt.nums (Bt.wst id l j))) := by
          have := HR.out.1.row
          rw [← HR.out.2.1] at this
          exact this
        have fit63 : Hid (ll + 1 ≤ maxLen) := by show _ ≤ _; have := HR.out.2.2; unfold maxLen; omega
        have fit47 : Hid ((ll + 1) * 8 ≤ 140737488355328) := by show _ ≤ _; have := HR.out.2.2; omega
        have HSZ : Hid (w.heap.size ≤ (wr.alloc (.cells #[.int .u64 (x : Int)] 51)).heap.size) := by have := HR.out.1.below.size; show _ ≤ _; simp; omega
        have E : Hid (Bt.wst id l j1 = Bt.wst id l j ++ [x]) := by
          show _ = _
          rw [HJ1.out.1]
          rcases Nat.lt_or_ge j s with q | q
          · exact Bt.wst_low HJ1.out.2.2 (by rw [← HL.out.2.2.2]; exact q)
          · exact Bt.wst_high HJ1.out.2.2 (by rw [← HL.out.2.2.2]; omega)
        have HNX : Hid (∀ gg cap w5, (wr.alloc (.cells #[.int .u64 (x : Int)] 51)).grownBy w5 lv.ownBlock → w5.ownsRow w.heap.size 51 1 (.slice (some ⟨gg, 0, none⟩) (ll + 1) cap) (ll + 1) (Bt.nums (Bt.wst id l j) ++ [.int .u64 (x : Int)]) → NO w (Bt.wst id l j1) (.slice (some ⟨gg, 0, none⟩) (ll + 1) cap) w5) := fun gg cap w5 h1 h2 => by
          have := HR.out.1.app (x := x) (gg := gg) (cap := cap) h1 (by rw [← HR.out.2.1]; exact h2)
          rw [← HR.out.2.1, ← E.out] at this
          exact this
        by_cases hs2 : s < j
        · have qd : decide (s < j) = true := decide_eq_true hs2
          have ED : Hid (decide (s < j1) = true) := decide_eq_true (by have := HJ1.out; omega)
          rw [qd]
          clear HCX hsj qd hs2
          go_wp2_with (first | (at_builtin; refine wpList_append_lies _ rfl _ _ 38 rfl w.heap.size 51 i1 _ 1 8 Tryz.underlying38 hi1 hy0 hy1 hy2 rfl (by decide) _ _ _ rfl (HOWN.out.alloc _) ⟨wr.heap.size, 0, none⟩ 1 1 [.int .u64 (x : Int)] rfl rfl (World.news_of_block (heap_alloc_new wr _)) (by intro u hu; simp at hu; subst hu; rfl) (by decide) fit63.out fit47.out HSZ.out _ rfl ?_; intro gg cap w5 hown5 hgrow hat hglt; have S5 : Hid (NO w (Bt.wst id l j1) (.slice (some ⟨gg, 0, none⟩) (ll + 1) cap) w5) := HNX.out gg cap w5 hgrow hown5; clear hown5 hgrow hat hglt))
          clear v1 v2
          go_roundw
          case rel => first | exact ⟨j1, _, rfl, by rw [ED.out], rfl, by have := HJ1.out; omega, S5.out⟩ | ((repeat apply Exists.intro); exact ⟨⟨j1, _, rfl, by rw [ED.out], rfl, by have := HJ1.out; omega, S5.out⟩, rfl⟩)
          case measure =>
            simp only [intOf]
            have := HJ1.out
            omega
        · have hxid : x < id := HCX.1 (by omega)
          have qx : ¬ (id : Int) < (x : Int) := by omega
          have qx2 : decide ((id : Int) < (x : Int)) = false := decide_eq_false qx
          have qd : decide (s < j) = false := decide_eq_false hs2
          have ED : Hid (decide (s < j1) = false) := decide_eq_false (by have := HJ1.out; omega)
          rw [qd]
          clear HCX hsj qd hs2 hxid
          go_wp2_with (first | (at_builtin; refine wpList_append_lies _ rfl _ _ 38 rfl w.heap.size 51 i1 _ 1 8 Tryz.underlying38 hi1 hy0 hy1 hy2 rfl (by decide) _ _ _ rfl (HOWN.out.alloc _) ⟨wr.heap.size, 0, none⟩ 1 1 [.int .u64 (x : Int)] rfl rfl (World.news_of_block (heap_alloc_new wr _)) (by intro u hu; simp at hu; subst hu; rfl) (by decide) fit63.out fit47.out HSZ.out _ rfl ?_; intro gg cap w5 hown5 hgrow hat hglt; have S5 : Hid (NO w (Bt.wst id l j1) (.slice (some ⟨gg, 0, none⟩) (ll + 1) cap) w5) := HNX.out gg cap w5 hgrow hown5; clear hown5 hgrow hat hglt))
          clear v1 v2
          go_roundw
          case rel => first | exact ⟨j1, _, rfl, by rw [ED.out], rfl, by have := HJ1.out; omega, S5.out⟩ | ((repeat apply Exists.intro); exact ⟨⟨j1, _, rfl, by rw [ED.out], rfl, by have := HJ1.out; omega, S5.out⟩, rfl⟩)
          case measure =>
            simp only [intOf]
            have := HJ1.out
            omega
end Go.Proofs.YtkigenldiinioaaGreatDoor
