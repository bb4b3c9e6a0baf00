/- Keys lie on few levels, rise, and have numbers that rise: walked. -/
import Derived.Test.YtkigenldiinioaaGreatDoorFlAM
import Derived.Test.YtkigenldiinioaaGreatDoorQ44M
namespace Go.Proofs.YtkigenldiinioaaGreatDoor
open Go.RowKit Go.Shelf
open Vl (V)
attribute [local go_sem ↓] Go.wp_at_zero Go.wp_at_succ
theorem InEs.up {w : World} {H K : Nat} {a : Option Addr} {l : List (V × List Nat)} (h : InEs w H a l) (hK : H ≤ K) : InEs w K a l := fun hl => by
  obtain ⟨g, o, h1, h2, h3⟩ := h hl
  refine ⟨g, o, h1, by omega, fun i p hp => ?_⟩
  obtain ⟨k0, k1, k2, k3, k4, k5, pi, cap, hc, h4, h5, h6⟩ := h3 i p hp
  refine ⟨k0, k1, k2, k3, k4, k5, pi, cap, hc, rep_stays (Below.refl _ _) hK _ _ h4, h5, fun hq => ?_⟩
  obtain ⟨g', o', e1, e2, e3⟩ := h6 hq
  exact ⟨g', o', e1, by omega, e3⟩
/-- filled, behind other calls -/
theorem filled_at (w W : World) (hU : Bn.HasU w) (hW : Below w.heap.size w W) (l : List (V × List Nat)) (la : Option Addr) (lc : Nat) (hl : l.length ≤ maxLen) (hI : InEs w w.heap.size la l) : Calls Tryz.prog 9 #[.slice la l.length lc] W fun e w' => ∃ tb L a c, e = .returned (.tuple #[.pointer (some ⟨tb, 0, none⟩), .slice a (List.length L) c, .bool true]) ∧ FS W tb L L a (fun _ _ => False) w' ∧ Below w.heap.size w w' := by
  refine (filled_c W (hU.stays hW) l la lc hl ((hI.stays hW).up hW.size)).mono ?_
  rintro e w' ⟨tb, L, a, c, rfl, h⟩
  exact ⟨tb, L, a, c, rfl, h, hW.trans (h.below.mono hW.size)⟩
theorem dig_nums2 {k h d d1 : Nat} (hh : h = k / 2) (hd : d1 = d + 1) (hb : d ≤ 1000) (hk : k ≤ 1025) : ((k : Int).tdiv 2 = (h : Int) ∧ (k : Int) / 2 = (h : Int)) ∧ (IntKind.i64.wrap (h : Int) = (h : Int) ∧ wrap64 (h : Int) = (h : Int)) ∧ (IntKind.i64.wrap ((d : Int) + 1) = (d1 : Int) ∧ wrap64 ((d : Int) + 1) = (d1 : Int)) :=
  ⟨⟨by rw [hh]; rfl, by omega⟩, Bt.wr rfl (by omega), Bt.wr (by omega) (by omega)⟩
namespace Bt
theorem fewest_nil (n : Nat) : fewest n = 0 ↔ n = 0 := by
  constructor
  · intro h
    have := (fewest_le 0 n).1 (by omega)
    rw [room] at this
    omega
  · intro h
    rw [h, fewest_zero]
end Bt
set_option maxHeartbeats 16000000 in
set_option maxRecDepth 100000 in
theorem shallow_w (w : World) (hU : Bn.HasU w) (l : List (V × List Nat)) (la : Option Addr) (lc : Nat) (hl : l.length ≤ maxLen) (hI : InEs w w.heap.size la l) : Calls Tryz.prog 4 #[.slice la l.length lc] w fun e w' => e = .returned (.bool true) ∧ Below w.heap.size w w' := by
  have CL : Hid (Calls Tryz.prog 10 #[] w fun e w' => e = .returned (.bool true) ∧ Below w.heap.size w w') := livesB_c w hU
  have CF : Hid (∀ W, Below w.heap.size w W → Calls Tryz.prog 9 #[.slice la l.length lc] W fun e w' => ∃ tb L a c, e = .returned (.tuple #[.pointer (some ⟨tb, 0, none⟩), .slice a (List.length L) c, .bool true]) ∧ FS W tb L L a (fun _ _ => False) w' ∧ Below w.heap.size w w') := fun W hW => filled_at w W hU hW l la lc hl hI
  have HU : Hid (Bn.HasU w) := hU
  clear hU hl hI
  go_enter Tryz.func4, Tryz.ntmps4
  go_wp2_with fail
  refine CL.out.mono ?_
  rintro e w1 ⟨rfl, hb1⟩
  have K1 : Hid (Below w.heap.size w w1) := hb1
  clear hb1 CL
  go_wp2_with fail
  refine (CF.out _ K1.out).mono ?_
  rintro e w2 ⟨tb, L, wa, wc, rfl, hfs, hb2⟩
  have K2 : Hid (Below w.heap.size w w2) := hb2
  have HFS : Hid (∃ F O, TSt w2 F O tb L) := by obtain ⟨F, O, h1, _⟩ := hfs.ex; exact ⟨F, O, h1⟩
  have HLW : Hid (Bt.LW L) := hfs.lw
  obtain ⟨n, hn⟩ : ∃ n, n = L.length := ⟨_, rfl⟩
  have HN : Hid (n = L.length ∧ n ≤ 1024) := ⟨hn, by rw [hn]; exact hfs.lw.len⟩
  obtain ⟨wn, hwn⟩ : ∃ wn, wn = L.length := ⟨_, rfl⟩
  have CR : Hid (Calls Tryz.prog 11 #[.pointer (some ⟨tb, 0, none⟩), .agg #[.bool false, .bool false, .int .u8 0, .bool false, .int .i64 0, .string ⟨#[]⟩, .slice none 0 0, .slice none 0 0], .agg #[.bool false, .bool false, .int .u8 0, .bool false, .int .i64 0, .string ⟨#[]⟩, .slice none 0 0, .slice none 0 0]] w2 fun ex w' => ∃ a c, ex = .returned (.tuple #[.slice a n c, .int .i64 0]) ∧ Hid (EntsAt w' a L ∧ Below w2.heap.size w2 w')) := by
    obtain ⟨F, O, h1⟩ := HFS.out
    refine (range_t h1 (HU.out.stays hb2) none none _ _ (bnd_none _ _) (bnd_none _ _) (fun p h => by cases h) (fun p h => by cases h)).mono ?_
    rintro ex w' ⟨a, m, c, rfl, hm, _, hE, hb⟩
    rw [Bt.filter_all] at hm hE
    rw [hm, ← hn]
    exact ⟨a, c, rfl, hE, hb⟩
  rw [← hwn]
  clear hfs hb2 CF hn hwn K1
  go_wp2_with fail
  refine CR.out.mono ?_
  rintro e w3 ⟨a, c, rfl, HV⟩
  have K3 : Hid (Below w.heap.size w w3) := K2.out.trans (HV.out.2.mono K2.out.size)
  have HE : Hid (EntsAt w3 a L) := HV.out.1
  have HT3 : Hid (∃ F O, TSt w3 F O tb L) := by obtain ⟨F, O, h1⟩ := HFS.out; exact ⟨F, O, h1.stays HV.out.2⟩
  have CD : Hid (∀ W, Below w3.heap.size w3 W → Calls Tryz.prog 20 #[.pointer (some ⟨tb, 0, none⟩)] W fun e w' => e = .returned (.int .i64 (Bt.fewest n : Int)) ∧ w' = W) := fun W hW => by
    obtain ⟨F, O, h1⟩ := HT3.out
    have := depth_t (h1.stays hW)
    rw [← HN.out.1] at this
    exact this
  obtain ⟨sm, hsm⟩ : ∃ sm, sm = Bt.lsum L := ⟨_, rfl⟩
  have CN : Hid (∀ W, Below w3.heap.size w3 W → Calls Tryz.prog 18 #[.pointer (some ⟨tb, 0, none⟩)] W fun e w' => e = .returned (.int .i64 (sm : Int)) ∧ w' = W) := fun W hW => by
    obtain ⟨F, O, h1⟩ := HT3.out
    rw [hsm]
    exact count_s (h1.stays hW)
  have HSM : Hid (sm = Bt.lsum L ∧ sm ≤ 1024) := ⟨hsm, by rw [hsm]; exact HLW.out.le⟩
  obtain ⟨n1, hn1⟩ : ∃ n1, n1 = n + 1 := ⟨_, rfl⟩
  obtain ⟨v5, v6⟩ : IntKind.i64.wrap ((n : Int) + 1) = (n1 : Int) ∧ wrap64 ((n : Int) + 1) = (n1 : Int) := Bt.wr (by omega) (by have := HN.out; omega)
  have HN1 : Hid (n1 = n + 1) := hn1
  have K3r : Hid (Below w3.heap.size w3 w3) := Below.refl _ _
  clear HV CR HFS K2 HT3 hn1 hsm
  go_wp2
  clear v5 v6
  go_loopw [8, 9] (fun v u wr => ∃ (d k : Nat), v = .int .i64 (d : Int) ∧ u = .int .i64 (k : Int) ∧ k ≤ 1025 ∧ d + Bt.digs k = Bt.digs n1 ∧ wr = w3) (fun _ u _ => (intOf u).toNat)
  case atStart => exact ⟨0, n1, rfl, rfl, by have := HN1.out; have := HN.out; omega, by omega, rfl⟩
  case round =>
    obtain ⟨d, k, rfl, rfl, hk, hdk, hwr⟩ := hrel
    subst hwr
    have hdl : d ≤ 1000 := by
      have := Bt.digs_small (k := n1) (by have := HN1.out; have := HN.out; omega)
      omega
    by_cases hk0 : k = 0
    · subst hk0
      have q5 : ¬ (0 : Int) < ((0 : Nat) : Int) := by omega
      have HDG : Hid (d = Bt.digs (n + 1)) := by
        rw [Bt.digs_zero, HN1.out] at hdk
        exact hdk
      have hle : Bt.fewest n ≤ d := by rw [HDG.out]; exact Bt.fewest_digs n
      obtain ⟨fw, hfw⟩ : ∃ fw, fw = Bt.fewest n := ⟨_, rfl⟩
      rw [← hfw] at hle CD
      have q6 : ¬ (d : Int) < (fw : Int) := by omega
      have q6d : decide ((d : Int) < (fw : Int)) = false := decide_eq_false q6
      have q7 : ((fw : Int) == 0) = ((n : Int) == 0) := by
        have h := Bt.fewest_nil n
        rw [← hfw] at h
        by_cases e : n = 0
        · rw [e, h.2 e]
        · have e2 : fw ≠ 0 := fun q => e (h.1 q)
          have h1 : ((fw : Int) == 0) = false := by simp; omega
          have h2 : ((n : Int) == 0) = false := by simp; omega
          rw [h1, h2]
      clear hk hdk hdl hle hfw
      go_wp2_with fail
      refine (CD.out _ (Below.refl _ _)).mono ?_
      rintro e w4 ⟨rfl, rfl⟩
      go_wp2_with fail
      refine (CD.out _ (Below.refl _ _)).mono ?_
      rintro e w5 ⟨rfl, rfl⟩
      go_wp2_with fail
      go_loopw [10, 58] (fun v u wr => ∃ (d j : Nat), v = .int .i64 (d : Int) ∧ u = .int .i64 (j : Int) ∧ j ≤ n ∧ d = Bt.lsum (L.take j) ∧ Below w5.heap.size w5 wr) (fun _ u _ => n - (intOf u).toNat)
      case atStart => exact ⟨0, 0, rfl, rfl, by omega, rfl, Below.refl _ _⟩
      case round =>
        obtain ⟨dd, j, rfl, rfl, hj, hdd, hbr⟩ := hrel
        have HR : Hid (Below w5.heap.size w5 wr ∧ dd = Bt.lsum (L.take j)) := ⟨hbr, hdd⟩
        clear hbr hdd
        by_cases hjn : j = n
        · subst hjn
          have q0 : ¬ (j : Int) < (j : Int) := by omega
          have E : Hid (dd = sm) := by
            show _ = _
            rw [HR.out.2, HN.out.1, List.take_length, HSM.out.1]
          go_wp2_with fail
          refine (CN.out _ HR.out.1).mono ?_
          rintro e w6 ⟨rfl, rfl⟩
          obtain rfl : dd = sm := E.out
          go_wp2
          go_ret
          exact ⟨by first | rfl | simp, K3.out.trans (HR.out.1.mono K3.out.size)⟩
        · have hlt : j < n := by omega
          have q0 : (j : Int) < (n : Int) := by omega
          have q1 : (0 : Int) ≤ (j : Int) := by omega
          have HBL : Hid (Below w5.heap.size w5 wr) := HR.out.1
          have HA : Hid (EntsAt w5 a L) := HE.out
          obtain ⟨p, hp⟩ : ∃ p, L[j]? = some p := ⟨_, List.getElem?_eq_getElem (by have := HN.out; omega)⟩
          obtain ⟨g, k0, k1, k2, k3, k4, k5, pi, cap, rfl, h2, ⟨c0, c1, c2, c3, c4, c5, c6⟩, h4, h5, h6⟩ := HA.out j p hp
          obtain ⟨ln, hln⟩ : ∃ ln, ln = p.2.length := ⟨_, rfl⟩
          obtain ⟨o, ho⟩ : ∃ o, o = j * 7 := ⟨_, rfl⟩
          rw [← ho] at c0 c1 c2 c3 c4 c5 c6
          rw [← hln] at c6
          have cl := fun o => (HBL.out).cell (p := ⟨g, o, none⟩) h2
          have a0 := (cl _).trans c0
          have a1 := (cl _).trans c1
          have a2 := (cl _).trans c2
          have a3 := (cl _).trans c3
          have a4 := (cl _).trans c4
          have a5 := (cl _).trans c5
          have a6 := (cl _).trans c6
          have ho' := ho.symm
          obtain ⟨kk0, kk1, kk2, kk3, kk4, kk5, ky0, ky1, kz0, kz1, f0, f1, f2, f3, f4, f5⟩ := rep_form h4
          subst f0 f1 f2 f3 f4 f5
          obtain ⟨j1, hj1⟩ : ∃ j1, j1 = j + 1 := ⟨_, rfl⟩
          have HVV : Hid (IntKind.i64.wrap ((j : Int) + 1) = (j1 : Int) ∧ wrap64 ((j : Int) + 1) = (j1 : Int)) := succs hj1 (by have := HN.out; omega)
          have HJ : Hid (j1 = j + 1 ∧ j < n ∧ L[j]? = some p ∧ ln = p.2.length ∧ 1 ≤ ln ∧ ln ≤ 1024) := ⟨hj1, hlt, hp, hln, by rw [hln]; exact (HLW.out.asc p (List.mem_of_getElem? hp)).2, by rw [hln]; exact HLW.out.few (List.mem_of_getElem? hp)⟩
          have HCP : Hid (∀ (q : V × List Nat) va, 0 < j → L[j - 1]? = some q → Rep w5 w5.heap.size q.1 va → ∃ cc : Int, cc < 0 ∧ ∀ W, Below w5.heap.size w5 W → Calls Tryz.prog 21 #[va, .agg #[.int .u8 (kk0 : Int), .bool kk1, .int .i64 kk2, .string kk3, .slice kk4 kk5 ky0, .slice ky1 kz0 kz1]] W fun e w' => e = .returned (.int .i64 cc) ∧ Below W.heap.size W w') := fun q va h0 hq hr => by
            refine ⟨Vl.cmp q.1 p.1, ?_, fun W hW => rcompare20 _ q.1 (Nat.le_refl _) p.1 W w5.heap.size _ _ hW.size (rep_stays hW (Nat.le_refl _) _ _ hr) (rep_stays hW (Nat.le_refl _) _ _ h4)⟩
            have h1 := (List.getElem?_eq_some_iff.1 hq)
            have h2 := (List.getElem?_eq_some_iff.1 hp)
            obtain ⟨h1a, h1b⟩ := h1
            obtain ⟨h2a, h2b⟩ := h2
            have h3 := List.pairwise_iff_getElem.1 HLW.out.rises (j - 1) j h1a h2a (by omega)
            rw [h1b, h2b] at h3
            exact h3
          have H5 : Hid (NumsAt w5 pi p.2) := h5
          clear c0 c1 c2 c3 c4 c5 c6 cl h2 h4 h5 h6 hp hln ho hj1 hjn hj hlt
          go_upto_region 16 with fail
          obtain ⟨w3b, hw3b⟩ : ∃ w3b, w3b = wr.alloc (.cells #[.int .u8 (kk0 : Int), .bool kk1, .int .i64 kk2, .string kk3, .slice kk4 kk5 ky0, .slice ky1 kz0 kz1, .slice pi ln cap] 49) := ⟨_, rfl⟩
          have n1 := by have := heap_alloc_new wr (.cells #[.int .u8 (kk0 : Int), .bool kk1, .int .i64 kk2, .string kk3, .slice kk4 kk5 ky0, .slice ky1 kz0 kz1, .slice pi ln cap] 49); rw [← hw3b] at this; exact this
          have n2 : Below wr.heap.size wr w3b := by rw [hw3b]; exact below_new _ _
          rw [← hw3b]
          obtain ⟨X, hX⟩ : ∃ X, X = wr.heap.size := ⟨_, rfl⟩
          rw [← hX] at n1 ⊢
          have HB3 : Hid (Below w5.heap.size w5 w3b ∧ w3b.heap[X]? = some (.cells #[.int .u8 (kk0 : Int), .bool kk1, .int .i64 kk2, .string kk3, .slice kk4 kk5 ky0, .slice ky1 kz0 kz1, .slice pi ln cap] 49 (0, 0))) := ⟨HR.out.1.trans (n2.mono HR.out.1.size), n1⟩
          have HC3 : Hid (∀ W, Below w3b.heap.size w3b W → Below w5.heap.size w5 W ∧ W.heap[X]? = some (.cells #[.int .u8 (kk0 : Int), .bool kk1, .int .i64 kk2, .string kk3, .slice kk4 kk5 ky0, .slice ky1 kz0 kz1, .slice pi ln cap] 49 (0, 0))) := fun W hW => ⟨HB3.out.1.trans (hW.mono HB3.out.1.size), (hW.block _ (lt_of_row HB3.out.2)).trans HB3.out.2⟩
          clear n2 hw3b n1 hX a0 a1 a2 a3 a4 a5 a6
          have y0 : ∀ q : BelowOf w3b.heap.size w3b, q.W.cell? ⟨X, 0, none⟩ = some (.int .u8 (kk0 : Int)) := fun q => cells_at (HC3.out _ q.h).2 0 _ rfl
          have y1 : ∀ q : BelowOf w3b.heap.size w3b, q.W.cell? ⟨X, 1, none⟩ = some (.bool kk1) := fun q => cells_at (HC3.out _ q.h).2 1 _ rfl
          have y2 : ∀ q : BelowOf w3b.heap.size w3b, q.W.cell? ⟨X, 2, none⟩ = some (.int .i64 kk2) := fun q => cells_at (HC3.out _ q.h).2 2 _ rfl
          have y3 : ∀ q : BelowOf w3b.heap.size w3b, q.W.cell? ⟨X, 3, none⟩ = some (.string kk3) := fun q => cells_at (HC3.out _ q.h).2 3 _ rfl
          have y4 : ∀ q : BelowOf w3b.heap.size w3b, q.W.cell? ⟨X, 4, none⟩ = some (.slice kk4 kk5 ky0) := fun q => cells_at (HC3.out _ q.h).2 4 _ rfl
          have y5 : ∀ q : BelowOf w3b.heap.size w3b, q.W.cell? ⟨X, 5, none⟩ = some (.slice ky1 kz0 kz1) := fun q => cells_at (HC3.out _ q.h).2 5 _ rfl
          have y6 : ∀ q : BelowOf w3b.heap.size w3b, q.W.cell? ⟨X, 6, none⟩ = some (.slice pi ln cap) := fun q => cells_at (HC3.out _ q.h).2 6 _ rfl
          have ql : ((ln : Int) == 0) = false := by have := HJ.out; simp; omega
          by_cases hj0 : 0 < j
          · have qj : (0 : Int) < (j : Int) := by omega
            have qjd : decide ((0 : Int) < (j : Int)) = true := decide_eq_true qj
            have qjn : decide (0 < j) = true := decide_eq_true hj0
            have qjn2 : 0 < j := hj0
            obtain ⟨jm, hjm⟩ : ∃ jm, jm = j - 1 := ⟨_, rfl⟩
            obtain ⟨q, hq⟩ : ∃ q, L[jm]? = some q := ⟨_, List.getElem?_eq_getElem (by have := HN.out; have := HJ.out; omega)⟩
            obtain ⟨g2, m0, m1, m2, m3, m4, m5, pi2, cap2, hga, h2, ⟨c0, c1, c2, c3, c4, c5, c6⟩, h4, h5, h6⟩ := HE.out jm q hq
            obtain rfl : g = g2 := by cases hga; rfl
            obtain ⟨mk0, mk1, mk2, mk3, mk4, mk5, my0, my1, mz0, mz1, f0, f1, f2, f3, f4, f5⟩ := rep_form h4
            subst f0 f1 f2 f3 f4 f5
            obtain ⟨cc, hcc, hcall⟩ := HCP.out q _ hj0 (by rw [← hjm]; exact hq) h4
            obtain ⟨op, hop⟩ : ∃ op, op = jm * 7 := ⟨_, rfl⟩
            rw [← hop] at c0 c1 c2 c3 c4 c5 c6
            have CC : Hid (∀ W, Below w3b.heap.size w3b W → Calls Tryz.prog 21 #[.agg #[.int .u8 (mk0 : Int), .bool mk1, .int .i64 mk2, .string mk3, .slice mk4 mk5 my0, .slice my1 mz0 mz1], .agg #[.int .u8 (kk0 : Int), .bool kk1, .int .i64 kk2, .string kk3, .slice kk4 kk5 ky0, .slice ky1 kz0 kz1]] W fun e w' => e = .returned (.int .i64 cc) ∧ Below W.heap.size W w') := fun W hW => hcall W (HC3.out W hW).1
            have cl2 : ∀ (p : BelowOf w3b.heap.size w3b) (o : Nat), p.W.cell? ⟨g, o, none⟩ = w5.cell? ⟨g, o, none⟩ := fun p o => (HC3.out _ p.h).1.cell (p := ⟨g, o, none⟩) h2
            have b0 : ∀ q : BelowOf w3b.heap.size w3b, q.W.cell? ⟨g, op, none⟩ = some (.int .u8 (mk0 : Int)) := fun q => (cl2 q _).trans c0
            have b1 : ∀ q : BelowOf w3b.heap.size w3b, q.W.cell? ⟨g, op + 1, none⟩ = some (.bool mk1) := fun q => (cl2 q _).trans c1
            have b2 : ∀ q : BelowOf w3b.heap.size w3b, q.W.cell? ⟨g, op + 2, none⟩ = some (.int .i64 mk2) := fun q => (cl2 q _).trans c2
            have b3 : ∀ q : BelowOf w3b.heap.size w3b, q.W.cell? ⟨g, op + 3, none⟩ = some (.string mk3) := fun q => (cl2 q _).trans c3
            have b4 : ∀ q : BelowOf w3b.heap.size w3b, q.W.cell? ⟨g, op + 4, none⟩ = some (.slice mk4 mk5 my0) := fun q => (cl2 q _).trans c4
            have b5 : ∀ q : BelowOf w3b.heap.size w3b, q.W.cell? ⟨g, op + 5, none⟩ = some (.slice my1 mz0 mz1) := fun q => (cl2 q _).trans c5
            have hop' := hop.symm
            have qcc : ¬ (0 : Int) ≤ cc := by omega
            have qcd : decide ((0 : Int) ≤ cc) = false := decide_eq_false qcc
            have qm1 : (0 : Int) ≤ (jm : Int) := by omega
            have qm2 : (jm : Int) < (n : Int) := by have := HJ.out; omega
            obtain ⟨x1, x2⟩ : IntKind.i64.wrap ((j : Int) - 1) = (jm : Int) ∧ wrap64 ((j : Int) - 1) = (jm : Int) := Bt.wr (by omega) (by have := HJ.out; have := HN.out; omega)
            clear c0 c1 c2 c3 c4 c5 c6 cl2 h2 h4 h5 h6 hga hcall hcc hj0 hjm hq hop HCP
            refine wp_region_below w3b.heap.size w3b (Below.refl _ _) (by kernel_rfl) (by kernel_rfl) ?_
            repeat (go_big_quiet_step (first | (go_at_call 21; exact below_call _ (Nat.le_refl _) (CC.out _ (BelowOf.h _)))))
            refine wpQuiet_nil ?_
            clear b0 b1 b2 b3 b4 b5 x1 x2 qcc qcd qm1 qm2 qj qjd qjn qjn2 hop' CC
            intro _ hw'
            obtain ⟨pq, hw''⟩ := hw'
            subst hw''
            obtain ⟨wq, hwq⟩ : ∃ wq, wq = pq.W := ⟨_, rfl⟩
            have HQ : Hid (Below w3b.heap.size w3b wq) := by
              show Below _ _ _
              rw [hwq]
              exact pq.h
            rw [← hwq]
            clear hwq pq y0 y1 y2 y3 y4 y5 y6 ql
            have y6 := cells_at (HC3.out _ HQ.out).2 6 _ rfl
            obtain ⟨wB, hwB⟩ : ∃ wB, wB = wr := ⟨_, rfl⟩
            subst hwB
            go_wp2_with fail
            go_loopw [10, 86] (fun v u wr => ∃ (d k : Nat), v = .int .i64 (d : Int) ∧ u = .int .i64 (k : Int) ∧ k ≤ ln ∧ d = dd + k ∧ wr = wq) (fun _ u _ => ln - (intOf u).toNat)
            case atStart => exact ⟨dd, 0, rfl, rfl, by omega, by omega, rfl⟩
            case round =>
              obtain ⟨d, k, rfl, rfl, hk, hd, hwr⟩ := hrel
              subst hwr
              have HD : Hid (d = dd + k) := hd
              clear hd
              by_cases hkn : k = ln
              · subst hkn
                have q2 : ¬ (k : Int) < (k : Int) := by omega
                have E : Hid (d = Bt.lsum (L.take j1)) := by
                  show _ = _
                  rw [HJ.out.1, Bt.lsum_take HJ.out.2.2.1, HD.out, HR.out.2, HJ.out.2.2.2.1]
                obtain ⟨v1, v2⟩ := HVV.out
                go_wp2
                clear v1 v2
                go_roundw
                case rel => first | exact ⟨d, j1, rfl, rfl, by have := HJ.out; omega, E.out, (HC3.out _ HQ.out).1⟩ | ((repeat apply Exists.intro); exact ⟨⟨d, j1, rfl, rfl, by have := HJ.out; omega, E.out, (HC3.out _ HQ.out).1⟩, rfl⟩)
                case measure =>
                  simp only [intOf]
                  have := HJ.out
                  omega
              · have q2 : (k : Int) < (ln : Int) := by omega
                have q3 : (0 : Int) ≤ (k : Int) := by omega
                obtain ⟨x, hx⟩ : ∃ x, p.2[k]? = some x := ⟨_, List.getElem?_eq_getElem (by have := HJ.out; omega)⟩
                obtain ⟨gi, rfl, hgi, hci⟩ := H5.out k x hx
                have ci := ((HC3.out _ HQ.out).1.cell (p := ⟨gi, k, none⟩) hgi).trans hci
                obtain ⟨k1, hk1⟩ : ∃ k1, k1 = k + 1 := ⟨_, rfl⟩
                obtain ⟨d1, hd1⟩ : ∃ d1, d1 = d + 1 := ⟨_, rfl⟩
                have hdl : d ≤ 1000000 := by have := HD.out; have := HR.out.2; have := Bt.lsum_take_le L j; have := HSM.out; have := HJ.out; omega
                have HUU : Hid ((IntKind.i64.wrap ((k : Int) + 1) = (k1 : Int) ∧ wrap64 ((k : Int) + 1) = (k1 : Int)) ∧ (IntKind.i64.wrap ((d : Int) + 1) = (d1 : Int) ∧ wrap64 ((d : Int) + 1) = (d1 : Int))) := ⟨succs hk1 (by have := HJ.out; omega), succs hd1 hdl⟩
                have HK1 : Hid (k1 = k + 1 ∧ k < ln ∧ d1 = dd + k1 ∧ p.2[k]? = some x) := ⟨hk1, by omega, by have := HD.out; omega, hx⟩
                clear hx hgi hci hk1 hd1 hdl hk hkn
                by_cases hk0 : 0 < k
                · have q4 : (0 : Int) < (k : Int) := by omega
                  have q4d : decide ((0 : Int) < (k : Int)) = true := decide_eq_true q4
                  obtain ⟨km, hkm⟩ : ∃ km, km = k - 1 := ⟨_, rfl⟩
                  obtain ⟨xm, hxm⟩ : ∃ xm, p.2[km]? = some xm := ⟨_, List.getElem?_eq_getElem (by have := HJ.out; have := HK1.out; omega)⟩
                  obtain ⟨gi2, hgi2, hgl, hcm⟩ := H5.out km xm hxm
                  obtain rfl : gi = gi2 := by cases hgi2; rfl
                  have cm := ((HC3.out _ HQ.out).1.cell (p := ⟨gi, km, none⟩) hgl).trans hcm
                  have hlt : xm < x := by
                    have h1 := List.getElem?_eq_some_iff.1 hxm
                    have h2 := List.getElem?_eq_some_iff.1 HK1.out.2.2.2
                    obtain ⟨h1a, h1b⟩ := h1
                    obtain ⟨h2a, h2b⟩ := h2
                    have h3 := List.pairwise_iff_getElem.1 (HLW.out.asc p (List.mem_of_getElem? HJ.out.2.2.1)).1 km k h1a h2a (by omega)
                    rw [h1b, h2b] at h3
                    exact h3
                  have q5 : ¬ (x : Int) ≤ (xm : Int) := by omega
                  have q5d : decide ((x : Int) ≤ (xm : Int)) = false := decide_eq_false q5
                  have q6 : (0 : Int) ≤ (km : Int) := by omega
                  have q7 : (km : Int) < (ln : Int) := by have := HK1.out; omega
                  obtain ⟨z1, z2⟩ : IntKind.i64.wrap ((k : Int) - 1) = (km : Int) ∧ wrap64 ((k : Int) - 1) = (km : Int) := Bt.wr (by omega) (by have := HJ.out; have := HK1.out; omega)
                  obtain ⟨⟨u1, u2⟩, u3, u4⟩ := HUU.out
                  clear hk0 hkm hxm hgi2 hgl hcm hlt
                  go_wp2
                  clear u1 u2 u3 u4 z1 z2
                  go_roundw
                  case rel => first | exact ⟨_, _, _, _, _, ⟨d1, rfl, k1, rfl, by have := HK1.out; omega, HK1.out.2.2.1⟩, rfl, rfl, rfl, rfl, rfl⟩ | exact ⟨d1, k1, rfl, rfl, by have := HK1.out; omega, HK1.out.2.2.1, trivial⟩ | exact ⟨d1, k1, rfl, rfl, by have := HK1.out; omega, HK1.out.2.2.1, rfl⟩ | ((repeat apply Exists.intro); exact ⟨⟨d1, k1, rfl, rfl, by have := HK1.out; omega, HK1.out.2.2.1, rfl⟩, rfl⟩)
                  case measure =>
                    simp only [intOf]
                    have := HK1.out
                    omega
                · have q4 : ¬ (0 : Int) < (k : Int) := by omega
                  have q4d : decide ((0 : Int) < (k : Int)) = false := decide_eq_false q4
                  obtain ⟨⟨u1, u2⟩, u3, u4⟩ := HUU.out
                  clear hk0
                  go_wp2
                  clear u1 u2 u3 u4
                  go_roundw
                  case rel => first | exact ⟨_, _, _, _, _, ⟨d1, rfl, k1, rfl, by have := HK1.out; omega, HK1.out.2.2.1⟩, rfl, rfl, rfl, rfl, rfl⟩ | exact ⟨d1, k1, rfl, rfl, by have := HK1.out; omega, HK1.out.2.2.1, trivial⟩ | exact ⟨d1, k1, rfl, rfl, by have := HK1.out; omega, HK1.out.2.2.1, rfl⟩ | ((repeat apply Exists.intro); exact ⟨⟨d1, k1, rfl, rfl, by have := HK1.out; omega, HK1.out.2.2.1, rfl⟩, rfl⟩)
                  case measure =>
                    simp only [intOf]
                    have := HK1.out
                    omega
          · have qj : ¬ (0 : Int) < (j : Int) := by omega
            have qjd : decide ((0 : Int) < (j : Int)) = false := decide_eq_false qj
            have qjn : decide (0 < j) = false := decide_eq_false hj0
            have qjn2 : ¬ 0 < j := hj0
            clear hj0 HCP
            refine wp_region_below w3b.heap.size w3b (Below.refl _ _) (by kernel_rfl) (by kernel_rfl) ?_
            repeat (go_big_quiet_step (fail))
            refine wpQuiet_nil ?_
            clear qj qjd qjn qjn2
            intro _ hw'
            obtain ⟨pq, hw''⟩ := hw'
            subst hw''
            obtain ⟨wq, hwq⟩ : ∃ wq, wq = pq.W := ⟨_, rfl⟩
            have HQ : Hid (Below w3b.heap.size w3b wq) := by
              show Below _ _ _
              rw [hwq]
              exact pq.h
            rw [← hwq]
            clear hwq pq y0 y1 y2 y3 y4 y5 y6 ql
            have y6 := cells_at (HC3.out _ HQ.out).2 6 _ rfl
            obtain ⟨wB, hwB⟩ : ∃ wB, wB = wr := ⟨_, rfl⟩
            subst hwB
            go_wp2_with fail
            go_loopw [10, 86] (fun v u wr => ∃ (d k : Nat), v = .int .i64 (d : Int) ∧ u = .int .i64 (k : Int) ∧ k ≤ ln ∧ d = dd + k ∧ wr = wq) (fun _ u _ => ln - (intOf u).toNat)
            case atStart => exact ⟨dd, 0, rfl, rfl, by omega, by omega, rfl⟩
            case round =>
              obtain ⟨d, k, rfl, rfl, hk, hd, hwr⟩ := hrel
              subst hwr
              have HD : Hid (d = dd + k) := hd
              clear hd
              by_cases hkn : k = ln
              · subst hkn
                have q2 : ¬ (k : Int) < (k : Int) := by omega
                have E : Hid (d = Bt.lsum (L.take j1)) := by
                  show _ = _
                  rw [HJ.out.1, Bt.lsum_take HJ.out.2.2.1, HD.out, HR.out.2, HJ.out.2.2.2.1]
                obtain ⟨v1, v2⟩ := HVV.out
                go_wp2
                clear v1 v2
                go_roundw
                case rel => first | exact ⟨d, j1, rfl, rfl, by have := HJ.out; omega, E.out, (HC3.out _ HQ.out).1⟩ | ((repeat apply Exists.intro); exact ⟨⟨d, j1, rfl, rfl, by have := HJ.out; omega, E.out, (HC3.out _ HQ.out).1⟩, rfl⟩)
                case measure =>
                  simp only [intOf]
                  have := HJ.out
                  omega
              · have q2 : (k : Int) < (ln : Int) := by omega
                have q3 : (0 : Int) ≤ (k : Int) := by omega
                obtain ⟨x, hx⟩ : ∃ x, p.2[k]? = some x := ⟨_, List.getElem?_eq_getElem (by have := HJ.out; omega)⟩
                obtain ⟨gi, rfl, hgi, hci⟩ := H5.out k x hx
                have ci := ((HC3.out _ HQ.out).1.cell (p := ⟨gi, k, none⟩) hgi).trans hci
                obtain ⟨k1, hk1⟩ : ∃ k1, k1 = k + 1 := ⟨_, rfl⟩
                obtain ⟨d1, hd1⟩ : ∃ d1, d1 = d + 1 := ⟨_, rfl⟩
                have hdl : d ≤ 1000000 := by have := HD.out; have := HR.out.2; have := Bt.lsum_take_le L j; have := HSM.out; have := HJ.out; omega
                have HUU : Hid ((IntKind.i64.wrap ((k : Int) + 1) = (k1 : Int) ∧ wrap64 ((k : Int) + 1) = (k1 : Int)) ∧ (IntKind.i64.wrap ((d : Int) + 1) = (d1 : Int) ∧ wrap64 ((d : Int) + 1) = (d1 : Int))) := ⟨succs hk1 (by have := HJ.out; omega), succs hd1 hdl⟩
                have HK1 : Hid (k1 = k + 1 ∧ k < ln ∧ d1 = dd + k1 ∧ p.2[k]? = some x) := ⟨hk1, by omega, by have := HD.out; omega, hx⟩
                clear hx hgi hci hk1 hd1 hdl hk hkn
                by_cases hk0 : 0 < k
                · have q4 : (0 : Int) < (k : Int) := by omega
                  have q4d : decide ((0 : Int) < (k : Int)) = true := decide_eq_true q4
                  obtain ⟨km, hkm⟩ : ∃ km, km = k - 1 := ⟨_, rfl⟩
                  obtain ⟨xm, hxm⟩ : ∃ xm, p.2[km]? = some xm := ⟨_, List.getElem?_eq_getElem (by have := HJ.out; have := HK1.out; omega)⟩
                  obtain ⟨gi2, hgi2, hgl, hcm⟩ := H5.out km xm hxm
                  obtain rfl : gi = gi2 := by cases hgi2; rfl
                  have cm := ((HC3.out _ HQ.out).1.cell (p := ⟨gi, km, none⟩) hgl).trans hcm
                  have hlt : xm < x := by
                    have h1 := List.getElem?_eq_some_iff.1 hxm
                    have h2 := List.getElem?_eq_some_iff.1 HK1.out.2.2.2
                    obtain ⟨h1a, h1b⟩ := h1
                    obtain ⟨h2a, h2b⟩ := h2
                    have h3 := List.pairwise_iff_getElem.1 (HLW.out.asc p (List.mem_of_getElem? HJ.out.2.2.1)).1 km k h1a h2a (by omega)
                    rw [h1b, h2b] at h3
                    exact h3
                  have q5 : ¬ (x : Int) ≤ (xm : Int) := by omega
                  have q5d : decide ((x : Int) ≤ (xm : Int)) = false := decide_eq_false q5
                  have q6 : (0 : Int) ≤ (km : Int) := by omega
                  have q7 : (km : Int) < (ln : Int) := by have := HK1.out; omega
                  obtain ⟨z1, z2⟩ : IntKind.i64.wrap ((k : Int) - 1) = (km : Int) ∧ wrap64 ((k : Int) - 1) = (km : Int) := Bt.wr (by omega) (by have := HJ.out; have := HK1.out; omega)
                  obtain ⟨⟨u1, u2⟩, u3, u4⟩ := HUU.out
                  clear hk0 hkm hxm hgi2 hgl hcm hlt
                  go_wp2
                  clear u1 u2 u3 u4 z1 z2
                  go_roundw
                  case rel => first | exact ⟨_, _, _, _, _, ⟨d1, rfl, k1, rfl, by have := HK1.out; omega, HK1.out.2.2.1⟩, rfl, rfl, rfl, rfl, rfl⟩ | exact ⟨d1, k1, rfl, rfl, by have := HK1.out; omega, HK1.out.2.2.1, trivial⟩ | exact ⟨d1, k1, rfl, rfl, by have := HK1.out; omega, HK1.out.2.2.1, rfl⟩ | ((repeat apply Exists.intro); exact ⟨⟨d1, k1, rfl, rfl, by have := HK1.out; omega, HK1.out.2.2.1, rfl⟩, rfl⟩)
                  case measure =>
                    simp only [intOf]
                    have := HK1.out
                    omega
                · have q4 : ¬ (0 : Int) < (k : Int) := by omega
                  have q4d : decide ((0 : Int) < (k : Int)) = false := decide_eq_false q4
                  obtain ⟨⟨u1, u2⟩, u3, u4⟩ := HUU.out
                  clear hk0
                  go_wp2
                  clear u1 u2 u3 u4
                  go_roundw
                  case rel => first | exact ⟨_, _, _, _, _, ⟨d1, rfl, k1, rfl, by have := HK1.out; omega, HK1.out.2.2.1⟩, rfl, rfl, rfl, rfl, rfl⟩ | exact ⟨d1, k1, rfl, rfl, by have := HK1.out; omega, HK1.out.2.2.1, trivial⟩ | exact ⟨d1, k1, rfl, rfl, by have := HK1.out; omega, HK1.out.2.2.1, rfl⟩ | ((repeat apply Exists.intro); exact ⟨⟨d1, k1, rfl, rfl, by have := HK1.out; omega, HK1.out.2.2.1, rfl⟩, rfl⟩)
                  case measure =>
                    simp only [intOf]
                    have := HK1.out
                    omega
    · have q5 : (0 : Int) < (k : Int) := by omega
      obtain ⟨h, hh⟩ : ∃ h, h = k / 2 := ⟨_, rfl⟩
      obtain ⟨d1, hd1⟩ : ∃ d1, d1 = d + 1 := ⟨_, rfl⟩
      obtain ⟨⟨t1, t2⟩, ⟨t3, t4⟩, t5, t6⟩ := dig_nums2 hh hd1 hdl hk
      have HD1 : Hid (d1 + Bt.digs h = Bt.digs n1 ∧ h < k) := ⟨by rw [hd1, hh, ← hdk, Bt.digs_pos hk0]; omega, by omega⟩
      clear hh hd1 hdk hdl hk0
      go_wp2
      clear t1 t2 t3 t4 t5 t6
      go_roundw
      case rel => first | exact ⟨d1, h, rfl, rfl, by have := HD1.out; omega, HD1.out.1, trivial⟩ | ((repeat apply Exists.intro); exact ⟨⟨d1, h, rfl, rfl, by have := HD1.out; omega, HD1.out.1, rfl⟩, rfl⟩) | exact ⟨d1, h, rfl, rfl, by have := HD1.out; omega, HD1.out.1, rfl⟩
      case measure =>
        simp only [intOf]
        have := HD1.out
        omega
end Go.Proofs.YtkigenldiinioaaGreatDoor
