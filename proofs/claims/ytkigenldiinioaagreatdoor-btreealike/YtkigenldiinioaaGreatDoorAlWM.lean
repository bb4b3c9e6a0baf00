/- Trees with the same pairs answer alike, in whatever order these came: walked. -/
import Derived.Test.YtkigenldiinioaaGreatDoorRgEM
import Derived.Test.YtkigenldiinioaaGreatDoorShWM
import Derived.Test.YtkigenldiinioaaGreatDoorQ36M
namespace Go.Proofs.YtkigenldiinioaaGreatDoor
open Go.RowKit Go.Shelf
open Vl (V)
attribute [local go_sem ↓] Go.wp_at_zero Go.wp_at_succ
/-- all that a tree has, asked for -/
theorem range_all {w : World} {F O : Nat → Prop} {tb : Nat} {L : Bt.KL} (h : TSt w F O tb L) (hU : Bn.HasU w) : Calls Tryz.prog 11 #[.pointer (some ⟨tb, 0, none⟩), (.agg #[.bool false, .bool false, .int .u8 0, .bool false, .int .i64 0, .string ⟨#[]⟩, .slice none 0 0, .slice none 0 0]), (.agg #[.bool false, .bool false, .int .u8 0, .bool false, .int .i64 0, .string ⟨#[]⟩, .slice none 0 0, .slice none 0 0])] w fun ex w' => ∃ a c, ex = .returned (.tuple #[.slice a L.length c, .int .i64 0]) ∧ EntsAt w' a L ∧ Below w.heap.size w w' := by
  have hlw := h.lw
  refine (range_e h hU none none _ _ (bnd_none _ _) (bnd_none _ _)).mono ?_
  rintro ex w' ⟨a, n, c, rfl, q1, q2, q3, q4⟩
  have e0 : Bt.rerr none none = 0 := rfl
  rw [if_pos e0, Bt.filter_all] at q1 q3
  subst q1
  exact ⟨a, c, by rw [e0]; rfl, q3.at (fun g hg => hg.1) (fun p hp => by have := hlw.few hp; omega), q4⟩
theorem lessI {n : Nat} (h : n ≤ 1024) : IntKind.i64.wrap ((n : Int) - 1) = (n : Int) - 1 ∧ wrap64 ((n : Int) - 1) = (n : Int) - 1 := ⟨by rw [IntKind.wrap_i64]; omega, by unfold wrap64; omega⟩
set_option maxHeartbeats 16000000 in
set_option maxRecDepth 100000 in
theorem alike_w (w : World) (hU : Bn.HasU w) (l : List (V × List Nat)) (la : Option Addr) (lc : Nat) (hl : l.length ≤ maxLen) (hI : InEs w w.heap.size la l) (z : V) (kv : Value) (hk : Rep w w.heap.size z kv) (id : Nat) : Calls Tryz.prog 6 #[.slice la l.length lc, kv, .int .u64 (id : Int)] w fun e w' => e = .returned (.bool true) ∧ Below w.heap.size w w' := by
  obtain ⟨d0, d1, d2, d3, d4, d5, rfl⟩ := repV_box hk
  obtain ⟨zk, zb, zn, zs, za, zl, zc, zf, zm, zd, rfl, rfl, rfl, rfl, rfl, rfl⟩ := rep_form hk
  obtain ⟨w1, hw1⟩ : ∃ w1, w1 = w.alloc (.cells #[.int .u8 (zk : Int), .bool zb, .int .i64 zn, .string zs, .slice za zl zc, .slice zf zm zd] 27) := ⟨_, rfl⟩
  obtain ⟨Bk, hBk⟩ : ∃ Bk, Bk = w.heap.size := ⟨_, rfl⟩
  have b1 : Below w.heap.size w w1 := by rw [hw1]; exact below_new _ _
  have e3 : w1.heap[Bk]? = some (.cells #[.int .u8 (zk : Int), .bool zb, .int .i64 zn, .string zs, .slice za zl zc, .slice zf zm zd] 27 (0, 0)) := by rw [hw1, hBk]; exact heap_alloc_new w _
  have HD : Hid (∀ W, Below w1.heap.size w1 W → Below w.heap.size w W ∧ W.heap[Bk]? = some (.cells #[.int .u8 (zk : Int), .bool zb, .int .i64 zn, .string zs, .slice za zl zc, .slice zf zm zd] 27 (0, 0))) := fun W hW => ⟨b1.trans (hW.mono b1.size), (hW.block _ (lt_of_row e3)).trans e3⟩
  have CL : Hid (∀ W, Below w1.heap.size w1 W → Calls Tryz.prog 10 #[] W fun e w' => e = .returned (.bool true) ∧ Below w1.heap.size w1 w') := fun W hW => (livesB_c W (hU.stays (HD.out W hW).1)).mono (by
    rintro e w' ⟨rfl, hb⟩
    exact ⟨rfl, hW.trans (hb.mono hW.size)⟩)
  have CF : Hid (∀ W, Below w1.heap.size w1 W → Calls Tryz.prog 9 #[.slice la l.length lc] W fun e w' => ∃ tb L a c, e = .returned (.tuple #[.pointer (some ⟨tb, 0, none⟩), .slice a (List.length L) c, .bool true]) ∧ Hid (FS W tb L L a (fun _ _ => False) w' ∧ Below w1.heap.size w1 w')) := fun W hW => by
    have hWw := (HD.out W hW).1
    refine (filled_at W W (hU.stays hWw) (Below.refl _ _) l la lc hl ((hI.stays hWw).up hWw.size)).mono ?_
    rintro e w' ⟨tb, L, a, c, rfl, h1, h2⟩
    exact ⟨tb, L, a, c, rfl, h1, hW.trans (h2.mono hW.size)⟩
  have HU : Hid (∀ W, Below w1.heap.size w1 W → Bn.HasU W) := fun W hW => hU.stays (HD.out W hW).1
  have HB : Hid (∀ W, Below w1.heap.size w1 W → Rep W W.heap.size z (.agg #[.int .u8 (zk : Int), .bool zb, .int .i64 zn, .string zs, .slice za zl zc, .slice zf zm zd])) := fun W hW => rep_stays (HD.out W hW).1 (HD.out W hW).1.size _ _ hk
  clear hk b1 e3 hU hl hI
  go_enter Tryz.func6, Tryz.ntmps6
  go_upto_region 1 with fail
  rw [← hw1, ← hBk]
  clear hw1 hBk
  go_wp2_with fail
  refine (CL.out _ (Below.refl _ _)).mono ?_
  rintro e w2 ⟨rfl, hb2⟩
  have K2 : Hid (Below w1.heap.size w1 w2) := hb2
  clear hb2 CL
  go_wp2_with fail
  refine (CF.out _ K2.out).mono ?_
  rintro e w3 ⟨tb, L, wa, wc, rfl, HFS⟩
  have K3 : Hid (Below w1.heap.size w1 w3) := HFS.out.2
  have HLW : Hid (Bt.LW L) := HFS.out.1.lw
  have HOK : Hid (∀ p ∈ L, Bt.kerr p.1 = 0) := HFS.out.1.ok
  have HT : Hid (∃ F O, TSt w3 F O tb L) := by
    obtain ⟨F, O, hT, _⟩ := HFS.out.1.ex
    exact ⟨F, O, hT⟩
  obtain ⟨wn, hwn⟩ : ∃ wn, wn = L.length := ⟨_, rfl⟩
  rw [← hwn]
  have CRT : Hid (Calls Tryz.prog 11 #[.pointer (some ⟨tb, 0, none⟩), (.agg #[.bool false, .bool false, .int .u8 0, .bool false, .int .i64 0, .string ⟨#[]⟩, .slice none 0 0, .slice none 0 0]), (.agg #[.bool false, .bool false, .int .u8 0, .bool false, .int .i64 0, .string ⟨#[]⟩, .slice none 0 0, .slice none 0 0])] w3 fun ex w' => ∃ a c, ex = .returned (.tuple #[.slice a wn c, .int .i64 0]) ∧ EntsAt w' a L ∧ Below w3.heap.size w3 w') := by
    obtain ⟨F, O, hT⟩ := HT.out
    rw [hwn]
    exact range_all hT (HU.out _ K3.out)
  have HWN : Hid (wn = L.length ∧ wn ≤ 1024) := ⟨hwn, by rw [hwn]; exact HLW.out.len⟩
  clear HFS CF K2 hwn
  go_wp2_with fail
  refine (CRT.out).mono ?_
  rintro e w4 ⟨al, ac, rfl, hE4, hb4⟩
  have HE : Hid (EntsAt w4 al L) := hE4
  have K4 : Hid (Below w3.heap.size w3 w4) := hb4
  clear hE4 hb4 CRT
  go_wp2_with fail
  refine (new_c w4).mono ?_
  rintro e w5 ⟨rfl, hw5⟩
  obtain ⟨ub, hub⟩ : ∃ ub, ub = w4.heap.size := ⟨_, rfl⟩
  rw [← hub]
  have HST : Hid (FS w4 ub [] [] none (fun _ _ => False) w5) := by
    refine FS.start ?_ ?_ (by rw [hub]; exact Nat.le_refl _)
    · rw [hw5]; exact below_new _ _
    · rw [hw5, hub]; exact heap_alloc_new w4 _
  clear hw5 hub
  have KU : Hid (Bn.HasU w4) := HU.out _ (K3.out.trans (K4.out.mono K3.out.size))
  have CPU : Hid (∀ (x : V) (v : Value) (i : Nat) (M : Bt.KL) (W : World), Rep w4 w4.heap.size x v → FS w4 ub M [] none (fun _ _ => False) W → Calls Tryz.prog 24 #[.pointer (some ⟨ub, 0, none⟩), v, .int .u64 (i : Int)] W fun ex w' => ex = .returned (.int .i64 (Bt.perr x i M : Int)) ∧ FS w4 ub (if Bt.perr x i M = 0 then Bt.lput x i M else M) [] none (fun _ _ => False) w') := fun x v i M W hv h => fs_put h KU.out hv i
  have HV0 := lessI HWN.out.2
  go_wp2_with fail
  go_loopw [13] (fun i wr => ∃ (j : Nat), i = .int .i64 ((j : Int) - 1) ∧ j ≤ wn ∧ FS w4 ub (L.drop j) [] none (fun _ _ => False) wr) (fun i _ => (intOf i + 1).toNat)
  case atStart =>
    refine ⟨wn, by first | rfl | (rw [HV0.1]) | (rw [HV0.2]) | simp [HV0.1, HV0.2], Nat.le_refl _, ?_⟩
    rw [HWN.out.1, List.drop_length]
    exact HST.out
  case round =>
    clear HST HV0
    obtain ⟨j, rfl, hj, hfs⟩ := hrel
    have HF : Hid (FS w4 ub (L.drop j) [] none (fun _ _ => False) wr) := hfs
    clear hfs
    rcases Nat.eq_zero_or_pos j with hj0 | hj0
    · obtain ⟨zz, hzz⟩ : ∃ zz : Int, zz = (j : Int) - 1 := ⟨_, rfl⟩
      rw [← hzz]
      have q0 : ¬ (0 : Int) ≤ zz := by omega
      have q1 : decide ((0 : Int) ≤ zz) = false := decide_eq_false q0
      have HL : Hid (FS w4 ub L [] none (fun _ _ => False) wr) := by
        have := HF.out
        rw [hj0] at this
        exact this
      clear HF hzz hj hj0
      have KB : Hid (Below w3.heap.size w3 wr) := K4.out.trans (HL.out.below.mono K4.out.size)
      have KW : Hid (∀ W, Below w4.heap.size w4 W → Below w1.heap.size w1 W ∧ Below w3.heap.size w3 W) := fun W hW => ⟨K3.out.trans ((K4.out.trans (hW.mono K4.out.size)).mono K3.out.size), K4.out.trans (hW.mono K4.out.size)⟩
      have CRU : Hid (∀ M n W, n = M.length → FS w4 ub M [] none (fun _ _ => False) W → Calls Tryz.prog 11 #[.pointer (some ⟨ub, 0, none⟩), (.agg #[.bool false, .bool false, .int .u8 0, .bool false, .int .i64 0, .string ⟨#[]⟩, .slice none 0 0, .slice none 0 0]), (.agg #[.bool false, .bool false, .int .u8 0, .bool false, .int .i64 0, .string ⟨#[]⟩, .slice none 0 0, .slice none 0 0])] W fun ex w' => ∃ a c, ex = .returned (.tuple #[.slice a n c, .int .i64 0]) ∧ Hid (EntsAt w' a M ∧ FS w4 ub M [] none (fun _ _ => False) w')) := fun M n W hn h => by
        subst hn
        have h' := h
        obtain ⟨F, O, hT, _⟩ := h.ex
        refine (range_all hT (KU.out.stays h'.below)).mono ?_
        rintro ex w' ⟨a, c, rfl, h1, h2⟩
        exact ⟨a, c, rfl, h1, h'.call h2⟩
      have CSA : Hid (∀ W b cb, EntsAt W b L → FS w4 ub L [] none (fun _ _ => False) W → Calls Tryz.prog 15 #[.slice al wn ac, .slice b wn cb] W fun e w' => e = .returned (.bool true) ∧ FS w4 ub L [] none (fun _ _ => False) w') := fun W b cb hb h => by
        rw [HWN.out.1]
        refine (sameE_c L al b ac cb W (by have := HWN.out; omega) (HE.out.stays h.below) hb).mono ?_
        rintro e w' ⟨rfl, h2⟩
        exact ⟨rfl, h.call h2⟩
      obtain ⟨sm, hsm⟩ : ∃ sm, sm = Bt.lsum L := ⟨_, rfl⟩
      have CNT : Hid (∀ W, Below w3.heap.size w3 W → Calls Tryz.prog 18 #[.pointer (some ⟨tb, 0, none⟩)] W fun e w' => e = .returned (.int .i64 (sm : Int)) ∧ w' = W) := fun W hW => by
        obtain ⟨F, O, hT⟩ := HT.out
        rw [hsm]
        exact count_s (hT.stays hW)
      have CNU : Hid (∀ W, FS w4 ub L [] none (fun _ _ => False) W → Calls Tryz.prog 18 #[.pointer (some ⟨ub, 0, none⟩)] W fun e w' => e = .returned (.int .i64 (sm : Int)) ∧ w' = W) := fun W h => by
        obtain ⟨F, O, hT, _⟩ := h.ex
        rw [hsm]
        exact count_s hT
      have HZ4 : Hid (Rep w4 w4.heap.size z (.agg #[.int .u8 (zk : Int), .bool zb, .int .i64 zn, .string zs, .slice za zl zc, .slice zf zm zd])) := HB.out _ (KW.out _ (Below.refl _ _)).1
      obtain ⟨pe, hpe⟩ : ∃ pe, pe = Bt.perr z id L := ⟨_, rfl⟩
      obtain ⟨M, hM⟩ : ∃ M, M = Bt.lput z id L := ⟨_, rfl⟩
      have CPZ : Hid (∀ W, FS w4 ub L [] none (fun _ _ => False) W → Calls Tryz.prog 24 #[.pointer (some ⟨ub, 0, none⟩), .agg #[.int .u8 (zk : Int), .bool zb, .int .i64 zn, .string zs, .slice za zl zc, .slice zf zm zd], .int .u64 (id : Int)] W fun ex w' => ex = .returned (.int .i64 (pe : Int)) ∧ Hid ((pe ≠ 0 → FS w4 ub L [] none (fun _ _ => False) w') ∧ (pe = 0 → FS w4 ub M [] none (fun _ _ => False) w'))) := fun W h => by
        refine (CPU.out z (.agg #[.int .u8 (zk : Int), .bool zb, .int .i64 zn, .string zs, .slice za zl zc, .slice zf zm zd]) id L W HZ4.out h).mono ?_
        rintro ex w' ⟨rfl, h2⟩
        rw [← hpe, ← hM] at h2
        exact ⟨by rw [hpe], fun h0 => by rw [if_neg h0] at h2; exact h2, fun h0 => by rw [if_pos h0] at h2; exact h2⟩
      have HM : Hid (pe = 0 → Bt.kerr z = 0 ∧ Bt.lhas z id L = false ∧ M = Bt.lput z id L ∧ Bt.ldrop z id M = L) := fun h0 => by
        rw [hpe, Bt.perr] at h0
        split at h0
        · rename_i c
          exact absurd h0 c
        · rename_i c
          split at h0
          · cases h0
          · rename_i c2
            have c3 : Bt.lhas z id L = false := by simpa using c2
            exact ⟨Decidable.byContradiction c, c3, hM, by rw [hM]; exact Bt.ldrop_lput HLW.out c3⟩
      clear hsm hpe hM CPU
      go_wp2_with fail
      refine (CRU.out L wn _ HWN.out.1 HL.out).mono ?_
      rintro e w6 ⟨ua, uc, rfl, HV6⟩
      go_wp2_with fail
      refine (CSA.out _ _ _ HV6.out.1 HV6.out.2).mono ?_
      rintro e w7 ⟨rfl, hf7⟩
      have HF7 : Hid (FS w4 ub L [] none (fun _ _ => False) w7) := hf7
      clear hf7 HV6 HL
      go_wp2_with fail
      refine (CNT.out _ (KW.out _ HF7.out.below).2).mono ?_
      rintro e w8 ⟨rfl, rfl⟩
      go_wp2_with fail
      refine (CNU.out _ HF7.out).mono ?_
      rintro e w8 ⟨rfl, rfl⟩
      have tq := HD.out _ (KW.out _ HF7.out.below).1
      have a0 := cells_at tq.2 0 _ rfl
      have a1 := cells_at tq.2 1 _ rfl
      have a2 := cells_at tq.2 2 _ rfl
      have a3 := cells_at tq.2 3 _ rfl
      have a4 := cells_at tq.2 4 _ rfl
      have a5 := cells_at tq.2 5 _ rfl
      clear tq
      go_wp2_with fail
      refine (CPZ.out _ HF7.out).mono ?_
      rintro e w8 ⟨rfl, HV8⟩
      clear a0 a1 a2 a3 a4 a5
      clear CNT CNU CPZ
      by_cases hz : pe = 0
      · have HF8 : Hid (FS w4 ub M [] none (fun _ _ => False) w8) := HV8.out.2 hz
        have HMM := hidden (HM.out hz)
        subst hz
        clear HV8
        obtain ⟨ids, hids⟩ : ∃ ids, ids = Bt.lids z M := ⟨_, rfl⟩
        have HLM : Hid (Bt.LW M) := by
          obtain ⟨F, O, hT, _⟩ := HF8.out.ex
          exact hT.lw
        obtain ⟨m, hm⟩ : ∃ m, m = ids.length := ⟨_, rfl⟩
        have HIN : Hid (id ∈ ids ∧ m = ids.length ∧ m ≤ 1024) := by
          have hl := HLM.out
          have h1 : id ∈ ids := by
            rw [hids, HMM.out.2.2.1]
            rw [HMM.out.2.2.1] at hl
            exact Bt.lput_has hl
          refine ⟨h1, hm, ?_⟩
          rw [hm, hids, Bt.lids]
          cases h : Bt.lat z M with
          | none => exact Nat.zero_le _
          | some p => exact HLM.out.few (Bt.lat_mem h).1
        have HDE : Hid (Bt.derr z id M = 0) := by
          have h1 : Bt.lhas z id M = true := by
            rw [Bt.lhas, ← hids]
            cases h : Bt.lat z M with
            | none =>
              have := HIN.out.1
              rw [hids, Bt.lids_none h] at this
              cases this
            | some p =>
              have e : ids = p.2 := by rw [hids, Bt.lids_some h]
              rw [e]
              refine (Bt.nhas_mem (HLM.out.asc p (Bt.lat_mem h).1).1).2 ?_
              rw [← e]
              exact HIN.out.1
          show Bt.derr z id M = 0
          rw [Bt.derr, if_neg (by simpa using HMM.out.1), if_pos h1]
        have CFD : Hid (∀ W, FS w4 ub M [] none (fun _ _ => False) W → Calls Tryz.prog 13 #[.pointer (some ⟨ub, 0, none⟩), .agg #[.int .u8 (zk : Int), .bool zb, .int .i64 zn, .string zs, .slice za zl zc, .slice zf zm zd]] W fun ex w' => ∃ pi cap, ex = .returned (.tuple #[.slice pi m cap, .int .i64 0]) ∧ Hid (NumsAt w' pi ids ∧ FS w4 ub M [] none (fun _ _ => False) w')) := fun W h => by
          have h' := h
          obtain ⟨F, O, hT, _⟩ := h.ex
          refine (find_a hT (KU.out.stays h'.below) (HB.out W (KW.out _ h'.below).1)).mono ?_
          rintro ex w' ⟨pi, m', cap, rfl, r1, r2, r3⟩
          rw [if_pos HMM.out.1, ← hids] at r1 r2
          rw [HMM.out.1]
          exact ⟨pi, cap, by rw [hm, ← r1]; rfl, r2, h'.call r3⟩
        have CDD : Hid (∀ W, FS w4 ub M [] none (fun _ _ => False) W → Calls Tryz.prog 25 #[.pointer (some ⟨ub, 0, none⟩), .agg #[.int .u8 (zk : Int), .bool zb, .int .i64 zn, .string zs, .slice za zl zc, .slice zf zm zd], .int .u64 (id : Int)] W fun ex w' => ex = .returned (.int .i64 0) ∧ FS w4 ub L [] none (fun _ _ => False) w') := fun W h => by
          have := fs_drop h KU.out HZ4.out id
          rw [HDE.out, if_pos rfl, HMM.out.2.2.2] at this
          exact this
        clear hids hm
        have tq := HD.out _ (KW.out _ HF8.out.below).1
        have a0 := cells_at tq.2 0 _ rfl
        have a1 := cells_at tq.2 1 _ rfl
        have a2 := cells_at tq.2 2 _ rfl
        have a3 := cells_at tq.2 3 _ rfl
        have a4 := cells_at tq.2 4 _ rfl
        have a5 := cells_at tq.2 5 _ rfl
        clear tq
        go_wp2_with fail
        refine (CFD.out _ HF8.out).mono ?_
        rintro e w9 ⟨fi, fc, rfl, HV9⟩
        clear a0 a1 a2 a3 a4 a5
        clear CFD HF8
        go_wp2
        go_loopw [21, 125] (fun v u wr => ∃ (b : Bool) (k : Nat), v = .bool b ∧ u = .int .i64 (k : Int) ∧ k ≤ m ∧ (b = true ↔ id ∈ ids.take k) ∧ wr = w9) (fun _ u _ => m - (intOf u).toNat)
        case atStart => exact ⟨false, 0, rfl, rfl, by omega, by simp, rfl⟩
        case round =>
          obtain ⟨b, k, rfl, rfl, hk, hbk, hwr⟩ := hrel
          subst hwr
          by_cases hkm : k = m
          · subst hkm
            have q0 : ¬ (k : Int) < (k : Int) := by omega
            obtain rfl : b = true := hbk.2 (by rw [HIN.out.2.1, List.take_length]; exact HIN.out.1)
            clear hbk
            have tq := HD.out _ (KW.out _ HV9.out.2.below).1
            have a0 := cells_at tq.2 0 _ rfl
            have a1 := cells_at tq.2 1 _ rfl
            have a2 := cells_at tq.2 2 _ rfl
            have a3 := cells_at tq.2 3 _ rfl
            have a4 := cells_at tq.2 4 _ rfl
            have a5 := cells_at tq.2 5 _ rfl
            clear tq
            go_wp2_with fail
            refine (CDD.out _ HV9.out.2).mono ?_
            rintro e w10 ⟨rfl, hf10⟩
            have HF10 : Hid (FS w4 ub L [] none (fun _ _ => False) w10) := hf10
            clear hf10
            clear a0 a1 a2 a3 a4 a5
            go_wp2_with fail
            refine (CRU.out L wn _ HWN.out.1 HF10.out).mono ?_
            rintro e w11 ⟨va, vc, rfl, HV11⟩
            go_wp2_with fail
            refine (CSA.out _ _ _ HV11.out.1 HV11.out.2).mono ?_
            rintro e w12 ⟨rfl, hf12⟩
            have HF12 : Hid (FS w4 ub L [] none (fun _ _ => False) w12) := hf12
            clear hf12
            go_wp2
            go_ret
            exact ⟨by first | rfl | simp, (HD.out _ (KW.out _ HF12.out.below).1).1⟩
          · have q0 : (k : Int) < (m : Int) := by omega
            have q1 : (0 : Int) ≤ (k : Int) := by omega
            obtain ⟨nn, hnn⟩ : ∃ nn, ids[k]? = some nn := ⟨_, List.getElem?_eq_getElem (by have := HIN.out; omega)⟩
            obtain ⟨g2, rfl, hg2, hc2⟩ := HV9.out.1 k nn hnn
            obtain ⟨k1, hk1⟩ : ∃ k1, k1 = k + 1 := ⟨_, rfl⟩
            have HVV : Hid (IntKind.i64.wrap ((k : Int) + 1) = (k1 : Int) ∧ wrap64 ((k : Int) + 1) = (k1 : Int)) := wr63 (by omega) (by have := HIN.out; omega)
            have HTK : Hid (ids.take k1 = ids.take k ++ [nn]) := by rw [hk1, List.take_add_one, hnn]; rfl
            have HJ : Hid (k1 = k + 1 ∧ k < m) := ⟨hk1, by omega⟩
            have HBK : Hid (b = true ↔ id ∈ ids.take k) := hbk
            have y0 := hc2
            clear hc2 hbk hk hkm hk1 hnn hg2
            cases b with
            | true =>
              have HRL : Hid (true = true ↔ id ∈ ids.take k1) := by
                have := HBK.out.1 rfl
                refine ⟨fun _ => ?_, fun _ => rfl⟩
                rw [HTK.out, List.mem_append]
                exact .inl this
              obtain ⟨u1, u2⟩ := HVV.out
              go_wp2
              clear u1 u2
              go_roundw
              case rel => first | exact ⟨true, k1, rfl, rfl, by have := HJ.out; omega, HRL.out, by first | rfl | trivial⟩ | ((repeat apply Exists.intro); exact ⟨⟨true, k1, rfl, rfl, by have := HJ.out; omega, HRL.out, by first | rfl | trivial⟩, rfl⟩)
              case measure =>
                simp only [intOf]
                have := HJ.out
                omega
            | false =>
              by_cases hq : nn = id
              · have q : ((nn : Int) == (id : Int)) = true := by rw [hq]; simp
                have HRL : Hid (true = true ↔ id ∈ ids.take k1) := by
                  have h0 : id ∉ ids.take k := fun q => by have := HBK.out.2 q; cases this
                  show _ ↔ _
                  rw [HTK.out, List.mem_append, List.mem_singleton]
                  exact ⟨fun _ => .inr hq.symm, fun _ => rfl⟩
                clear hq
                obtain ⟨u1, u2⟩ := HVV.out
                go_wp2
                clear u1 u2
                go_roundw
                case rel => first | exact ⟨true, k1, rfl, rfl, by have := HJ.out; omega, HRL.out, by first | rfl | trivial⟩ | ((repeat apply Exists.intro); exact ⟨⟨true, k1, rfl, rfl, by have := HJ.out; omega, HRL.out, by first | rfl | trivial⟩, rfl⟩)
                case measure =>
                  simp only [intOf]
                  have := HJ.out
                  omega
              · have q : ((nn : Int) == (id : Int)) = false := by simp; omega
                have HRL : Hid (false = true ↔ id ∈ ids.take k1) := by
                  have h0 : id ∉ ids.take k := fun q => by have := HBK.out.2 q; cases this
                  show _ ↔ _
                  rw [HTK.out, List.mem_append, List.mem_singleton]
                  exact ⟨fun h => (by cases h), fun h => h.elim (fun h => absurd h h0) (fun h => absurd h.symm hq)⟩
                clear hq
                obtain ⟨u1, u2⟩ := HVV.out
                go_wp2
                clear u1 u2
                go_roundw
                case rel => first | exact ⟨false, k1, rfl, rfl, by have := HJ.out; omega, HRL.out, by first | rfl | trivial⟩ | ((repeat apply Exists.intro); exact ⟨⟨false, k1, rfl, rfl, by have := HJ.out; omega, HRL.out, by first | rfl | trivial⟩, rfl⟩)
                case measure =>
                  simp only [intOf]
                  have := HJ.out
                  omega
      · have HF8 : Hid (FS w4 ub L [] none (fun _ _ => False) w8) := HV8.out.1 hz
        have q2 : ((pe : Int) != 0) = true := by simp; omega
        have q3 : ¬ ((pe : Int) = 0) := by omega
        clear HV8 hz
        go_wp2_with fail
        refine (CRU.out L wn _ HWN.out.1 HF8.out).mono ?_
        rintro e w9 ⟨va, vc, rfl, HV9⟩
        go_wp2_with fail
        refine (CSA.out _ _ _ HV9.out.1 HV9.out.2).mono ?_
        rintro e w10 ⟨rfl, hf10⟩
        have HF10 : Hid (FS w4 ub L [] none (fun _ _ => False) w10) := hf10
        clear hf10
        go_wp2
        go_ret
        exact ⟨by first | rfl | simp, (HD.out _ (KW.out _ HF10.out.below).1).1⟩
    · obtain ⟨j0, hjj⟩ : ∃ j0, j = j0 + 1 := ⟨j - 1, by omega⟩
      obtain ⟨zz, hzz⟩ : ∃ zz : Int, zz = (j : Int) - 1 := ⟨_, rfl⟩
      rw [← hzz]
      obtain rfl : zz = (j0 : Int) := by omega
      have q0 : (j0 : Int) < (wn : Int) := by omega
      have q1 : (0 : Int) ≤ (j0 : Int) := by omega
      obtain ⟨p, hp⟩ : ∃ p, L[j0]? = some p := ⟨_, List.getElem?_eq_getElem (by have := HWN.out; omega)⟩
      obtain ⟨g, k0, k1, k2, k3, k4, k5, pi, cap, rfl, h2, ⟨c0, c1, c2, c3, c4, c5, c6⟩, h4, h5, h6⟩ := HE.out j0 p hp
      obtain ⟨ln, hln⟩ : ∃ ln, ln = p.2.length := ⟨_, rfl⟩
      obtain ⟨o, ho⟩ : ∃ o, o = j0 * 7 := ⟨_, rfl⟩
      rw [← ho] at c0 c1 c2 c3 c4 c5 c6
      rw [← hln] at c6
      obtain ⟨kk0, kk1, kk2, kk3, kk4, kk5, ky0, ky1, kz0, kz1, f0, f1, f2, f3, f4, f5⟩ := rep_form h4
      subst f0 f1 f2 f3 f4 f5
      have HC : Hid (∀ W, Below w4.heap.size w4 W → W.cell? ⟨g, o, none⟩ = some (.int .u8 (kk0 : Int)) ∧ W.cell? ⟨g, o + 1, none⟩ = some (.bool kk1) ∧ W.cell? ⟨g, o + 2, none⟩ = some (.int .i64 kk2) ∧ W.cell? ⟨g, o + 3, none⟩ = some (.string kk3) ∧ W.cell? ⟨g, o + 4, none⟩ = some (.slice kk4 kk5 ky0) ∧ W.cell? ⟨g, o + 5, none⟩ = some (.slice ky1 kz0 kz1) ∧ W.cell? ⟨g, o + 6, none⟩ = some (.slice pi ln cap)) := fun W hW => by
        have cl := fun o => hW.cell (p := ⟨g, o, none⟩) h2
        exact ⟨(cl _).trans c0, (cl _).trans c1, (cl _).trans c2, (cl _).trans c3, (cl _).trans c4, (cl _).trans c5, (cl _).trans c6⟩
      have a6 := (HC.out _ HF.out.below).2.2.2.2.2.2
      have ho' := ho.symm
      have HP : Hid (p ∈ L ∧ L[j0]? = some p ∧ ln = p.2.length ∧ 1 ≤ ln ∧ ln ≤ 1024 ∧ j0 < wn) := ⟨List.mem_of_getElem? hp, hp, hln, by rw [hln]; exact (HLW.out.asc p (List.mem_of_getElem? hp)).2, by rw [hln]; exact HLW.out.few (List.mem_of_getElem? hp), by omega⟩
      have HR : Hid (Rep w4 w4.heap.size p.1 (.agg #[.int .u8 (kk0 : Int), .bool kk1, .int .i64 kk2, .string kk3, .slice kk4 kk5 ky0, .slice ky1 kz0 kz1]) ∧ NumsAt w4 pi p.2) := ⟨h4, h5⟩
      have HF1 : Hid (FS w4 ub (L.drop (j0 + 1)) [] none (fun _ _ => False) wr) := by
        have := HF.out
        rw [hjj] at this
        exact this
      clear c0 c1 c2 c3 c4 c5 c6 h2 h4 h5 h6 hp hln ho hj hzz hj0 hjj HF
      have HV1 := lessI HP.out.2.2.2.2.1
      go_wp2_with fail
      go_loopw [14] (fun i wr => ∃ (k : Nat), i = .int .i64 ((k : Int) - 1) ∧ k ≤ ln ∧ FS w4 ub (Bt.UP p.1 p.2 k (L.drop (j0 + 1))) [] none (fun _ _ => False) wr) (fun i _ => (intOf i + 1).toNat)
      case atStart =>
        refine ⟨ln, by first | rfl | (rw [HV1.1]) | (rw [HV1.2]) | simp [HV1.1, HV1.2], Nat.le_refl _, ?_⟩
        rw [HP.out.2.2.1, Bt.up_start]
        exact HF1.out
      case round =>
        clear HF1 HV1 a6
        obtain ⟨k, rfl, hk, hfs⟩ := hrel
        have HF : Hid (FS w4 ub (Bt.UP p.1 p.2 k (L.drop (j0 + 1))) [] none (fun _ _ => False) wr) := hfs
        clear hfs
        rcases Nat.eq_zero_or_pos k with hk0 | hk0
        · obtain ⟨zz, hzz⟩ : ∃ zz : Int, zz = (k : Int) - 1 := ⟨_, rfl⟩
          rw [← hzz]
          have q2 : ¬ (0 : Int) ≤ zz := by omega
          have q3 : decide ((0 : Int) ≤ zz) = false := decide_eq_false q2
          have HD1 : Hid (FS w4 ub (L.drop j0) [] none (fun _ _ => False) wr) := by
            have := HF.out
            rw [hk0, Bt.up_end (by have := HP.out; omega), (Bt.lw_drop HLW.out HP.out.2.1).2.2] at this
            exact this
          clear HF hzz hk0 hk
          have HV2 := lessI (n := j0) (by have := HP.out; have := HWN.out; omega)
          go_wp2
          go_roundw
          case rel => first | exact ⟨j0, by first | rfl | (rw [HV2.1]) | (rw [HV2.2]) | simp [HV2.1, HV2.2], by have := HP.out; omega, HD1.out⟩ | ((repeat apply Exists.intro); exact ⟨⟨j0, by first | rfl | (rw [HV2.1]) | (rw [HV2.2]) | simp [HV2.1, HV2.2], by have := HP.out; omega, HD1.out⟩, rfl⟩)
          case measure =>
            simp only [intOf]
            first | (rw [HV2.2]; omega) | omega
        · obtain ⟨k0, hkk⟩ : ∃ k0, k = k0 + 1 := ⟨k - 1, by omega⟩
          obtain ⟨zz, hzz⟩ : ∃ zz : Int, zz = (k : Int) - 1 := ⟨_, rfl⟩
          rw [← hzz]
          obtain rfl : zz = (k0 : Int) := by omega
          have q2 : (k0 : Int) < (ln : Int) := by omega
          have q3 : (0 : Int) ≤ (k0 : Int) := by omega
          obtain ⟨nn, hnn⟩ : ∃ nn, p.2[k0]? = some nn := ⟨_, List.getElem?_eq_getElem (by have := HP.out; omega)⟩
          obtain ⟨g2, rfl, hg2, hc2⟩ := HR.out.2 k0 nn hnn
          have HX : Hid (∀ W, Below w4.heap.size w4 W → W.cell? ⟨g2, k0, none⟩ = some (.int .u64 (nn : Int))) := fun W hW => (hW.cell (p := ⟨g2, k0, none⟩) hg2).trans hc2
          have HE0 : Hid (Bt.perr p.1 nn (Bt.UP p.1 p.2 (k0 + 1) (L.drop (j0 + 1))) = 0 ∧ Bt.lput p.1 nn (Bt.UP p.1 p.2 (k0 + 1) (L.drop (j0 + 1))) = Bt.UP p.1 p.2 k0 (L.drop (j0 + 1))) := by
            obtain ⟨r1, r2, _⟩ := Bt.lw_drop HLW.out HP.out.2.1
            exact ⟨Bt.up_err r1 (HLW.out.asc p HP.out.1).1 hnn (HOK.out p HP.out.1) r2, Bt.up_put r1 (HLW.out.asc p HP.out.1).1 hnn⟩
          have HFK : Hid (FS w4 ub (Bt.UP p.1 p.2 (k0 + 1) (L.drop (j0 + 1))) [] none (fun _ _ => False) wr) := by
            have := HF.out
            rw [hkk] at this
            exact this
          have CP1 : Hid (∀ W, FS w4 ub (Bt.UP p.1 p.2 (k0 + 1) (L.drop (j0 + 1))) [] none (fun _ _ => False) W → Calls Tryz.prog 24 #[.pointer (some ⟨ub, 0, none⟩), .agg #[.int .u8 (kk0 : Int), .bool kk1, .int .i64 kk2, .string kk3, .slice kk4 kk5 ky0, .slice ky1 kz0 kz1], .int .u64 (nn : Int)] W fun ex w' => ex = .returned (.int .i64 0) ∧ FS w4 ub (Bt.UP p.1 p.2 k0 (L.drop (j0 + 1))) [] none (fun _ _ => False) w') := fun W hF => by
            have := CPU.out p.1 (.agg #[.int .u8 (kk0 : Int), .bool kk1, .int .i64 kk2, .string kk3, .slice kk4 kk5 ky0, .slice ky1 kz0 kz1]) nn _ W HR.out.1 hF
            rw [HE0.out.1, if_pos rfl, HE0.out.2] at this
            exact this
          obtain ⟨a0, a1, a2, a3, a4, a5, a6⟩ := HC.out _ HF.out.below
          have y0 := HX.out _ HF.out.below
          have HK : Hid (k0 + 1 ≤ ln) := by show _ ≤ _; omega
          clear hzz hk0 hk hkk hg2 hc2 hnn HF
          go_upto_region 12 with fail
          go_region_held3 (fun W' => W'.cell? ⟨g, o, none⟩ = some (.int .u8 (kk0 : Int)) ∧ W'.cell? ⟨g, o + 1, none⟩ = some (.bool kk1) ∧ W'.cell? ⟨g, o + 2, none⟩ = some (.int .i64 kk2) ∧ W'.cell? ⟨g, o + 3, none⟩ = some (.string kk3) ∧ W'.cell? ⟨g, o + 4, none⟩ = some (.slice kk4 kk5 ky0) ∧ W'.cell? ⟨g, o + 5, none⟩ = some (.slice ky1 kz0 kz1) ∧ W'.cell? ⟨g, o + 6, none⟩ = some (.slice (some ⟨g2, 0, none⟩) ln cap) ∧ W'.cell? ⟨g2, k0, none⟩ = some (.int .u64 (nn : Int))) (go_keep) (first
            | (go_at_call 24; refine (CP1.out _ (by first | exact HFK.out | exact HFK.out.call (Below.refl _ _).drew)).mono ?_; rintro en w7 ⟨rfl, hf7⟩; have HF7 : Hid (FS w4 ub (Bt.UP p.1 p.2 k0 (L.drop (j0 + 1))) [] none (fun _ _ => False) w7) := hf7; (obtain ⟨a0, a1, a2, a3, a4, a5, a6⟩ := HC.out _ HF7.out.below); have y0 := HX.out _ HF7.out.below; clear hf7))
          have HV2 := lessI (n := k0) (by have := HP.out; have := HK.out; omega)
          go_wp2
          go_roundw
          case rel => first | exact ⟨k0, by first | rfl | (rw [HV2.1]) | (rw [HV2.2]) | simp [HV2.1, HV2.2], by have := HK.out; omega, HF7.out⟩ | ((repeat apply Exists.intro); exact ⟨⟨k0, by first | rfl | (rw [HV2.1]) | (rw [HV2.2]) | simp [HV2.1, HV2.2], by have := HK.out; omega, HF7.out⟩, rfl⟩)
          case measure =>
            simp only [intOf]
            first | (rw [HV2.2]; omega) | omega
end Go.Proofs.YtkigenldiinioaaGreatDoor
