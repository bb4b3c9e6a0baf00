/- Whether both roots come out of a shared part and those beside it. -/
import Derived.Test.YtoldfepeldbcpaaDoorMkH
namespace Go.Proofs.YtoldfepeldbcpaaDoor
open Go.RowKit
attribute [local go_sem ↓] Go.wp_at_zero Go.wp_at_succ
theorem Mk.was_length (bs : List Bool) : ∀ (ps : List Mk.Bs) (d : Mk.Bs), d.length = 32 → (Mk.was d bs ps).length = 32 := by
  induction bs with
  | nil => intro ps d h; exact h
  | cons b bs ih => intro ps d h; cases ps with
    | nil => exact h
    | cons p ps =>
      simp only [Mk.was]
      apply ih
      cases b
      · exact Mk.node_length _ _
      · exact h
theorem Mk.climb_length (bs : List Bool) : ∀ (ps : List Mk.Bs) (d : Mk.Bs), d.length = 32 → (Mk.climb d bs ps).length = 32 := by
  induction bs with
  | nil => intro ps d h; exact h
  | cons b bs ih => intro ps d h; cases ps with
    | nil => exact h
    | cons p ps => simp only [Mk.climb]; exact ih ps _ (Mk.sum_length _)
set_option maxHeartbeats 8000000 in
set_option maxRecDepth 10000 in
theorem together_c (old root sh : ByteArray) (hsh : sh.size = 32) (way : List Bool) (path : List (List UInt8)) (hw : way.length ≤ 1024) (hwp : way.length = path.length) (h32 : ∀ x ∈ path, x.length = 32) (wv : Value) (pa : Option Addr) (pn pc : Nat) (H : Nat) (w : World) (hK : HasK w) (hH : H ≤ w.heap.size) (hB : Bl w H wv way) (hS : Sl w H (.slice pa pn pc) path) :
    Calls Tryd.prog 24 #[.string old, .string root, .string sh, wv, .slice pa pn pc] w fun e w' => e = .returned (.bool ((Mk.was sh.data.toList way.reverse path == old.data.toList) && (Mk.climb sh.data.toList way.reverse path == root.data.toList))) ∧ Below w.heap.size w w' := by
  obtain ⟨d, hd⟩ : ∃ d, d = sh.data.toList := ⟨_, rfl⟩
  have hd32 : d.length = 32 := by rw [hd, size_bytes, hsh]
  have hsd : sh = bs d := by rw [hd, bs_data]
  rw [← hd]
  subst hsd
  have C2 : Hid (∀ W, Below w.heap.size w W → Calls Tryd.prog 46 #[wv] W fun e w' => ∃ v', e = .returned v' ∧ w'.ownsRow W.heap.size 4 1 v' way.length (bcs way.reverse) ∧ Below W.heap.size W w') := fun W hW => fromBelow_c wv H way W hw (hB.stays hW hH)
  have HK : Hid (HasK w) := hK
  have HS : Hid (Sl w H (.slice pa pn pc) path) := hS
  have H32 : Hid (∀ x ∈ path, x.length = 32) := h32
  have HWP : Hid (way.length = path.length) := hwp
  have HD : Hid (d.length = 32) := hd32
  obtain ⟨m, hm⟩ : ∃ m, m = way.length := ⟨_, rfl⟩
  rw [← hm] at hw C2 HWP
  have HM : Hid (m = way.length) := hm
  obtain ⟨db, hdb⟩ : ∃ db : ByteArray, db = bs d := ⟨_, rfl⟩
  rw [← hdb]
  have HDB : Hid (db = bs d) := hdb
  clear hK hB hS h32 hwp hm hd32 hd hdb hsh
  go_enter Tryd.func24, Tryd.ntmps24
  go_wp2_with fail
  refine (C2.out _ (Below.refl _ _)).mono ?_
  rintro e w2 ⟨v1, rfl, ho2, hb2⟩
  have HL : Hid ((way.reverse).length = m) := by show _ = _; rw [List.length_reverse]; exact HM.out.symm
  have hbl : Bl w2 w2.heap.size v1 way.reverse := own_bl (base := w.heap.size) (by rw [List.length_reverse, ← HM.out]; exact ho2)
  obtain ⟨a1, c1, hv1⟩ := hbl.form
  rw [HL.out] at hv1
  subst hv1
  have HBL : Hid (Bl w2 w2.heap.size (.slice a1 m c1) way.reverse) := hbl
  have HB2 : Hid (Below w.heap.size w w2) := hb2
  clear ho2 hb2 hbl C2
  go_wp2
  go_loopw [11, 12, 20] (fun u y i wr => ∃ (k : Nat) (ub yb : ByteArray), k ≤ m ∧ i = .int .i64 (k : Int) ∧ u = .string ub ∧ y = .string yb ∧ ub = bs (Mk.was d (way.reverse.take k) (path.take k)) ∧ yb = bs (Mk.climb d (way.reverse.take k) (path.take k)) ∧ Bl wr wr.heap.size (.slice a1 m c1) way.reverse ∧ Below w.heap.size w wr) (fun _ _ i _ => m - (intOf i).toNat)
  case atStart => exact ⟨0, db, db, Nat.zero_le _, rfl, rfl, rfl, HDB.out, HDB.out, HBL.out, HB2.out⟩
  case round =>
    obtain ⟨k, ub, yb, hk, rfl, rfl, rfl, hub, hyb, hbl, hnx⟩ := hrel
    clear HBL HB2
    by_cases hlt : k < m
    · obtain ⟨b1, o1, rfl, -, hb1, hbc⟩ := hbl.at (by rw [HL.out]; omega)
      obtain ⟨b, hb⟩ : ∃ b, way.reverse[k]? = some b := ⟨_, List.getElem?_eq_getElem (by rw [HL.out]; exact hlt)⟩
      obtain ⟨p, hp⟩ : ∃ p, path[k]? = some p := ⟨_, List.getElem?_eq_getElem (by rw [← HWP.out]; exact hlt)⟩
      obtain ⟨bp, op, rfl, hpn, hbp, hpc⟩ := HS.out.at (by rw [← HWP.out]; omega)
      have hpn' : pn = m := hpn.trans HWP.out.symm
      subst hpn'
      have hcb : wr.cell? ⟨b1, o1 + k, none⟩ = some (.bool b) := hbc k b hb
      obtain ⟨ps, hps⟩ : ∃ ps : ByteArray, ps = bs p := ⟨_, rfl⟩
      have CP : Hid (∀ W, Below w.heap.size w W → W.cell? ⟨bp, op + k, none⟩ = some (.string ps)) := fun W hW => by rw [hps, hW.cell (p := ⟨bp, op + k, none⟩) (by show bp < _; omega)]; exact hpc k p hp
      have hcp : wr.cell? ⟨bp, op + k, none⟩ = some (.string ps) := CP.out _ hnx
      have hkr : (way.reverse.take k).length = k := by rw [List.length_take, HL.out]; omega
      have hkp : (path.take k).length = k := by rw [List.length_take, ← HWP.out]; omega
      have hus : ub.size = 32 := by rw [hub, bs_size]; exact Mk.was_length _ _ _ HD.out
      have hys : yb.size = 32 := by rw [hyb, bs_size]; exact Mk.climb_length _ _ _ HD.out
      have hpsz : ps.size = 32 := by rw [hps, bs_size]; exact H32.out p (List.mem_of_getElem? hp)
      obtain ⟨ut, hut⟩ : ∃ x : ByteArray, x = bs (Mk.nodeT p (Mk.was d (way.reverse.take k) (path.take k))) := ⟨_, rfl⟩
      obtain ⟨u2, hu2⟩ : ∃ x : ByteArray, x = bs (Mk.node p (Mk.was d (way.reverse.take k) (path.take k))) := ⟨_, rfl⟩
      obtain ⟨yt, hyt⟩ : ∃ x : ByteArray, x = bs (Mk.jt (Mk.climb d (way.reverse.take k) (path.take k)) p b) := ⟨_, rfl⟩
      obtain ⟨y2, hy2⟩ : ∃ x : ByteArray, x = bs (Mk.joined (Mk.climb d (way.reverse.take k) (path.take k)) p b) := ⟨_, rfl⟩
      have CN : Hid (∀ W, Below w.heap.size w W → Calls Tryd.prog 32 #[.string ps, .string ub] W fun e w' => e = .returned (.agg #[.string ut, .string u2]) ∧ Below W.heap.size W w') := fun W hW => by
        have := node_c ps ub (by omega) (by omega) W (HK.out.below HK.out.1 hW)
        rw [hps, hub] at this ⊢
        rw [hut, hu2]
        exact this
      have CJ : Hid (∀ W, Below w.heap.size w W → Calls Tryd.prog 47 #[.string yb, .string ps, .bool b] W fun e w' => e = .returned (.agg #[.string yt, .string y2]) ∧ Below W.heap.size W w') := fun W hW => by
        have := joined_c yb ps b (by omega) (by omega) W (HK.out.below HK.out.1 hW)
        rw [hps, hyb] at this ⊢
        rw [hyt, hy2]
        exact this
      have HTW : Hid (way.reverse.take (k + 1) = way.reverse.take k ++ [b]) := by show _ = _; rw [List.take_add_one, hb]; rfl
      have HTP : Hid (path.take (k + 1) = path.take k ++ [p]) := by show _ = _; rw [List.take_add_one, hp]; rfl
      have HY : Hid (y2 = bs (Mk.climb d (way.reverse.take (k + 1)) (path.take (k + 1)))) := by
        show _ = _
        rw [HTW.out, HTP.out, Mk.climb_snoc _ _ _ _ _ (by omega), hy2]
      have HU : Hid ((if b then ub else u2) = bs (Mk.was d (way.reverse.take (k + 1)) (path.take (k + 1)))) := by
        show _ = _
        rw [HTW.out, HTP.out, Mk.was_snoc _ _ _ _ _ (by omega)]
        cases b
        · exact hu2
        · exact hub
      have HBL : Hid (Bl wr wr.heap.size (.slice (some ⟨b1, o1, none⟩) pn c1) way.reverse) := hbl
      have HNX : Hid (Below w.heap.size w wr) := hnx
      have hf := fun wx => field_made (.string ut) (.string u2) wx
      have hf2 := fun wx => field_made (.string yt) (.string y2) wx
      have k0 : (0 : Int) ≤ (k : Int) := by omega
      have k1 : (k : Int) < (pn : Int) := by omega
      clear hbl hnx hkr hkp hb hp hps hbc hpc hpn hb1 hbp hub hyb hut hu2 hyt hy2
      cases b
      · go_wp2_with fail
        refine (CN.out _ HNX.out).mono ?_
        rintro e w3 ⟨rfl, hb3⟩
        have B3 : Hid (Below w.heap.size w w3 ∧ Bl w3 w3.heap.size (.slice (some ⟨b1, o1, none⟩) pn c1) way.reverse) := ⟨HNX.out.trans (hb3.mono HNX.out.size), (HBL.out.stays hb3 (Nat.le_refl _)).mono hb3.size⟩
        have hcp3 : w3.cell? ⟨bp, op + k, none⟩ = some (.string ps) := CP.out _ B3.out.1
        clear hb3
        go_wp2_with fail
        refine (CJ.out _ B3.out.1).mono ?_
        rintro e w4 ⟨rfl, hb4⟩
        have B4 : Hid (Below w.heap.size w w4 ∧ Bl w4 w4.heap.size (.slice (some ⟨b1, o1, none⟩) pn c1) way.reverse) := ⟨B3.out.1.trans (hb4.mono B3.out.1.size), (B3.out.2.stays hb4 (Nat.le_refl _)).mono hb4.size⟩
        clear hb4
        go_wp2
        go_roundw
        case rel => exact ⟨k + 1, u2, y2, by omega, by go_num, rfl, rfl, HU.out, HY.out, B4.out.2, B4.out.1⟩
        case measure => simp [intOf]; omega
      · go_wp2_with fail
        refine (CJ.out _ HNX.out).mono ?_
        rintro e w4 ⟨rfl, hb4⟩
        have B4 : Hid (Below w.heap.size w w4 ∧ Bl w4 w4.heap.size (.slice (some ⟨b1, o1, none⟩) pn c1) way.reverse) := ⟨HNX.out.trans (hb4.mono HNX.out.size), (HBL.out.stays hb4 (Nat.le_refl _)).mono hb4.size⟩
        clear hb4
        go_wp2
        go_roundw
        case rel => exact ⟨k + 1, ub, y2, by omega, by go_num, rfl, rfl, HU.out, HY.out, B4.out.2, B4.out.1⟩
        case measure => simp [intOf]; omega
    · have hkm : k = m := by omega
      subst hkm
      have HW2 : Hid ((Mk.was d way.reverse path == old.data.toList) = (ub.toList == old.toList)) := by
        show _ = _
        rw [Lib.toList_data, Lib.toList_data, hub, data_bs, List.take_of_length_le (by rw [HL.out]; exact Nat.le_refl _), List.take_of_length_le (by rw [← HWP.out]; exact Nat.le_refl _)]
      have HY2 : Hid ((Mk.climb d way.reverse path == root.data.toList) = (yb.toList == root.toList)) := by
        show _ = _
        rw [Lib.toList_data, Lib.toList_data, hyb, data_bs, List.take_of_length_le (by rw [HL.out]; exact Nat.le_refl _), List.take_of_length_le (by rw [← HWP.out]; exact Nat.le_refl _)]
      clear hub hyb
      cases hc : (ub.toList == old.toList)
      all_goals
        have HC : Hid ((ub.toList == old.toList) = _) := hc
        go_wp2
        go_ret
        exact ⟨by rw [HW2.out, HY2.out, HC.out]; rfl, hnx⟩
end Go.Proofs.YtoldfepeldbcpaaDoor
