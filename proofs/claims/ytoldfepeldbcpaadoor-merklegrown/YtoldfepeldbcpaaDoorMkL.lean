/- The parts to which turns lead, and what they leave aside; a tree's root and paths. -/
import Derived.Test.YtoldfepeldbcpaaDoorMkK
namespace Go.Proofs.YtoldfepeldbcpaaDoor
open Go.RowKit
attribute [local go_sem ↓] Go.wp_at_zero Go.wp_at_succ
namespace Mk
theorem fits_take {n : Nat} {w : List Bool} (h : fits n (true :: w)) : 2 ≤ n ∧ fits (half n) w := h
theorem fits_drop {n : Nat} {w : List Bool} (h : fits n (false :: w)) : 2 ≤ n ∧ fits (n - half n) w := h
end Mk
/-- how far the way down is gone -/
def Down (w : World) (l : List (List UInt8)) (way : List Bool) (k pk : Nat) (don : List (List UInt8)) : Prop :=
  ∃ lk, Pt w pk lk ∧ Mk.sub l way = Mk.sub lk (way.drop k) ∧ Mk.fits lk.length (way.drop k) ∧ Mk.aside l way = don ++ Mk.aside lk (way.drop k)
theorem Down.step {w : World} {l : List (List UInt8)} {way : List Bool} {k pk : Nat} {don : List (List UInt8)} (h : Down w l way k pk don) {b : Bool} (hb : way[k]? = some b) :
    ∃ q r x, w.cell? ⟨pk, 1, none⟩ = some (.pointer (some ⟨q, 0, none⟩)) ∧ w.cell? ⟨pk, 2, none⟩ = some (.pointer (some ⟨r, 0, none⟩)) ∧ q < w.heap.size ∧ r < w.heap.size ∧ pk < w.heap.size ∧ w.cell? ⟨if b then r else q, 0, none⟩ = some (.string (bs x)) ∧ Down w l way (k + 1) (if b then q else r) (don ++ [x]) := by
  obtain ⟨lk, hP, h1, h2, h3⟩ := h
  have hd : way.drop k = b :: way.drop (k + 1) := by
    obtain ⟨hk, e⟩ := List.getElem?_eq_some_iff.1 hb
    rw [List.drop_eq_getElem_cons hk, e]
  rw [hd] at h1 h2 h3
  cases b with
  | true =>
    obtain ⟨g1, g2⟩ := Mk.fits_take h2
    obtain ⟨q, r, c1, c2, p1, p2⟩ := hP.two g1
    refine ⟨q, r, _, c1, c2, p1.lt, p2.lt, hP.lt, p2.root, ⟨_, p1, h1, ?_, ?_⟩⟩
    · rw [Mk.take_half g1]; exact g2
    · rw [h3]; simp [Mk.aside]
  | false =>
    obtain ⟨g1, g2⟩ := Mk.fits_drop h2
    obtain ⟨q, r, c1, c2, p1, p2⟩ := hP.two g1
    refine ⟨q, r, _, c1, c2, p1.lt, p2.lt, hP.lt, p1.root, ⟨_, p2, h1, ?_, ?_⟩⟩
    · rw [List.length_drop]; exact g2
    · rw [h3]; simp [Mk.aside]
set_option maxHeartbeats 4000000 in
set_option maxRecDepth 10000 in
theorem beside_c (p : Nat) (l : List (List UInt8)) (way : List Bool) (hw : way.length ≤ 1024) (hf : Mk.fits l.length way) (wa : Option Addr) (wn wc : Nat) (H : Nat) (w : World) (hH : H ≤ w.heap.size) (hP : Pt w p l) (hB : Bl w H (.slice wa wn wc) way) :
    Calls Tryd.prog 20 #[.pointer (some ⟨p, 0, none⟩), .slice wa wn wc] w fun e w' => ∃ q rv, e = .returned (.tuple #[.pointer (some ⟨q, 0, none⟩), rv]) ∧ Pt w' q (Mk.sub l way) ∧ w'.ownsRow w.heap.size 9 1 rv way.length (scs (Mk.aside l way).reverse) ∧ Below w.heap.size w w' := by
  obtain ⟨i0, hi, hz0, hz1, hz2⟩ := info_parts info9
  have HN : Hid (wn = way.length) := hB.len
  have hwn : wn ≤ 1024 := by have := HN.out; omega
  have HB : Hid (Bl w H (.slice wa wn wc) way) := hB
  have HD0 : Hid (Down w l way 0 p []) := ⟨l, hP, rfl, hf, rfl⟩
  have CR : Hid (∀ v W (z : List (List UInt8)), z.length ≤ 1024 → W.ownsRow w.heap.size 9 1 v z.length (scs z) → Calls Tryd.prog 40 #[v] W fun e w' => e = .returned (.tuple #[]) ∧ w'.ownsRow w.heap.size 9 1 v z.length (scs z.reverse) ∧ Below w.heap.size W w') := fun v W z hz hW => revs_c _ v z W (by omega) hW
  clear hB hP hf
  go_enter Tryd.func20, Tryd.ntmps20
  go_wp2
  go_loopw [0, 6, 11] (fun pv rv i wr => ∃ (k pk : Nat) (don : List (List UInt8)), k ≤ wn ∧ i = .int .i64 (k : Int) ∧ pv = .pointer (some ⟨pk, 0, none⟩) ∧ Hid (Down w l way k pk don) ∧ don.length = k ∧ wr.ownsRow w.heap.size 9 1 rv k (scs don) ∧ Below w.heap.size w wr) (fun _ _ i _ => wn - (intOf i).toNat)
  case atStart => exact ⟨0, p, [], Nat.zero_le _, rfl, rfl, HD0, rfl, ⟨rfl, .inl ⟨rfl, rfl⟩⟩, Below.refl _ _⟩
  case round =>
    obtain ⟨k, pk, don, hk, rfl, rfl, hD, hdl, hown, hnx⟩ := hrel
    clear HD0
    by_cases hlt : k < wn
    · obtain ⟨bb, bo, rfl, -, hbH, hbc⟩ := HB.out.at (by have := HN.out; omega)
      obtain ⟨b, hb⟩ : ∃ b, way[k]? = some b := ⟨_, List.getElem?_eq_getElem (by have := HN.out; omega)⟩
      obtain ⟨q, r, x, c1, c2, lq, lr, lp, cx, hD'⟩ := hD.out.step hb
      obtain ⟨s, hs⟩ : ∃ s : ByteArray, s = bs x := ⟨_, rfl⟩
      rw [← hs] at cx
      have hcb : wr.cell? ⟨bb, bo + k, none⟩ = some (.bool b) := (hnx.cell (p := ⟨bb, bo + k, none⟩) (by show bb < _; omega)).trans (hbc k b hb)
      have e1 : wr.cell? ⟨pk, 1, none⟩ = some (.pointer (some ⟨q, 0, none⟩)) := (hnx.cell (p := ⟨pk, 1, none⟩) lp).trans c1
      have e2 : wr.cell? ⟨pk, 2, none⟩ = some (.pointer (some ⟨r, 0, none⟩)) := (hnx.cell (p := ⟨pk, 2, none⟩) lp).trans c2
      have HBS : Hid (∀ k, u6.ownBlock = some k → w.heap.size ≤ k) := own_le hown
      have HO : Hid (wr.ownsRow w.heap.size 9 1 u6 k (scs don)) := hown
      have HDL : Hid (don.length = k) := hdl
      have hsz := hnx.size
      have HNS : Hid (scs (don ++ [x]) = scs don ++ [.string s]) := by show _ = _; rw [hs]; simp [scs, encS]
      have k0 : (0 : Int) ≤ (k : Int) := by omega
      have k1 : (k : Int) < (wn : Int) := by omega
      have p1 := lp
      cases b with
      | true =>
        have e3 : wr.cell? ⟨r, 0, none⟩ = some (.string s) := (hnx.cell (p := ⟨r, 0, none⟩) lr).trans cx
        have HDD : Hid (Down w l way (k + 1) q (don ++ [x])) := hD'
        have lpr : pk < wr.heap.size := Nat.lt_of_lt_of_le lp hsz
        clear hown hD hD' hbc hb c1 c2 cx hs hdl
        go_wp2_with (first | (at_builtin; refine wpList_append_own _ rfl _ _ 22 rfl w.heap.size 9 i0 (.string ⟨#[]⟩) 1 16 Tryd.underlying22 hi hz0 hz1 hz2 rfl (by decide) _ _ _ rfl (HO.out.alloc _) ⟨wr.heap.size, 0, none⟩ 1 1 [.string s] rfl rfl (cell_new _ _ _) ?c2 ?c3 ?c4 ?c5 ?_))
        case c2 => intro u hu; simp at hu; subst hu; rfl
        case c3 => unfold maxLen; omega
        case c4 => omega
        case c5 => simp; omega
        · intro v' w1 hown' hgrow _
          have R1 : Hid (w1.ownsRow w.heap.size 9 1 v' (k + 1) (scs (don ++ [x]))) := by
            show World.ownsRow _ _ _ _ _ _ _
            rw [HNS.out]; exact hown'
          have R2 : Hid (Below w.heap.size w w1) := (hnx.alloc (by omega) _).grown hgrow (by simp; omega) HBS.out
          have f1 : w1.cell? ⟨pk, 1, none⟩ = some (.pointer (some ⟨q, 0, none⟩)) := ((R2.out.cell (p := ⟨pk, 1, none⟩) lp).trans (hnx.cell (p := ⟨pk, 1, none⟩) lp).symm).trans e1
          clear hown' hgrow hnx e1 e2 e3
          go_wp2
          go_roundw
          case rel => exact ⟨k + 1, q, don ++ [x], by omega, by go_num, rfl, HDD, by rw [List.length_append, HDL.out]; rfl, R1.out, R2.out⟩
          case measure => simp [intOf]; omega
      | false =>
        have e3 : wr.cell? ⟨q, 0, none⟩ = some (.string s) := (hnx.cell (p := ⟨q, 0, none⟩) lq).trans cx
        have HDD : Hid (Down w l way (k + 1) r (don ++ [x])) := hD'
        have lpr : pk < wr.heap.size := Nat.lt_of_lt_of_le lp hsz
        clear hown hD hD' hbc hb c1 c2 cx hs hdl
        go_wp2_with (first | (at_builtin; refine wpList_append_own _ rfl _ _ 22 rfl w.heap.size 9 i0 (.string ⟨#[]⟩) 1 16 Tryd.underlying22 hi hz0 hz1 hz2 rfl (by decide) _ _ _ rfl (HO.out.alloc _) ⟨wr.heap.size, 0, none⟩ 1 1 [.string s] rfl rfl (cell_new _ _ _) ?c2 ?c3 ?c4 ?c5 ?_))
        case c2 => intro u hu; simp at hu; subst hu; rfl
        case c3 => unfold maxLen; omega
        case c4 => omega
        case c5 => simp; omega
        · intro v' w1 hown' hgrow _
          have R1 : Hid (w1.ownsRow w.heap.size 9 1 v' (k + 1) (scs (don ++ [x]))) := by
            show World.ownsRow _ _ _ _ _ _ _
            rw [HNS.out]; exact hown'
          have R2 : Hid (Below w.heap.size w w1) := (hnx.alloc (by omega) _).grown hgrow (by simp; omega) HBS.out
          have f2 : w1.cell? ⟨pk, 2, none⟩ = some (.pointer (some ⟨r, 0, none⟩)) := ((R2.out.cell (p := ⟨pk, 2, none⟩) lp).trans (hnx.cell (p := ⟨pk, 2, none⟩) lp).symm).trans e2
          clear hown' hgrow hnx e1 e2 e3
          go_wp2
          go_roundw
          case rel => exact ⟨k + 1, r, don ++ [x], by omega, by go_num, rfl, HDD, by rw [List.length_append, HDL.out]; rfl, R1.out, R2.out⟩
          case measure => simp [intOf]; omega
    · have hkn : k = wn := by omega
      subst hkn
      obtain ⟨lk, hP, h1, h2, h3⟩ := hD.out
      have hdr : way.drop k = [] := List.drop_eq_nil_of_le (by have := HN.out; omega)
      rw [hdr] at h1 h3
      have HP : Hid (Pt w pk (Mk.sub l way)) := by show Pt _ _ _; rw [h1]; exact hP
      have HA : Hid (Mk.aside l way = don) := by show _ = _; rw [h3]; simp [Mk.aside]
      have HO : Hid (wr.ownsRow w.heap.size 9 1 u6 don.length (scs don)) := by show World.ownsRow _ _ _ _ _ _ _; rw [hdl]; exact hown
      have HDL : Hid (don.length = k) := hdl
      have HNX : Hid (Below w.heap.size w wr) := hnx
      have hd24 : don.length ≤ 1024 := by omega
      clear hD hP h1 h2 h3 hdr hown hnx hdl
      go_wp2_with fail
      refine (CR.out u6 wr don hd24 HO.out).mono ?_
      rintro e w2 ⟨rfl, ho2, hb2⟩
      have HO2 : Hid (w2.ownsRow w.heap.size 9 1 u6 don.length (scs don.reverse)) := ho2
      have HB2 : Hid (Below w.heap.size w w2) := HNX.out.trans hb2
      clear ho2 hb2
      go_wp2
      go_ret2
      refine ⟨pk, u6, rfl, HP.out.call HB2.out, ?_, HB2.out⟩
      rw [HA.out, ← HN.out, ← HDL.out]
      exact HO2.out
end Go.Proofs.YtoldfepeldbcpaaDoor
