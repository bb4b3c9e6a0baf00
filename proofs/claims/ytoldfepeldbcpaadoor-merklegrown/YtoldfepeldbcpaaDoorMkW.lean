/- What a tree's growth is. -/
import Derived.Test.YtoldfepeldbcpaaDoorMkV
namespace Go.Proofs.YtoldfepeldbcpaaDoor
open Go.RowKit
attribute [local go_sem ↓] Go.wp_at_zero Go.wp_at_succ
namespace Mk
/-- the growth from the first m texts, m from 1 on -/
def growth (l : List Bs) (m : Nat) : List Bs :=
  if hasNo (tw e2 m l.length) then root (sub l (tw e2 m l.length)) :: (aside l (tw e2 m l.length)).reverse else (aside l (tw e2 m l.length)).reverse
theorem growth_32 (l : List Bs) (m : Nat) : ∀ x ∈ growth l m, x.length = 32 := by
  intro x hx
  unfold growth at hx
  split at hx
  · rcases List.mem_cons.1 hx with rfl | hx
    · exact root_length _
    · exact aside_32 _ _ x (by simpa using hx)
  · exact aside_32 _ _ x (by simpa using hx)
end Mk
/-- a row stays where a tree's block turns -/
theorem own_grt {W W' : World} {b base n t : Nat} {l : List (List UInt8)} {v : Value} {xs : List Value} (hT : Tr W b l) (hg : Gr b W W') (ht : t ≠ 57) (h : W.ownsRow base t 1 v n xs) : W'.ownsRow base t 1 v n xs := by
  refine ⟨h.1, ?_⟩
  rcases h.2 with h2 | ⟨g, cap, cur, h1, h3, h4, h5⟩
  · exact .inl h2
  · refine .inr ⟨g, cap, cur, h1, h3, (hg.block g (Array.getElem?_eq_some_iff.1 h4).1 (fun q => ?_)).trans h4, h5⟩
    injection q with q
    subst q
    rcases hT with ⟨_, ⟨g', _, h2, _⟩ | ⟨p, h2, _⟩⟩
    · rw [h2] at h4; simp at h4; exact ht h4.2.symm
    · rw [h2] at h4; simp at h4; exact ht h4.2.symm
theorem growth_nil (i : Int) (w : World) : Calls Tryd.prog 6 #[.pointer none, .int .i64 i] w fun e w' => e = .returned (.tuple #[.slice none 0 0, .int .i64 1]) ∧ w = w' := by
  go_enter Tryd.func6, Tryd.ntmps6
  go_wp2
  go_ret2
  exact ⟨rfl, rfl⟩
set_option maxHeartbeats 2000000 in
theorem growth_out (b n : Nat) (i : Int) (w : World) (h : w.cell? ⟨b, 0, none⟩ = some (.int .i64 (n : Int))) (hi : i < 0 ∨ (n : Int) < i) :
    Calls Tryd.prog 6 #[.pointer (some ⟨b, 0, none⟩), .int .i64 i] w fun e w' => e = .returned (.tuple #[.slice none 0 0, .int .i64 2]) ∧ w = w' := by
  by_cases h0 : i < 0
  · clear hi
    go_enter Tryd.func6, Tryd.ntmps6
    go_wp2
    go_ret2
    exact ⟨rfl, rfl⟩
  · have h1 : (n : Int) < i := hi.resolve_left h0
    clear hi
    go_enter Tryd.func6, Tryd.ntmps6
    go_wp2
    go_ret2
    exact ⟨rfl, rfl⟩
set_option maxHeartbeats 2000000 in
theorem growth_zero (b n : Nat) (w : World) (h : w.cell? ⟨b, 0, none⟩ = some (.int .i64 (n : Int))) :
    Calls Tryd.prog 6 #[.pointer (some ⟨b, 0, none⟩), .int .i64 0] w fun e w' => e = .returned (.tuple #[.slice none 0 0, .int .i64 0]) ∧ w = w' := by
  have h1 : ¬ (n : Int) < 0 := by omega
  go_enter Tryd.func6, Tryd.ntmps6
  go_wp2
  go_ret2
  exact ⟨rfl, rfl⟩
set_option maxHeartbeats 8000000 in
set_option maxRecDepth 10000 in
theorem growth_in (b : Nat) (l : List (List UInt8)) (hn : l.length ≤ 1024) (hx : ∀ x ∈ l, x.length ≤ 140737488355328) (m : Nat) (hm1 : 1 ≤ m) (hm2 : m ≤ l.length) (w : World) (hK : HasK w) (hT : Tr w b l) :
    Calls Tryd.prog 6 #[.pointer (some ⟨b, 0, none⟩), .int .i64 (m : Int)] w fun e w' => ∃ g k, e = .returned (.tuple #[.slice (some ⟨g, 0, none⟩) k k, .int .i64 0]) ∧ w'.ownsRow w.heap.size 9 1 (.slice (some ⟨g, 0, none⟩) k k) k (scs (Mk.growth l m)) ∧ Tr w' b l ∧ Gr b w w' := by
  obtain ⟨c0, lb, b0⟩ := hT.cells
  obtain ⟨n, hnl⟩ : ∃ n, n = l.length := ⟨_, rfl⟩
  rw [← hnl] at c0 hn hm2
  have HN : Hid (n = l.length) := hnl
  obtain ⟨way, hway⟩ : ∃ way, way = Mk.tw Mk.e2 m n := ⟨_, rfl⟩
  have hlen : way.length ≤ 10 := by rw [hway]; exact Mk.tw_len _ 10 _ _ (by omega)
  have HF : Hid (Mk.fits l.length way) := by show Mk.fits _ _; rw [hway, ← HN.out]; exact Mk.fits_tw _ _ _
  have HG : Hid (Mk.growth l m = if hasNo way then Mk.root (Mk.sub l way) :: (Mk.aside l way).reverse else (Mk.aside l way).reverse) := by show _ = _; rw [Mk.growth, hway, ← HN.out]
  have CD : Hid (∀ W, Below w.heap.size w W → Calls Tryd.prog 19 #[.pointer (some ⟨b, 0, none⟩)] W fun e w' => ∃ p, e = .returned (.pointer (some ⟨p, 0, none⟩)) ∧ Pt w' p l ∧ Tr w' b l ∧ Gr b W w') := fun W hW => digests_c b l (by rw [← hnl]; exact hn) hx W (hK.below hK.1 hW) (hT.call hW)
  have CT : Hid (∀ W, Calls Tryd.prog 18 #[.int .i64 (m : Int), .int .i64 (n : Int)] W fun e w' => ∃ v, e = .returned v ∧ w'.ownsRow W.heap.size 4 1 v way.length (bcs way) ∧ Below W.heap.size W w') := fun W => by
    rw [hway]; exact toElder_c m n hm1 hm2 hn W
  have HT : Hid (Tr w b l) := hT
  have q1 : ¬ (m : Int) < 0 := by omega
  have q2 : ¬ (n : Int) < (m : Int) := by omega
  have q3 : ((m : Int) == 0) = false := by rw [beq_eq_false_iff_ne]; omega
  have CC : Hid (∀ W ra k rc, k ≤ 1024 → Sl W W.heap.size (.slice ra k rc) (Mk.growth l m) → Calls Tryd.prog 17 #[.slice ra k rc] W fun e w' => ∃ g, e = .returned (.slice (some ⟨g, 0, none⟩) k k) ∧ w'.ownsRow W.heap.size 9 1 (.slice (some ⟨g, 0, none⟩) k k) k (scs (Mk.growth l m)) ∧ Below W.heap.size W w') := fun W ra k rc hk hS =>
    clones_c ra rc k W.heap.size (Mk.growth l m) (by have := hS.len; omega) (fun x hx => by rw [Mk.growth_32 l m x hx]; omega) W (Nat.le_refl _) hS
  obtain ⟨k, hk⟩ : ∃ k, k = way.length := ⟨_, rfl⟩
  have HKL : Hid (k = way.length) := hk
  rw [← hk] at hlen CT
  clear hx hK hT hnl hway hk
  go_enter Tryd.func6, Tryd.ntmps6
  go_wp2_with fail
  refine (CT.out _).mono ?_
  rintro e w1 ⟨v, rfl, ho1, hb1⟩
  have B1 : Hid (Below w.heap.size w w1) := hb1
  have L1 : Hid (Bl w1 w1.heap.size v way) := own_bl (base := w.heap.size) (by rw [← HKL.out]; exact ho1)
  obtain ⟨wa, wc, hv⟩ := L1.out.form
  rw [← HKL.out] at hv
  subst hv
  have O1 : Hid (w1.ownsRow w.heap.size 4 1 (.slice wa k wc) k (bcs way)) := ho1
  clear ho1 hb1 CT
  go_wp2_with fail
  refine (CD.out _ B1.out).mono ?_
  rintro e w2 ⟨p, rfl, hP2, hT2, hG2⟩
  have T2 : Hid (Tr w2 b l ∧ Gr b w w2) := ⟨hT2, (Gr.of B1.out).trans hG2⟩
  have L2 : Hid (Bl w2 w2.heap.size (.slice wa k wc) way) := own_bl (base := w.heap.size) (by rw [← HKL.out]; exact own_grt (HT.out.call B1.out) hG2 (by decide) O1.out)
  have P2 : Hid (Pt w2 p l) := hP2
  clear hP2 hT2 hG2 CD
  have CB := beside_c p l way (by have := HKL.out; omega) HF.out wa k wc w2.heap.size w2 (Nat.le_refl _) P2.out L2.out
  have CB' : Hid (Calls Tryd.prog 20 #[.pointer (some ⟨p, 0, none⟩), .slice wa k wc] w2 _) := CB
  clear CB
  go_wp2_with fail
  refine CB'.out.mono ?_
  rintro e w3 ⟨q, rv, rfl, hP3, ho3, hb3⟩
  have T3 : Hid (Tr w3 b l ∧ Gr b w w3) := ⟨T2.out.1.call hb3, T2.out.2.trans (Gr.of hb3)⟩
  have P3 : Hid (Pt w3 q (Mk.sub l way)) := hP3
  have L3 : Hid (Bl w3 w3.heap.size (.slice wa k wc) way) := (L2.out.stays hb3 (Nat.le_refl _)).mono hb3.size
  have hal : (Mk.aside l way).reverse.length = way.length := by rw [List.length_reverse, Mk.aside_length]
  have O3 : Hid (w3.ownsRow w2.heap.size 9 1 rv k (scs (Mk.aside l way).reverse)) := by show World.ownsRow _ _ _ _ _ _ _; rw [HKL.out]; exact ho3
  have S3 : Hid (Sl w3 w3.heap.size rv (Mk.aside l way).reverse) := own_sl (by rw [hal]; exact ho3)
  have HAL : Hid ((Mk.aside l way).reverse.length = k) := hal.trans HKL.out.symm
  have B23 : Hid (w2.heap.size ≤ w3.heap.size) := hb3.size
  have B23w : Hid (Below w2.heap.size w2 w3) := hb3
  obtain ⟨ra, rc, hrv⟩ := S3.out.form
  rw [HAL.out] at hrv
  subst hrv
  clear hP3 ho3 hb3 hal CB'
  have CI : Hid (Calls Tryd.prog 21 #[.slice wa k wc] w3 fun e w' => e = .returned (.bool (!(hasNo way))) ∧ w' = w3) := isElder_c wa wc k w3.heap.size way (by have := HKL.out; omega) w3 L3.out
  cases hh : hasNo way
  · rw [hh] at CI
    have HG2 : Hid (Mk.growth l m = (Mk.aside l way).reverse) := by show _ = _; rw [HG.out, hh]; rfl
    clear hh
    go_wp2_with fail
    refine CI.out.mono ?_
    rintro e w4 ⟨rfl, rfl⟩
    go_wp2_with fail
    refine (CC.out _ _ _ _ (by omega) (by rw [HG2.out]; exact S3.out)).mono ?_
    rintro e w5 ⟨g, rfl, ho5, hb5⟩
    have T5 : Hid (Tr w5 b l ∧ Gr b w w5) := ⟨T3.out.1.call hb5, T3.out.2.trans (Gr.of hb5)⟩
    have O5 : Hid (w5.ownsRow w.heap.size 9 1 (.slice (some ⟨g, 0, none⟩) k k) k (scs (Mk.growth l m))) := own_mono ho5 T3.out.2.size
    clear ho5 hb5
    go_wp2
    go_ret2
    exact ⟨g, k, rfl, O5.out, T5.out⟩
  · rw [hh] at CI
    have HG2 : Hid (Mk.growth l m = Mk.root (Mk.sub l way) :: (Mk.aside l way).reverse) := by show _ = _; rw [HG.out, hh]; rfl
    have hk1 : 1 ≤ k := by
      have : way ≠ [] := fun e => by rw [e] at hh; simp [hasNo] at hh
      have := List.length_pos_iff.2 this
      have := HKL.out
      omega
    obtain ⟨g3, rfl⟩ : ∃ g3, ra = some ⟨g3, 0, none⟩ := by
      rcases O3.out.2 with ⟨_, h⟩ | ⟨g3, cap, cur, h, _⟩
      · omega
      · injection h with h; exact ⟨g3, h⟩
    obtain ⟨rs, hrs⟩ : ∃ rs : ByteArray, rs = bs (Mk.root (Mk.sub l way)) := ⟨_, rfl⟩
    have cq : w3.cell? ⟨q, 0, none⟩ = some (.string rs) := by rw [hrs]; exact P3.out.root
    have hg3 : w2.heap.size ≤ g3 ∧ g3 < w3.heap.size := O3.out.lt g3 rfl
    have CIN : Hid (Calls Tryd.prog 22 #[.slice (some ⟨g3, 0, none⟩) k rc, .int .i64 0, .slice (some ⟨w3.heap.size, 0, none⟩) 1 1] (w3.alloc (.cells #[.string rs] 9)) fun e w' => ∃ a c, e = .returned (.slice a (k + 1) c) ∧ Sl w' w'.heap.size (.slice a (k + 1) c) (Mk.growth l m) ∧ Below w2.heap.size (w3.alloc (.cells #[.string rs] 9)) w') := by
      show Calls _ _ _ _ _
      rw [HG2.out, hrs]
      exact insert_c w2.heap.size g3 k rc w3.heap.size (Mk.root (Mk.sub l way)) (Mk.aside l way).reverse HAL.out hk1 (by omega) _ (by simp; omega) (O3.out.alloc _) (heap_alloc_new w3 _) (by omega)
    have HBL : Hid (∀ W, Below w2.heap.size (w3.alloc (.cells #[.string rs] 9)) W → Tr W b l ∧ Gr b w W) := fun W hW => by
      have n3 : Below w3.heap.size w3 (w3.alloc (.cells #[.string rs] 9)) := (Below.refl _ _).alloc (Nat.le_refl _) _
      have hbw : Below w2.heap.size w2 W := (B23w.out.trans (n3.mono B23.out)).trans hW
      exact ⟨T2.out.1.call hbw, T2.out.2.trans (Gr.of hbw)⟩
    clear hh hrs
    go_wp2_with fail
    refine CI.out.mono ?_
    rintro e w4 ⟨rfl, rfl⟩
    go_wp2_with fail
    refine CIN.out.mono ?_
    rintro e w5 ⟨a5, c5, rfl, hs5, hb5⟩
    have T5 : Hid (Tr w5 b l ∧ Gr b w w5) := HBL.out w5 hb5
    have S5 : Hid (Sl w5 w5.heap.size (.slice a5 (k + 1) c5) (Mk.growth l m)) := hs5
    clear hs5 hb5
    go_wp2_with fail
    refine (CC.out _ _ _ _ (by omega) S5.out).mono ?_
    rintro e w6 ⟨g, rfl, ho6, hb6⟩
    have T6 : Hid (Tr w6 b l ∧ Gr b w w6) := ⟨T5.out.1.call hb6, T5.out.2.trans (Gr.of hb6)⟩
    have O6 : Hid (w6.ownsRow w.heap.size 9 1 (.slice (some ⟨g, 0, none⟩) (k + 1) (k + 1)) (k + 1) (scs (Mk.growth l m))) := own_mono ho6 T5.out.2.size
    clear ho6 hb6
    go_wp2
    go_ret2
    exact ⟨g, k + 1, rfl, O6.out, T6.out⟩
end Go.Proofs.YtoldfepeldbcpaaDoor
