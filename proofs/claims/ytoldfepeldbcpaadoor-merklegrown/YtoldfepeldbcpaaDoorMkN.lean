/- A tree's root and its paths. -/
import Derived.Test.YtoldfepeldbcpaaDoorMkL
namespace Go.Proofs.YtoldfepeldbcpaaDoor
open Go.RowKit
attribute [local go_sem ↓] Go.wp_at_zero Go.wp_at_succ
theorem Tr.cells {W : World} {b : Nat} {l : List (List UInt8)} (h : Tr W b l) : W.cell? ⟨b, 0, none⟩ = some (.int .i64 (l.length : Int)) ∧ b < W.heap.size ∧ 0 < b := by
  rcases h with ⟨h0, ⟨g, _, h, _⟩ | ⟨p, h, _⟩⟩
  · exact ⟨h.cells.1, h.lt, h0⟩
  · exact ⟨h.cells.1, h.lt, h0⟩
/-- a tree stays where nothing that was there has turned -/
theorem Tr.call {W W' : World} {b : Nat} {l : List (List UInt8)} (h : Tr W b l) (hb : Below W.heap.size W W') : Tr W' b l := by
  rcases h with ⟨h0, ⟨g, h1, h2, h3⟩ | ⟨p, h1, h2⟩⟩
  · exact ⟨h0, .inl ⟨g, h1, h2.call hb, own_stays h3 hb⟩⟩
  · exact ⟨h0, .inr ⟨p, h1.call hb, h2.call hb⟩⟩
/-- a tree stays where another tree's block turns -/
theorem Tr.gr {W W' : World} {b b2 : Nat} {l l2 : List (List UInt8)} (h : Tr W b l) (h2 : Tr W b2 l2) (hne : b ≠ b2) (hg : Gr b2 W W') : Tr W' b l := by
  have key : ∀ (k : Nat) C t, t ≠ 57 ∨ k = b → W.heap[k]? = some (.cells C t (0, 0)) → W'.heap[k]? = some (.cells C t (0, 0)) := by
    intro k C t ht e
    refine (hg.block k (Array.getElem?_eq_some_iff.1 e).1 (fun q => ?_)).trans e
    injection q with q
    subst q
    rcases ht with ht | ht
    · rcases h2 with ⟨_, ⟨g, _, h2, _⟩ | ⟨p, h2, _⟩⟩
      · rw [h2] at e; simp at e; exact ht e.2.symm
      · rw [h2] at e; simp at e; exact ht e.2.symm
    · exact hne ht.symm
  rcases h with ⟨h0, ⟨g, h1, h3, h4⟩ | ⟨p, h1, h3⟩⟩
  · refine ⟨h0, .inl ⟨g, h1, key b _ _ (.inr rfl) h3, h4.1, ?_⟩⟩
    rcases h4.2 with h5 | ⟨g', cap, cur, h5, h6, h7, h8⟩
    · exact .inl h5
    · exact .inr ⟨g', cap, cur, h5, h6, key g' _ _ (.inl (by decide)) h7, h8⟩
  · exact ⟨h0, .inr ⟨p, key b _ _ (.inr rfl) h1, h3.stays fun k C e => key k C _ (.inl (by decide)) e⟩⟩
theorem TrN.tr {W : World} {b : Nat} {l : List (List UInt8)} (h : TrN W b l) (hb : 0 < b) : Tr W b l := by
  obtain ⟨g, h1, h2⟩ := h
  refine ⟨hb, .inl ⟨g, ?_, h1, h2⟩⟩
  intro e
  subst e
  rcases h2.2 with ⟨h, _⟩ | ⟨g', cap, cur, h3, _, h4, _⟩
  · cases h
  · injection h3 with h3
    injection h3 with h3
    injection h3 with h3
    subst h3
    rw [h1] at h4
    simp at h4
set_option maxHeartbeats 2000000 in
theorem root_c (b : Nat) (l : List (List UInt8)) (hn : l.length ≤ 1024) (hx : ∀ x ∈ l, x.length ≤ 140737488355328) (w : World) (hK : HasK w) (hT : Tr w b l) :
    Calls Tryd.prog 8 #[.pointer (some ⟨b, 0, none⟩)] w fun e w' => e = .returned (.string (bs (Mk.root l))) ∧ Tr w' b l ∧ Gr b w w' := by
  have CD : Hid (Calls Tryd.prog 19 #[.pointer (some ⟨b, 0, none⟩)] w fun e w' => ∃ p, e = .returned (.pointer (some ⟨p, 0, none⟩)) ∧ Pt w' p l ∧ Tr w' b l ∧ Gr b w w') := digests_c b l hn hx w hK hT
  obtain ⟨r, hr⟩ : ∃ r : ByteArray, r = bs (Mk.root l) := ⟨_, rfl⟩
  have hrs : r.size ≤ 281474976710656 := by rw [hr, bs_size, Mk.root_length]; omega
  have HR : Hid (r = bs (Mk.root l)) := hr
  rw [← hr]
  clear hx hK hT hr
  go_enter Tryd.func8, Tryd.ntmps8
  go_wp2_with fail
  refine CD.out.mono ?_
  rintro e w1 ⟨p, rfl, hP, hT, hG⟩
  have c0 : w1.cell? ⟨p, 0, none⟩ = some (.string r) := by rw [HR.out]; exact hP.root
  have T1 : Hid (Tr w1 b l ∧ Gr b w w1) := ⟨hT, hG⟩
  clear hP hT hG
  go_wp2_with fail
  refine (sclone_c r hrs _).mono ?_
  rintro e w2 ⟨rfl, hb⟩
  have T2 : Hid (Tr w2 b l ∧ Gr b w w2) := ⟨T1.out.1.call hb, T1.out.2.trans (Gr.of hb)⟩
  clear hb
  go_wp2
  go_ret
  exact ⟨rfl, T2.out⟩
theorem root_nil (w : World) : Calls Tryd.prog 8 #[.pointer none] w fun e w' => e = .returned (.string ⟨#[]⟩) ∧ w = w' := by
  go_enter Tryd.func8, Tryd.ntmps8
  go_wp2
  go_ret
  exact ⟨rfl, rfl⟩
theorem path_nil (i : Int) (w : World) : Calls Tryd.prog 9 #[.pointer none, .int .i64 i] w fun e w' => e = .returned (.tuple #[.slice none 0 0, .int .i64 1]) ∧ w = w' := by
  go_enter Tryd.func9, Tryd.ntmps9
  go_wp2
  go_ret2
  exact ⟨rfl, rfl⟩
set_option maxHeartbeats 2000000 in
theorem path_out (b n : Nat) (i : Int) (w : World) (h : w.cell? ⟨b, 0, none⟩ = some (.int .i64 (n : Int))) (hi : i < 0 ∨ (n : Int) ≤ i) :
    Calls Tryd.prog 9 #[.pointer (some ⟨b, 0, none⟩), .int .i64 i] w fun e w' => e = .returned (.tuple #[.slice none 0 0, .int .i64 2]) ∧ w = w' := by
  rcases hi with hi | hi
  · go_enter Tryd.func9, Tryd.ntmps9
    go_wp2
    go_ret2
    exact ⟨rfl, rfl⟩
  · by_cases h0 : i < 0
    · go_enter Tryd.func9, Tryd.ntmps9
      go_wp2
      go_ret2
      exact ⟨rfl, rfl⟩
    · go_enter Tryd.func9, Tryd.ntmps9
      go_wp2
      go_ret2
      exact ⟨rfl, rfl⟩
set_option maxHeartbeats 8000000 in
set_option maxRecDepth 10000 in
theorem path_in (b : Nat) (l : List (List UInt8)) (hn : l.length ≤ 1024) (hx : ∀ x ∈ l, x.length ≤ 140737488355328) (i : Nat) (hi : i < l.length) (w : World) (hK : HasK w) (hT : Tr w b l) :
    Calls Tryd.prog 9 #[.pointer (some ⟨b, 0, none⟩), .int .i64 (i : Int)] w fun e w' => ∃ g m, e = .returned (.tuple #[.slice (some ⟨g, 0, none⟩) m m, .int .i64 0]) ∧ w'.ownsRow w.heap.size 9 1 (.slice (some ⟨g, 0, none⟩) m m) m (scs (Mk.path l i)) ∧ Tr w' b l ∧ Gr b w w' := by
  obtain ⟨c0, lb, b0⟩ := hT.cells
  obtain ⟨n, hnl⟩ : ∃ n, n = l.length := ⟨_, rfl⟩
  rw [← hnl] at c0 hn hi
  have HN : Hid (n = l.length) := hnl
  obtain ⟨way, hway⟩ : ∃ way, way = Mk.tw Mk.e1 (i + 1) n := ⟨_, rfl⟩
  have hlen : way.length ≤ 10 := by rw [hway]; exact Mk.tw_len _ 10 _ _ (by omega)
  have HF : Hid (Mk.fits l.length way) := by show Mk.fits _ _; rw [hway, ← HN.out]; exact Mk.fits_tw _ _ _
  have HPA : Hid (Mk.path l i = (Mk.aside l way).reverse) := by show _ = _; rw [Mk.path, hway, ← HN.out]
  have CD : Hid (∀ W, Below w.heap.size w W → Calls Tryd.prog 19 #[.pointer (some ⟨b, 0, none⟩)] W fun e w' => ∃ p, e = .returned (.pointer (some ⟨p, 0, none⟩)) ∧ Pt w' p l ∧ Tr w' b l ∧ Gr b W w') := fun W hW => digests_c b l (by rw [← hnl]; exact hn) hx W (hK.below hK.1 hW) (hT.call hW)
  have CT : Hid (∀ W, Calls Tryd.prog 26 #[.int .i64 (i : Int), .int .i64 (n : Int)] W fun e w' => ∃ v, e = .returned v ∧ w'.ownsRow W.heap.size 4 1 v way.length (bcs way) ∧ Below W.heap.size W w') := fun W => by
    rw [hway]; exact toText_c i n hi hn W
  have q1 : ¬ (i : Int) < 0 := by omega
  have q2 : ¬ (n : Int) ≤ (i : Int) := by omega
  have q3 : (i : Int) < (n : Int) := by omega
  obtain ⟨m, hm⟩ : ∃ m, m = way.length := ⟨_, rfl⟩
  have HM : Hid (m = way.length) := hm
  rw [← hm] at hlen CT
  clear hx hK hT hnl hway hm
  go_enter Tryd.func9, Tryd.ntmps9
  have CB : Hid (∀ W p wa wn wc, Pt W p l → Bl W W.heap.size (.slice wa wn wc) way → Calls Tryd.prog 20 #[.pointer (some ⟨p, 0, none⟩), .slice wa wn wc] W fun e w' => ∃ q ra rc, e = .returned (.tuple #[.pointer (some ⟨q, 0, none⟩), .slice ra m rc]) ∧ Sl w' w'.heap.size (.slice ra m rc) (Mk.path l i) ∧ Below W.heap.size W w') := fun W p wa wn wc hP hB => by
    refine (beside_c p l way (by rw [← HM.out]; omega) HF.out wa wn wc W.heap.size W (Nat.le_refl _) hP hB).mono ?_
    rintro e w' ⟨q, rv, rfl, _, ho, hb⟩
    rw [← HPA.out] at ho
    have hlp : (Mk.path l i).length = way.length := by rw [HPA.out, List.length_reverse, Mk.aside_length]
    have hs := own_sl (l := Mk.path l i) (by rw [hlp]; exact ho)
    obtain ⟨ra, rc, rfl⟩ := hs.form
    rw [hlp, ← HM.out] at hs ⊢
    exact ⟨q, ra, rc, rfl, hs, hb⟩
  have CC : Hid (∀ W ra rc, Sl W W.heap.size (.slice ra m rc) (Mk.path l i) → Calls Tryd.prog 17 #[.slice ra m rc] W fun e w' => ∃ g, e = .returned (.slice (some ⟨g, 0, none⟩) m m) ∧ w'.ownsRow W.heap.size 9 1 (.slice (some ⟨g, 0, none⟩) m m) m (scs (Mk.path l i)) ∧ Below W.heap.size W w') := fun W ra rc hS => by
    have hlp : (Mk.path l i).length = m := by rw [HPA.out, List.length_reverse, Mk.aside_length, HM.out]
    exact clones_c ra rc m W.heap.size (Mk.path l i) (by omega) (fun x hx => by rw [HPA.out] at hx; have := Mk.aside_32 way l x (by simpa using hx); omega) W (Nat.le_refl _) hS
  go_wp2
  go_region_law (first
    | (go_simp; go_at_call 19; refine (CD.out _ ?_).mono ?_; (first | exact Below.refl _ _ | exact (Below.refl _ _).drew); rintro e w1 ⟨p, rfl, hP1, hT1, hG1⟩
       have T1 : Hid (Tr w1 b l ∧ Gr b w w1 ∧ Pt w1 p l) := ⟨hT1, (by first | exact (Gr.drew _ _).trans hG1 | exact hG1), hP1⟩
       have c1 : w1.cell? ⟨b, 0, none⟩ = some (.int .i64 (n : Int)) := (by rw [HN.out]; exact hT1.cells.1)
       clear hP1 hT1 hG1)
    | (go_simp; go_at_call 26; refine (CT.out _).mono ?_; rintro e w2 ⟨v, rfl, ho2, hb2⟩
       have B2 : Hid (Below w1.heap.size w1 w2) := (by first | exact (Below.refl _ _).drew.trans hb2 | exact hb2)
       have L2 : Hid (Bl w2 w2.heap.size v way) := own_bl (base := w1.heap.size) (by rw [← HM.out]; exact ho2)
       obtain ⟨wa, wc, hv⟩ := L2.out.form
       subst hv
       clear ho2 hb2)
    | (go_simp; go_at_call 20; refine (CB.out _ _ _ _ _ ?_ ?_).mono ?_; (first | exact T1.out.2.2.call B2.out | exact (T1.out.2.2.call B2.out).drew); (first | exact L2.out | exact L2.out.drew); rintro e w3 ⟨q, ra, rc, rfl, hs3, hb3⟩
       have B3 : Hid (Below w2.heap.size w2 w3) := (by first | exact (Below.refl _ _).drew.trans hb3 | exact hb3)
       have S3 : Hid (Sl w3 w3.heap.size (.slice ra m rc) (Mk.path l i)) := hs3
       clear hs3 hb3))
  all_goals
    have T3 : Hid (Tr w3 b l ∧ Gr b w w3) := ⟨(T1.out.1.call B2.out).call B3.out, (T1.out.2.1.trans (Gr.of B2.out)).trans (Gr.of B3.out)⟩
    clear T1 B2 B3 CD CT CB L2
    go_wp2_with fail
    refine (CC.out _ _ _ (by first | exact S3.out | exact S3.out.drew)).mono ?_
    rintro e w4 ⟨g, rfl, ho4, hb4⟩
    have T4 : Hid (Tr w4 b l ∧ Gr b w w4) := (by first | exact ⟨T3.out.1.call hb4, T3.out.2.trans (Gr.of hb4)⟩ | exact ⟨(T3.out.1.call (Below.drew (Below.refl _ _))).call hb4, (T3.out.2.trans (Gr.drew _ _)).trans (Gr.of hb4)⟩)
    have O4 : Hid (w4.ownsRow w.heap.size 9 1 (.slice (some ⟨g, 0, none⟩) m m) m (scs (Mk.path l i))) := own_mono ho4 (by first | exact T3.out.2.size | (show _ ≤ w3.heap.size; exact T3.out.2.size))
    clear ho4 hb4
    go_wp2
    go_ret2
    exact ⟨g, m, rfl, O4.out, T4.out⟩
end Go.Proofs.YtoldfepeldbcpaaDoor
