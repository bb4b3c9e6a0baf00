/- A tree whose digests are made. -/
import Derived.Test.YthheebnmdfggnabDoorMkN
namespace Go.Proofs.YthheebnmdfggnabDoor
open Go.RowKit
attribute [local go_sem ↓] Go.wp_at_zero Go.wp_at_succ
/-- the digests are made -/
def Td (W : World) (b : Nat) (l : List (List UInt8)) : Prop := 0 < b ∧ ∃ p, TreeAt W b l.length 1 0 (.slice none 0 0) (.pointer (some ⟨p, 0, none⟩)) ∧ Pt W p l
theorem Td.tr {W : World} {b : Nat} {l : List (List UInt8)} (h : Td W b l) : Tr W b l := ⟨h.1, .inr h.2⟩
theorem Td.call {W W' : World} {b : Nat} {l : List (List UInt8)} (h : Td W b l) (hb : Below W.heap.size W W') : Td W' b l := by
  obtain ⟨h0, p, h1, h2⟩ := h
  exact ⟨h0, p, h1.call hb, h2.call hb⟩
/-- a cell of a row of texts is turned -/
theorem Td.stored {W : World} {b g j : Nat} {l : List (List UInt8)} {cur : Array Value} {fr : Nat × Nat} (h : Td W b l) (hg : W.heap[g]? = some (.cells cur 9 fr)) (x : Value) : Td (W.setCell ⟨g, j, none⟩ x) b l := by
  obtain ⟨h0, p, h1, h2⟩ := h
  have other : ∀ (q : Nat) (C : Array Value) (t : Nat) (f : Nat × Nat), t ≠ 9 → W.heap[q]? = some (.cells C t f) → (W.setCell ⟨g, j, none⟩ x).heap[q]? = some (.cells C t f) := fun q C t f ht hq => by
    have hne : q ≠ g := fun e => by rw [e, hg] at hq; simp at hq; exact ht hq.2.1.symm
    rw [heap_setCell_other _ _ _ _ (by show q ≠ g; exact hne)]
    exact hq
  exact ⟨h0, p, other _ _ _ _ (by decide) h1, h2.stays fun q C e => other _ _ _ _ (by decide) e⟩
set_option maxHeartbeats 4000000 in
set_option maxRecDepth 100000 in
theorem digests_d (b : Nat) (l : List (List UInt8)) (hn : l.length ≤ 1024) (hx : ∀ x ∈ l, x.length ≤ 140737488355328) (w : World) (hK : HasK w) (hT : Tr w b l) :
    Calls Tryd.prog 19 #[.pointer (some ⟨b, 0, none⟩)] w fun e w' => ∃ p, e = .returned (.pointer (some ⟨p, 0, none⟩)) ∧ Pt w' p l ∧ Td w' b l ∧ Gr b w w' := by
  obtain ⟨hb0, hT⟩ := hT
  have hmf : ∀ (fn : Fn) (first cap : Array Value) (w : World), (Instr.makeFunc fn first cap).run Tryd.prog w = .ok (.func fn first cap) w := fun _ _ _ _ => rfl
  obtain ⟨n, hnl⟩ : ∃ n, n = l.length := ⟨_, rfl⟩
  have HN : Hid (n = l.length) := hnl
  rw [← hnl] at hT hn
  have hB1 : Below w.heap.size w (w.alloc (.cells #[.pointer (some ⟨b, 0, none⟩)] 24)) := (Below.refl _ _).alloc (Nat.le_refl _) _
  rcases hT with ⟨g, hgb, hT, hO⟩ | ⟨p, hT, hP⟩
  · have hbl := hT.lt
    have CD : Hid (Calls Tryd.prog 35 #[.pointer (some ⟨b, 1, none⟩), .func (.func 36) #[] #[.pointer (some ⟨w.heap.size, 0, none⟩)]] (w.alloc (.cells #[.pointer (some ⟨b, 0, none⟩)] 24)) fun e w' => e = .returned (.tuple #[]) ∧ ∃ p, TreeAt w' b n 1 0 (.slice none 0 0) (.pointer (some ⟨p, 0, none⟩)) ∧ Pt w' p l ∧ Gr b (w.alloc (.cells #[.pointer (some ⟨b, 0, none⟩)] 24)) w') := by
      refine do_first b w.heap.size n g l hnl.symm hn hx _ hb0 (hK.below hK.1 hB1) (hT.call hB1) (by simp) (by omega) (by simp) hgb ?_
      have := own_sl (l := l) (by rw [← hnl]; exact hO.alloc (.cells #[.pointer (some ⟨b, 0, none⟩)] 24))
      exact this
    clear hx hK hO hT hnl
    go_enter Tryd.func19, Tryd.ntmps19
    go_wp2_with fail
    refine CD.out.mono ?_
    rintro e w2 ⟨rfl, p, hT2, hP2, hG2⟩
    have T2 : Hid (TreeAt w2 b n 1 0 (.slice none 0 0) (.pointer (some ⟨p, 0, none⟩))) := hT2
    have P2 : Hid (Pt w2 p l) := hP2
    have G2 : Hid (Gr b w w2) := (Gr.of hB1).trans hG2
    have cp : w2.cell? ⟨w.heap.size, 0, none⟩ = some (.pointer (some ⟨b, 0, none⟩)) := by
      refine (World.cell?_of_block (a := ⟨w.heap.size, 0, none⟩) (hG2.block w.heap.size (by simp) (fun e => by injection e; omega))).trans (by simp)
    have c5 := hT2.cells.2.2.2.2.2
    clear hT2 hP2 hG2 CD hB1
    go_wp2
    go_ret
    exact ⟨p, rfl, P2.out, ⟨hb0, p, by rw [← HN.out]; exact T2.out, P2.out⟩, G2.out⟩
  · have hbl := hT.lt
    have T1 : Hid (TreeAt (w.alloc (.cells #[.pointer (some ⟨b, 0, none⟩)] 24)) b n 1 0 (.slice none 0 0) (.pointer (some ⟨p, 0, none⟩))) := hT.call hB1
    have CD : Hid (Calls Tryd.prog 35 #[.pointer (some ⟨b, 1, none⟩), .func (.func 36) #[] #[.pointer (some ⟨w.heap.size, 0, none⟩)]] (w.alloc (.cells #[.pointer (some ⟨b, 0, none⟩)] 24)) fun e w' => e = .returned (.tuple #[]) ∧ w.alloc (.cells #[.pointer (some ⟨b, 0, none⟩)] 24) = w') := do_done b _ _ T1.out.cells.2.1
    have HP : Hid (Pt w p l) := hP
    have c5 := T1.out.cells.2.2.2.2.2
    have HB1 : Hid (Below w.heap.size w (w.alloc (.cells #[.pointer (some ⟨b, 0, none⟩)] 24))) := hB1
    clear hx hK hT hP hnl hB1
    go_enter Tryd.func19, Tryd.ntmps19
    go_wp2_with fail
    refine CD.out.mono ?_
    rintro e w2 ⟨rfl, rfl⟩
    go_wp2
    go_ret
    exact ⟨p, rfl, HP.out.call HB1.out, ⟨hb0, p, by rw [← HN.out]; exact T1.out, HP.out.call HB1.out⟩, Gr.of HB1.out⟩
set_option maxHeartbeats 2000000 in
theorem root_d (b : Nat) (l : List (List UInt8)) (hn : l.length ≤ 1024) (hx : ∀ x ∈ l, x.length ≤ 140737488355328) (w : World) (hK : HasK w) (hT : Tr w b l) :
    Calls Tryd.prog 8 #[.pointer (some ⟨b, 0, none⟩)] w fun e w' => e = .returned (.string (bs (Mk.root l))) ∧ Td w' b l ∧ Gr b w w' := by
  have CD : Hid (Calls Tryd.prog 19 #[.pointer (some ⟨b, 0, none⟩)] w fun e w' => ∃ p, e = .returned (.pointer (some ⟨p, 0, none⟩)) ∧ Pt w' p l ∧ Td w' b l ∧ Gr b w w') := digests_d b l hn hx w hK hT
  obtain ⟨r, hr⟩ : ∃ r : ByteArray, r = bs (Mk.root l) := ⟨_, rfl⟩
  have hrs : r.size ≤ 281474976710656 := by rw [hr, bs_size, Mk.root_length]; omega
  have HR : Hid (r = bs (Mk.root l)) := hr
  rw [← hr]
  clear hx hK hT hr
  go_enter Tryd.func8, Tryd.ntmps8
  go_wp2_with fail
  refine CD.out.mono ?_
  rintro e w1 ⟨p, rfl, hP, hT, hG⟩
  have c0 : w1.cell? ⟨p, 0, none⟩ = some (.string r) := by rw [HR.out]; exact hP.root
  have T1 : Hid (Td w1 b l ∧ Gr b w w1) := ⟨hT, hG⟩
  clear hP hT hG
  go_wp2_with fail
  refine (sclone_c r hrs _).mono ?_
  rintro e w2 ⟨rfl, hb⟩
  have T2 : Hid (Td w2 b l ∧ Gr b w w2) := ⟨T1.out.1.call hb, T1.out.2.trans (Gr.of hb)⟩
  clear hb
  go_wp2
  go_ret
  exact ⟨rfl, T2.out⟩
set_option maxHeartbeats 8000000 in
set_option maxRecDepth 10000 in
theorem path_d (b : Nat) (l : List (List UInt8)) (hn : l.length ≤ 1024) (hx : ∀ x ∈ l, x.length ≤ 140737488355328) (i : Nat) (hi : i < l.length) (w : World) (hK : HasK w) (hT : Tr w b l) :
    Calls Tryd.prog 7 #[.pointer (some ⟨b, 0, none⟩), .int .i64 (i : Int)] w fun e w' => ∃ g m, e = .returned (.tuple #[.slice (some ⟨g, 0, none⟩) m m, .int .i64 0]) ∧ w'.ownsRow w.heap.size 9 1 (.slice (some ⟨g, 0, none⟩) m m) m (scs (Mk.path l i)) ∧ Td w' b l ∧ Gr b w w' := by
  obtain ⟨c0, lb, b0⟩ := hT.cells
  obtain ⟨n, hnl⟩ : ∃ n, n = l.length := ⟨_, rfl⟩
  rw [← hnl] at c0 hn hi
  have HN : Hid (n = l.length) := hnl
  obtain ⟨way, hway⟩ : ∃ way, way = Mk.tw Mk.e1 (i + 1) n := ⟨_, rfl⟩
  have hlen : way.length ≤ 10 := by rw [hway]; exact Mk.tw_len _ 10 _ _ (by omega)
  have HF : Hid (Mk.fits l.length way) := by show Mk.fits _ _; rw [hway, ← HN.out]; exact Mk.fits_tw _ _ _
  have HPA : Hid (Mk.path l i = (Mk.aside l way).reverse) := by show _ = _; rw [Mk.path, hway, ← HN.out]
  have CD : Hid (∀ W, Below w.heap.size w W → Calls Tryd.prog 19 #[.pointer (some ⟨b, 0, none⟩)] W fun e w' => ∃ p, e = .returned (.pointer (some ⟨p, 0, none⟩)) ∧ Pt w' p l ∧ Td w' b l ∧ Gr b W w') := fun W hW => digests_d b l (by rw [← hnl]; exact hn) hx W (hK.below hK.1 hW) (hT.call hW)
  have CT : Hid (∀ W, Calls Tryd.prog 21 #[.int .i64 (i : Int), .int .i64 (n : Int)] W fun e w' => ∃ v, e = .returned v ∧ w'.ownsRow W.heap.size 4 1 v way.length (bcs way) ∧ Below W.heap.size W w') := fun W => by
    rw [hway]; exact toText_c i n hi hn W
  have q1 : ¬ (i : Int) < 0 := by omega
  have q2 : ¬ (n : Int) ≤ (i : Int) := by omega
  have q3 : (i : Int) < (n : Int) := by omega
  obtain ⟨m, hm⟩ : ∃ m, m = way.length := ⟨_, rfl⟩
  have HM : Hid (m = way.length) := hm
  rw [← hm] at hlen CT
  clear hx hK hT hnl hway hm
  go_enter Tryd.func7, Tryd.ntmps7
  have CB : Hid (∀ W p wa wn wc, Pt W p l → Bl W W.heap.size (.slice wa wn wc) way → Calls Tryd.prog 20 #[.pointer (some ⟨p, 0, none⟩), .slice wa wn wc] W fun e w' => ∃ q ra rc, e = .returned (.tuple #[.pointer (some ⟨q, 0, none⟩), .slice ra m rc]) ∧ Sl w' w'.heap.size (.slice ra m rc) (Mk.path l i) ∧ Below W.heap.size W w') := fun W p wa wn wc hP hB => by
    refine (beside_c p l way (by rw [← HM.out]; omega) HF.out wa wn wc W.heap.size W (Nat.le_refl _) hP hB).mono ?_
    rintro e w' ⟨q, rv, rfl, _, ho, hb⟩
    rw [← HPA.out] at ho
    have hlp : (Mk.path l i).length = way.length := by rw [HPA.out, List.length_reverse, Mk.aside_length]
    have hs := own_sl (l := Mk.path l i) (by rw [hlp]; exact ho)
    obtain ⟨ra, rc, rfl⟩ := hs.form
    rw [hlp, ← HM.out] at hs ⊢
    exact ⟨q, ra, rc, rfl, hs, hb⟩
  have CC : Hid (∀ W ra rc, Sl W W.heap.size (.slice ra m rc) (Mk.path l i) → Calls Tryd.prog 18 #[.slice ra m rc] W fun e w' => ∃ g, e = .returned (.slice (some ⟨g, 0, none⟩) m m) ∧ w'.ownsRow W.heap.size 9 1 (.slice (some ⟨g, 0, none⟩) m m) m (scs (Mk.path l i)) ∧ Below W.heap.size W w') := fun W ra rc hS => by
    have hlp : (Mk.path l i).length = m := by rw [HPA.out, List.length_reverse, Mk.aside_length, HM.out]
    exact clones_c ra rc m W.heap.size (Mk.path l i) (by omega) (fun x hx => by rw [HPA.out] at hx; have := Mk.aside_32 way l x (by simpa using hx); omega) W (Nat.le_refl _) hS
  go_wp2
  go_region_law (first
    | (go_simp; go_at_call 19; refine (CD.out _ ?_).mono ?_; (first | exact Below.refl _ _ | exact (Below.refl _ _).drew); rintro e w1 ⟨p, rfl, hP1, hT1, hG1⟩
       have T1 : Hid (Td w1 b l ∧ Gr b w w1 ∧ Pt w1 p l) := ⟨hT1, (by first | exact (Gr.drew _ _).trans hG1 | exact hG1), hP1⟩
       have c1 : w1.cell? ⟨b, 0, none⟩ = some (.int .i64 (n : Int)) := (by rw [HN.out]; exact hT1.tr.cells.1)
       clear hP1 hT1 hG1)
    | (go_simp; go_at_call 21; refine (CT.out _).mono ?_; rintro e w2 ⟨v, rfl, ho2, hb2⟩
       have B2 : Hid (Below w1.heap.size w1 w2) := (by first | exact (Below.refl _ _).drew.trans hb2 | exact hb2)
       have L2 : Hid (Bl w2 w2.heap.size v way) := own_bl (base := w1.heap.size) (by rw [← HM.out]; exact ho2)
       obtain ⟨wa, wc, hv⟩ := L2.out.form
       subst hv
       clear ho2 hb2)
    | (go_simp; go_at_call 20; refine (CB.out _ _ _ _ _ ?_ ?_).mono ?_; (first | exact T1.out.2.2.call B2.out | exact (T1.out.2.2.call B2.out).drew); (first | exact L2.out | exact L2.out.drew); rintro e w3 ⟨q, ra, rc, rfl, hs3, hb3⟩
       have B3 : Hid (Below w2.heap.size w2 w3) := (by first | exact (Below.refl _ _).drew.trans hb3 | exact hb3)
       have S3 : Hid (Sl w3 w3.heap.size (.slice ra m rc) (Mk.path l i)) := hs3
       clear hs3 hb3))
  all_goals
    have T3 : Hid (Td w3 b l ∧ Gr b w w3) := ⟨(T1.out.1.call B2.out).call B3.out, (T1.out.2.1.trans (Gr.of B2.out)).trans (Gr.of B3.out)⟩
    clear T1 B2 B3 CD CT CB L2
    go_wp2_with fail
    refine (CC.out _ _ _ (by first | exact S3.out | exact S3.out.drew)).mono ?_
    rintro e w4 ⟨g, rfl, ho4, hb4⟩
    have T4 : Hid (Td w4 b l ∧ Gr b w w4) := (by first | exact ⟨T3.out.1.call hb4, T3.out.2.trans (Gr.of hb4)⟩ | exact ⟨(T3.out.1.call (Below.drew (Below.refl _ _))).call hb4, (T3.out.2.trans (Gr.drew _ _)).trans (Gr.of hb4)⟩)
    have O4 : Hid (w4.ownsRow w.heap.size 9 1 (.slice (some ⟨g, 0, none⟩) m m) m (scs (Mk.path l i))) := own_mono ho4 (by first | exact T3.out.2.size | (show _ ≤ w3.heap.size; exact T3.out.2.size))
    clear ho4 hb4
    go_wp2
    go_ret2
    exact ⟨g, m, rfl, O4.out, T4.out⟩
end Go.Proofs.YthheebnmdfggnabDoor
