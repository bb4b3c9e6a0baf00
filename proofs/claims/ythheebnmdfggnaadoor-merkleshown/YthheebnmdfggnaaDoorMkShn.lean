/- The law MerkleShown, walked: each path of a tree shows its text; another is shown only if two unlike texts with one digest are at hand. -/
import Derived.Test.YthheebnmdfggnaaDoorMkShown
namespace Go.Proofs.YthheebnmdfggnaaDoor
open Go.RowKit
attribute [local go_sem ↓] Go.wp_at_zero Go.wp_at_succ
set_option maxHeartbeats 32000000 in
set_option maxRecDepth 10000 in
theorem shown_in (b0 off c n : Nat) (l : List (List UInt8)) (hx : ∀ x ∈ l, x.length ≤ 140737488355328) (hn : n ≤ 1024) (j : Nat) (s : ByteArray) (hs : s.size ≤ 140737488355328) (qa : Option Addr) (qn qc : Nat) (q : List (List UInt8)) (hql : q.length ≤ 9223372036854775807) (w : World) (hK : HasK w) (hS : Sl w w.heap.size (.slice (some ⟨b0, off, none⟩) n c) l) (hQ : Sl w w.heap.size (.slice qa qn qc) q) (hpos : 1 ≤ n) :
    Calls Tryd.prog 4 #[.slice (some ⟨b0, off, none⟩) n c, .int .i64 (j : Int), .string s, .slice qa qn qc] w fun e w' => e = .returned (.bool true) ∧ Below w.heap.size w w' := by
  have hnl : n = l.length := hS.len
  obtain ⟨i, hi0⟩ : ∃ i, i = j % n := ⟨_, rfl⟩
  have hin : i < n := by rw [hi0]; exact Nat.mod_lt _ (by omega)
  have qm1 : (j : Int) % (n : Int) = (i : Int) := by rw [hi0]; omega
  have qm2 : Int.tmod (j : Int) (n : Int) = (i : Int) := by rw [hi0]; exact (Int.ofNat_tmod j n).symm
  have hl : l.length ≤ 1024 := by omega
  obtain ⟨x, hi⟩ : ∃ x, l[i]? = some x := ⟨_, List.getElem?_eq_getElem (by omega)⟩
  have HK : Hid (∀ W, Below w.heap.size w W → HasK W) := fun W hW => hK.below hK.1 hW
  have h0 : 0 < w.heap.size := hK.1
  have hbb := hS.at (by omega)
  obtain ⟨b0', off', hbe, -, hb0, hc⟩ := hbb
  injection hbe with hbe
  injection hbe with e1 e2
  subst e1 e2
  obtain ⟨xs, hxs⟩ : ∃ xs : ByteArray, xs = bs x := ⟨_, rfl⟩
  have HCX : Hid (∀ W, Below w.heap.size w W → W.cell? ⟨b0, off + i, none⟩ = some (.string xs)) := fun W hW => by
    rw [hxs]; exact (hW.cell (p := ⟨b0, off + i, none⟩) hb0).trans (hc i x hi)
  have hxsz : xs.size ≤ 140737488355328 := by rw [hxs, bs_size]; exact hx x (List.mem_of_getElem? hi)
  obtain ⟨r, hr⟩ : ∃ r : ByteArray, r = bs (Mk.root l) := ⟨_, rfl⟩
  have CL : Hid (Calls Tryd.prog 12 #[] w fun e w' => e = .returned (.bool true) ∧ Below w.heap.size w w') := lives_c w hK
  have CN : Hid (∀ W, Below w.heap.size w W → Calls Tryd.prog 14 #[.slice (some ⟨b0, off, none⟩) n c] W fun e w' => ∃ b : Nat, e = .returned (.tuple #[.pointer (some ⟨b, 0, none⟩), .int .i64 0]) ∧ w.heap.size ≤ b ∧ Tr w' b l ∧ Below w.heap.size w w') := fun W hW => by
    refine (new_yes _ c n hn w.heap.size l hx W hW.size (hS.stays hW (Nat.le_refl _))).mono ?_
    rintro e w' ⟨b, rfl, hb, hT, hB⟩
    have := hW.size
    exact ⟨b, rfl, by omega, hT.tr (by omega), hW.trans (hB.mono hW.size)⟩
  have CR : Hid (∀ W b, Below w.heap.size w W → Tr W b l → Calls Tryd.prog 17 #[.pointer (some ⟨b, 0, none⟩)] W fun e w' => e = .returned (.string r) ∧ Tr w' b l ∧ Gr b W w') := fun W b hW hT => by
    rw [hr]; exact root_c b l hl hx W (HK.out W hW) hT
  obtain ⟨P, hP⟩ : ∃ P, P = Mk.path l i := ⟨_, rfl⟩
  obtain ⟨m, hm⟩ : ∃ m, m = P.length := ⟨_, rfl⟩
  have hPw : P.length = (Mk.tw Mk.e1 (i + 1) l.length).length := by rw [hP]; simp [Mk.path, Mk.aside_length]
  have HMW : Hid (∀ e, n < 2 ^ e → m ≤ e) := fun e he => by rw [hm, hPw]; exact Mk.tw_len _ e _ _ (by omega)
  have hm10 : m ≤ 10 := HMW.out 11 (by omega) |> fun _ => by rw [hm, hPw]; exact Mk.tw_len _ 10 _ _ (by omega)
  have CP : Hid (∀ W b, Below w.heap.size w W → Tr W b l → Calls Tryd.prog 15 #[.pointer (some ⟨b, 0, none⟩), .int .i64 (i : Int)] W fun e w' => ∃ g, e = .returned (.tuple #[.slice (some ⟨g, 0, none⟩) m m, .int .i64 0]) ∧ w'.ownsRow W.heap.size 9 1 (.slice (some ⟨g, 0, none⟩) m m) m (scs P) ∧ Tr w' b l ∧ Gr b W w') := fun W b hW hT => by
    refine (path_in b l hl hx i (by omega) W (HK.out W hW) hT).mono ?_
    rintro e w' ⟨g, m', rfl, ho, hT', hG⟩
    rw [← hP] at ho
    have : m' = m := by have := ho.1; rw [scs_length] at this; omega
    subst this
    exact ⟨g, rfl, ho, hT', hG⟩
  have CSP : Hid (∀ W base g, Below w.heap.size w W → W.ownsRow base 9 1 (.slice (some ⟨g, 0, none⟩) m m) m (scs P) → Calls Tryd.prog 16 #[.string r, .string xs, .int .i64 (i : Int), .int .i64 (n : Int), .slice (some ⟨g, 0, none⟩) m m] W fun e w' => e = .returned (.bool true) ∧ Below W.heap.size W w') := fun W base g hW hO => by
    have := shows_c r xs hxsz (i : Int) (n : Int) (some ⟨g, 0, none⟩) m m P (by omega) W.heap.size W (HK.out W hW) (Nat.le_refl _) (own_sl (by rw [← hm]; exact hO))
    have e := Mk.shows_path hi hl
    rw [hr, data_bs, hxs, data_bs, hnl, hP, e] at this
    rw [hr, hxs, hnl]; exact this
  have CSQ : Hid (∀ W ra rn rc (R : List (List UInt8)), R.length ≤ 9223372036854775807 → Below w.heap.size w W → Sl W W.heap.size (.slice ra rn rc) R → Calls Tryd.prog 16 #[.string r, .string s, .int .i64 (i : Int), .int .i64 (n : Int), .slice ra rn rc] W fun e w' => e = .returned (.bool (Mk.showsZ (Mk.root l) s.data.toList (i : Int) (l.length : Int) R)) ∧ Below W.heap.size W w') := fun W ra rn rc R hR hW hSR => by
    have := shows_c r s hs (i : Int) (n : Int) ra rn rc R hR W.heap.size W (HK.out W hW) (Nat.le_refl _) hSR
    rw [hr, data_bs, hnl] at this
    rw [hr, hnl]; exact this
  have CCL : Hid (∀ W ra rn rc (R : List (List UInt8)), R.length ≤ 9223372036854775807 → Below w.heap.size w W → Sl W W.heap.size (.slice ra rn rc) R → Calls Tryd.prog 18 #[.slice (some ⟨b0, off, none⟩) n c, .string s, .int .i64 (i : Int), .slice ra rn rc] W fun e w' => e = .returned (alikeV (Mk.clashM l s.data.toList x i R)) ∧ Below W.heap.size W w') := fun W ra rn rc R hR hW hSR =>
    clash_c _ c n l hx hn i x hi s hs ra rn rc R hR W (HK.out W hW) ((hS.stays hW (Nat.le_refl _)).mono hW.size) hSR
  have CSU : Hid (∀ W (t : List UInt8), t.length ≤ 140737488355329 → Below w.heap.size w W → Calls Tryd.prog 19 #[.string (bs t)] W fun e w' => e = .returned (.string (bs (Sh.sum t))) ∧ Below W.heap.size W w') := fun W t ht hW => sum9 (bs t) (by rw [bs_size]; omega) W (HK.out W hW)
  have HQ : Hid (∀ W, Below w.heap.size w W → Sl W W.heap.size (.slice qa qn qc) q) := fun W hW => (hQ.stays hW (Nat.le_refl _)).mono hW.size
  have HF : Hid (l[i]? = some x ∧ l.length ≤ 1024 ∧ s.data.toList.length ≤ 140737488355328 ∧ x.length ≤ 140737488355328 ∧ xs = bs x ∧ m = P.length ∧ q.length ≤ 9223372036854775807) := ⟨hi, hl, by rw [size_bytes]; exact hs, hx x (List.mem_of_getElem? hi), hxs, hm, hql⟩
  have k0 : (0 : Int) ≤ (i : Int) := by omega
  have k1 : (i : Int) < (n : Int) := by omega
  have qn0 : ((n : Int) == 0) = false := by rw [beq_eq_false_iff_ne]; omega
  have qj : ¬ (j : Int) < 0 := by omega
  clear hS hQ hK hx hnl hl hc hi hr hP hm hxs hql hPw hi0 hs hxsz
  go_enter Tryd.func4, Tryd.ntmps4
  go_wp2_with fail
  refine CL.out.mono ?_
  rintro e w1 ⟨rfl, hb1⟩
  clear CL
  go_wp2_with fail
  refine (CN.out _ hb1).mono ?_
  rintro e w2 ⟨b, rfl, hab, hT2, hB2⟩
  have T2 : Hid (Tr w2 b l ∧ w.heap.size ≤ b ∧ Below w.heap.size w w2) := ⟨hT2, hab, hB2⟩
  clear CN hT2 hab hB2 hb1
  go_wp2_with fail
  refine (CP.out _ _ T2.out.2.2 T2.out.1).mono ?_
  rintro e w3 ⟨g, rfl, ho3, hT3, hG3⟩
  have S3 : Hid (SH w b w2.heap.size g m b l P (.slice qa qn qc) w3) := ⟨T2.out.2.2.trans (hG3.below T2.out.2.1 T2.out.2.2.size), hT3, T2.out.2.1, ho3, .inl rfl⟩
  clear ho3 hT3 hG3 T2 CP
  go_upto_region 8 with fail
  have inh : Inhabited (WOf (SH w b w2.heap.size g m b l P (.slice qa qn qc))) := ⟨⟨w3, S3.out⟩⟩
  have cxs : ∀ p : WOf (SH w b w2.heap.size g m b l P (.slice qa qn qc)), p.W.cell? ⟨b0, off + i, none⟩ = some (.string xs) := fun p => HCX.out _ p.h.below
  have CRc : Hid (∀ p : WOf (SH w b w2.heap.size g m b l P (.slice qa qn qc)), Calls Tryd.prog 17 #[.pointer (some ⟨b, 0, none⟩)] p.W fun e w'' => e = .returned (.string r) ∧ ∃ q : WOf (SH w b w2.heap.size g m b l P (.slice qa qn qc)), w'' = q.W) := fun p =>
    (CR.out _ _ p.h.below p.h.tree).mono fun e w' ⟨he, hT, hG⟩ => ⟨he, ⟨w', p.h.gr hT hG⟩, rfl⟩
  have CSc : Hid (∀ p : WOf (SH w b w2.heap.size g m b l P (.slice qa qn qc)), Calls Tryd.prog 16 #[.string r, .string xs, .int .i64 (i : Int), .int .i64 (n : Int), .slice (some ⟨g, 0, none⟩) m m] p.W fun e w'' => e = .returned (.bool true) ∧ ∃ q : WOf (SH w b w2.heap.size g m b l P (.slice qa qn qc)), w'' = q.W) := fun p =>
    (CSP.out _ _ _ p.h.below p.h.row).mono fun e w' ⟨he, hb⟩ => ⟨he, ⟨w', p.h.call hb⟩, rfl⟩
  refine wp_region_class (SH w b w2.heap.size g m b l P (.slice qa qn qc)) (S3.out.call (Below.refl _ _).drew) (by kernel_rfl) (by kernel_rfl) ?_
  repeat (go_big_quiet_step (first
    | (go_at_call 17; exact CRc.out _)
    | (go_at_call 16; exact CSc.out _)))
  refine wpQuiet_nil ?_
  intro _ hw'
  obtain ⟨pq, hw''⟩ := hw'
  subst hw''
  obtain ⟨w4, hw4⟩ : ∃ W, W = pq.W := ⟨_, rfl⟩
  have S4 : Hid (SH w b w2.heap.size g m b l P (.slice qa qn qc) w4) := by rw [hw4]; exact pq.h
  rw [← hw4]
  clear hw4 pq cxs CRc CSc inh S3 CSP
  go_wp2
  go_loop [12, 13] (fun d v => ∃ a e : Nat, v = .int .i64 (a : Int) ∧ d = .int .i64 (e : Int) ∧ a + e ≤ 1024 ∧ Hid (n < (a + 1) * 2 ^ e)) (fun _ v => (intOf v).toNat)
  case atStart => exact ⟨n, 0, rfl, rfl, by omega, by show n < (n + 1) * 2 ^ 0; omega⟩
  case round =>
    obtain ⟨a, e, rfl, rfl, hae, hin2⟩ := hrel
    by_cases ha : a = 0
    · subst ha
      have hme : m ≤ e := HMW.out e (by have := hin2.out; simpa using this)
      have qme : ¬ (e : Int) < (m : Int) := by omega
      clear hin2 HMW
      have S5 : Hid (SH w b w2.heap.size g m w4.heap.size l P (.slice qa qn qc) (w4.alloc (.cells #[.slice (some ⟨g, 0, none⟩) m m, .slice qa qn qc] 22))) := by
        have h := S4.out.call ((Below.refl _ _).alloc (Nat.le_refl _) (.cells #[.slice (some ⟨g, 0, none⟩) m m, .slice qa qn qc] 22))
        exact ⟨h.below, h.tree, h.base, h.row, .inr (heap_alloc_new w4 _)⟩
      have LB : Hid (w4.heap.size ≠ b) := by have := S4.out.tree.cells.2.1; show _ ≠ _; omega
      clear S4
      go_wp2
      go_loopw [80] (fun u wr => ∃ t : Nat, t ≤ 2 ∧ u = .int .i64 (t : Int) ∧ SH w b w2.heap.size g m w4.heap.size l P (.slice qa qn qc) wr) (fun u _ => 2 - (intOf u).toNat)
      case atStart => exact ⟨0, by omega, rfl, S5.out⟩
      case round =>
        obtain ⟨t, ht, rfl, hSH⟩ := hrel
        clear S5
        by_cases hlt : t < 2
        · have h2 : wr.heap[w4.heap.size]? = some (.cells #[.slice (some ⟨g, 0, none⟩) m m, .slice qa qn qc] 22 (0, 0)) := hSH.two.resolve_left LB.out
          obtain ⟨ra, rn, rc, R, hcell, hR, hSR⟩ : ∃ (ra : Option Addr) (rn rc : Nat) (R : List (List UInt8)), wr.cell? ⟨w4.heap.size, t, none⟩ = some (.slice ra rn rc) ∧ R.length ≤ 9223372036854775807 ∧ ∀ W, SH w b w2.heap.size g m w4.heap.size l P (.slice qa qn qc) W → Sl W W.heap.size (.slice ra rn rc) R := by
            match t, hlt with
            | 0, _ => exact ⟨_, _, _, P, by rw [cell_of_row wr _ _ _ 22 (0, 0) h2]; rfl, by have := HF.out.2.2.2.2.2.1; omega, fun W hW => own_sl (by rw [← HF.out.2.2.2.2.2.1]; exact hW.row)⟩
            | 1, _ => exact ⟨_, _, _, q, by rw [cell_of_row wr _ _ _ 22 (0, 0) h2]; rfl, HF.out.2.2.2.2.2.2, fun W hW => HQ.out W hW.below⟩
          have cxr := HCX.out wr hSH.below
          have t0 : (0 : Int) ≤ (t : Int) := by omega
          have t1 : (t : Int) < 2 := by omega
          have H1 : Hid (SH w b w2.heap.size g m w4.heap.size l P (.slice qa qn qc) wr) := hSH
          obtain ⟨sh, hsh⟩ : ∃ sh, sh = Mk.showsZ (Mk.root l) s.data.toList (i : Int) (l.length : Int) R := ⟨_, rfl⟩
          have CS1 : Hid (∀ W, SH w b w2.heap.size g m w4.heap.size l P (.slice qa qn qc) W → Calls Tryd.prog 16 #[.string r, .string s, .int .i64 (i : Int), .int .i64 (n : Int), .slice ra rn rc] W fun e w' => e = .returned (.bool sh) ∧ Below W.heap.size W w') := fun W hW => by
            rw [hsh]; exact CSQ.out W ra rn rc R hR hW.below (hSR W hW)
          have CC1 : Hid (∀ W, SH w b w2.heap.size g m w4.heap.size l P (.slice qa qn qc) W → Calls Tryd.prog 18 #[.slice (some ⟨b0, off, none⟩) n c, .string s, .int .i64 (i : Int), .slice ra rn rc] W fun e w' => e = .returned (alikeV (Mk.clashM l s.data.toList x i R)) ∧ Below W.heap.size W w') := fun W hW => CCL.out W ra rn rc R hR hW.below (hSR W hW)
          clear hSH h2 hSR hR
          by_cases hsx : s = xs
          · have hcl : Mk.clashM l s.data.toList x i R = none := by
              unfold Mk.clashM; rw [if_neg]; rw [hsx, HF.out.2.2.2.2.1]; simp
            rw [hcl] at CC1
            have CC2 : Hid (∀ W, SH w b w2.heap.size g m w4.heap.size l P (.slice qa qn qc) W → Calls Tryd.prog 18 #[.slice (some ⟨b0, off, none⟩) n c, .string s, .int .i64 (i : Int), .slice ra rn rc] W fun e w' => e = .returned (.tuple #[.string ⟨#[]⟩, .string ⟨#[]⟩, .bool false]) ∧ Below W.heap.size W w') := CC1
            have qq : (s.toList == xs.toList) = true := by rw [hsx]; exact beq_self_eq_true _
            clear hsx hcl hsh CC1
            go_wp2_with fail
            refine (CC2.out _ H1.out).mono ?_
            rintro e5 w5 ⟨rfl, hb5⟩
            have H5 : Hid (SH w b w2.heap.size g m w4.heap.size l P (.slice qa qn qc) w5) := H1.out.call hb5
            clear hb5
            go_wp2
            go_roundw
            case rel => first | exact ⟨t + 1, by omega, by go_num, H5.out⟩ | ((repeat apply Exists.intro); exact ⟨⟨t + 1, by omega, by go_num, H5.out⟩, rfl⟩)
            case measure => simp [intOf]; omega
          · have hne : s.data.toList ≠ x := fun e => hsx (by rw [HF.out.2.2.2.2.1, ← e, bs_data])
            have qq : (s.toList == xs.toList) = false := by
              rw [beq_eq_false_iff_ne, Lib.toList_data, Lib.toList_data, HF.out.2.2.2.2.1, data_bs]
              exact hne
            cases sh
            · have hcl : Mk.clashM l s.data.toList x i R = none := by
                unfold Mk.clashM; rw [if_neg]; rw [← hsh]; simp
              rw [hcl] at CC1
              have CC2 : Hid (∀ W, SH w b w2.heap.size g m w4.heap.size l P (.slice qa qn qc) W → Calls Tryd.prog 18 #[.slice (some ⟨b0, off, none⟩) n c, .string s, .int .i64 (i : Int), .slice ra rn rc] W fun e w' => e = .returned (.tuple #[.string ⟨#[]⟩, .string ⟨#[]⟩, .bool false]) ∧ Below W.heap.size W w') := CC1
              clear hsx hcl hsh CC1 hne
              go_wp2_with fail
              refine (CR.out _ _ H1.out.below H1.out.tree).mono ?_
              rintro e5 w5 ⟨rfl, hT5, hG5⟩
              have H5 : Hid (SH w b w2.heap.size g m w4.heap.size l P (.slice qa qn qc) w5) := H1.out.gr hT5 hG5
              clear hT5 hG5
              go_wp2_with fail
              refine (CS1.out _ H5.out).mono ?_
              rintro e6 w6 ⟨rfl, hb6⟩
              have H6 : Hid (SH w b w2.heap.size g m w4.heap.size l P (.slice qa qn qc) w6) := H5.out.call hb6
              clear hb6
              go_wp2_with fail
              refine (CC2.out _ H6.out).mono ?_
              rintro e7 w7 ⟨rfl, hb7⟩
              have H7 : Hid (SH w b w2.heap.size g m w4.heap.size l P (.slice qa qn qc) w7) := H6.out.call hb7
              clear hb7
              go_wp2
              go_roundw
              case rel => first | exact ⟨t + 1, by omega, by go_num, H7.out⟩ | ((repeat apply Exists.intro); exact ⟨⟨t + 1, by omega, by go_num, H7.out⟩, rfl⟩)
              case measure => simp [intOf]; omega
            · obtain ⟨A, B, hcl, hAB, hsum⟩ := Mk.clash_some HF.out.1 HF.out.2.1 hsh.symm hne
              obtain ⟨sA, sB⟩ := Mk.clash_small HF.out.1 HF.out.2.1 HF.out.2.2.1 HF.out.2.2.2.1 hcl
              obtain ⟨At, hAt⟩ : ∃ y : ByteArray, y = bs A := ⟨_, rfl⟩
              obtain ⟨Bt, hBt⟩ : ∃ y : ByteArray, y = bs B := ⟨_, rfl⟩
              obtain ⟨D, hD⟩ : ∃ y : ByteArray, y = bs (Sh.sum A) := ⟨_, rfl⟩
              have CC2 : Hid (∀ W, SH w b w2.heap.size g m w4.heap.size l P (.slice qa qn qc) W → Calls Tryd.prog 18 #[.slice (some ⟨b0, off, none⟩) n c, .string s, .int .i64 (i : Int), .slice ra rn rc] W fun e w' => e = .returned (.tuple #[.string At, .string Bt, .bool true]) ∧ Below W.heap.size W w') := fun W hW => by
                have := CC1.out W hW
                rw [hcl] at this
                rw [hAt, hBt]; exact this
              have CA : Hid (∀ W, Below w.heap.size w W → Calls Tryd.prog 19 #[.string At] W fun e w' => e = .returned (.string D) ∧ Below W.heap.size W w') := fun W hW => by rw [hAt, hD]; exact CSU.out W A sA hW
              have CB : Hid (∀ W, Below w.heap.size w W → Calls Tryd.prog 19 #[.string Bt] W fun e w' => e = .returned (.string D) ∧ Below W.heap.size W w') := fun W hW => by rw [hBt, hD, hsum]; exact CSU.out W B sB hW
              have qAB : (At.toList == Bt.toList) = false := by
                rw [beq_eq_false_iff_ne, Lib.toList_data, Lib.toList_data, hAt, hBt, data_bs, data_bs]
                exact hAB
              have qD : (D.toList == D.toList) = true := beq_self_eq_true _
              clear hsx hcl hsh CC1 hne hAB hsum sA sB hAt hBt hD
              go_wp2_with fail
              refine (CR.out _ _ H1.out.below H1.out.tree).mono ?_
              rintro e5 w5 ⟨rfl, hT5, hG5⟩
              have H5 : Hid (SH w b w2.heap.size g m w4.heap.size l P (.slice qa qn qc) w5) := H1.out.gr hT5 hG5
              clear hT5 hG5
              go_wp2_with fail
              refine (CS1.out _ H5.out).mono ?_
              rintro e6 w6 ⟨rfl, hb6⟩
              have H6 : Hid (SH w b w2.heap.size g m w4.heap.size l P (.slice qa qn qc) w6) := H5.out.call hb6
              clear hb6
              go_wp2_with fail
              refine (CC2.out _ H6.out).mono ?_
              rintro e7 w7 ⟨rfl, hb7⟩
              have H7 : Hid (SH w b w2.heap.size g m w4.heap.size l P (.slice qa qn qc) w7) := H6.out.call hb7
              clear hb7
              go_wp2_with fail
              refine (CA.out _ H7.out.below).mono ?_
              rintro e8 w8 ⟨rfl, hb8⟩
              have H8 : Hid (SH w b w2.heap.size g m w4.heap.size l P (.slice qa qn qc) w8) := H7.out.call hb8
              clear hb8
              go_wp2_with fail
              refine (CB.out _ H8.out.below).mono ?_
              rintro e9 w9 ⟨rfl, hb9⟩
              have H9 : Hid (SH w b w2.heap.size g m w4.heap.size l P (.slice qa qn qc) w9) := H8.out.call hb9
              clear hb9
              go_wp2
              go_roundw
              case rel => first | exact ⟨t + 1, by omega, by go_num, H9.out⟩ | ((repeat apply Exists.intro); exact ⟨⟨t + 1, by omega, by go_num, H9.out⟩, rfl⟩)
              case measure => simp [intOf]; omega
        · have ht2 : t = 2 := by omega
          subst ht2
          go_wp2
          go_ret
          exact ⟨rfl, hSH.below⟩
    · obtain ⟨a2, ha2⟩ : ∃ a2 : Nat, a2 = a / 2 := ⟨_, rfl⟩
      have p1 : (0 : Int) < (a : Int) := by omega
      have p2 : (a : Int) / 2 = (a2 : Int) := by omega
      have p3 : a2 < a := by omega
      have p4 : a2 + (e + 1) ≤ 1024 := by omega
      have HI : Hid (n < (a2 + 1) * 2 ^ (e + 1)) := by
        show n < _
        have h1 := hin2.out
        have h2 : a + 1 ≤ (a2 + 1) * 2 := by omega
        calc n < (a + 1) * 2 ^ e := h1
          _ ≤ ((a2 + 1) * 2) * 2 ^ e := Nat.mul_le_mul_right _ h2
          _ = (a2 + 1) * 2 ^ (e + 1) := by rw [Nat.pow_succ]; rw [Nat.mul_assoc, Nat.mul_comm 2 (2 ^ e)]
      clear hin2 ha2
      go_wp2
      go_round
      case rel => exact ⟨a2, e + 1, rfl, by go_num, p4, HI⟩
      case measure => simp [intOf]; omega
end Go.Proofs.YthheebnmdfggnaaDoor
