/- What the statements ask first is answered with yes. -/
import Derived.Test.YtoldfepeldbcpaaDoorMkS
namespace Go.Proofs.YtoldfepeldbcpaaDoor
open Go.RowKit
attribute [local go_sem ↓] Go.wp_at_zero Go.wp_at_succ
/-- the tree and the path, while nothing below has turned -/
structure LS (w : World) (b : Nat) (pv : Value) (W : World) : Prop where
  below : Below w.heap.size w W
  tree : Tr W b Mk.l3
  path : W.ownsRow w.heap.size 9 1 pv 1 (scs [Mk.ab])
theorem LS.call {w W W' : World} {b : Nat} {pv : Value} (h : LS w b pv W) (hb : Below W.heap.size W W') : LS w b pv W' :=
  ⟨h.below.trans (hb.mono h.below.size), h.tree.call hb, own_stays h.path hb⟩
theorem LS.gr {w W W' : World} {b : Nat} {pv : Value} (h : LS w b pv W) (hw : w.heap.size ≤ b) (hT : Tr W' b Mk.l3) (hg : Gr b W W') : LS w b pv W' :=
  ⟨h.below.trans (hg.below hw h.below.size), hT, own_gr h.tree hg h.path⟩
theorem l3_small : ∀ x ∈ Mk.l3, x.length ≤ 140737488355328 := by
  intro x hx
  simp [Mk.l3] at hx
  rcases hx with rfl | rfl | rfl <;> simp
/-- the three texts in a block of their own -/
theorem three_sl (w : World) : Sl (w.alloc (.cells #[.string ⟨#[97]⟩, .string ⟨#[98]⟩, .string ⟨#[99]⟩] 9)) (w.heap.size + 1) (.slice (some ⟨w.heap.size, 0, none⟩) 3 3) Mk.l3 := by
  refine .inr ⟨w.heap.size, 0, 3, rfl, Nat.lt_succ_self _, fun k x hk => ?_⟩
  match k, hk with
  | 0, hk => simp [Mk.l3] at hk; subst hk; simp [encS, bs]
  | 1, hk => simp [Mk.l3] at hk; subst hk; simp [encS, bs]
  | 2, hk => simp [Mk.l3] at hk; subst hk; simp [encS, bs]
theorem one_sl (w : World) (s : ByteArray) : Sl (w.alloc (.cells #[.string s] 9)) (w.heap.size + 1) (.slice (some ⟨w.heap.size, 0, none⟩) 1 1) [s.data.toList] := by
  refine .inr ⟨w.heap.size, 0, 1, rfl, Nat.lt_succ_self _, fun k x hk => ?_⟩
  match k, hk with
  | 0, hk => simp at hk; subst hk; simp [encS, bs]
set_option maxHeartbeats 16000000 in
set_option maxRecDepth 100000 in
theorem lives_c (w : World) (hK : HasK w) : Calls Tryd.prog 4 #[] w fun e w' => e = .returned (.bool true) ∧ Below w.heap.size w w' := by
  have HK : Hid (∀ W, Below w.heap.size w W → HasK W) := fun W hW => hK.below hK.1 hW
  have h0 : 0 < w.heap.size := Nat.lt_of_le_of_lt (Nat.zero_le _) hK.1
  obtain ⟨la, hla⟩ : ∃ s : ByteArray, s = bs (Mk.leaf [97]) := ⟨_, rfl⟩
  obtain ⟨lb, hlb⟩ : ∃ s : ByteArray, s = bs (Mk.leaf [98]) := ⟨_, rfl⟩
  obtain ⟨lc, hlc⟩ : ∃ s : ByteArray, s = bs (Mk.leaf [99]) := ⟨_, rfl⟩
  obtain ⟨ab, hab⟩ : ∃ s : ByteArray, s = bs Mk.ab := ⟨_, rfl⟩
  obtain ⟨r, hr⟩ : ∃ s : ByteArray, s = bs (Mk.root Mk.l3) := ⟨_, rfl⟩
  obtain ⟨t1, ht1⟩ : ∃ s : ByteArray, s = ⟨#[1]⟩ ++ la := ⟨_, rfl⟩
  obtain ⟨t2, ht2⟩ : ∃ s : ByteArray, s = t1 ++ lb := ⟨_, rfl⟩
  obtain ⟨u1, hu1⟩ : ∃ s : ByteArray, s = ⟨#[1]⟩ ++ ab := ⟨_, rfl⟩
  obtain ⟨u2, hu2⟩ : ∃ s : ByteArray, s = u1 ++ lc := ⟨_, rfl⟩
  have sla : la.size = 32 := by rw [hla, bs_size, Mk.leaf_length]
  have slb : lb.size = 32 := by rw [hlb, bs_size, Mk.leaf_length]
  have slc : lc.size = 32 := by rw [hlc, bs_size, Mk.leaf_length]
  have sab : ab.size = 32 := by rw [hab, bs_size]; exact Mk.node_length _ _
  have st1 : t1.size = 33 := by rw [ht1, ByteArray.size_append, sla]; rfl
  have su1 : u1.size = 33 := by rw [hu1, ByteArray.size_append, sab]; rfl
  have a1 : ∀ W, (Op.stringOp .add ⟨#[1]⟩ la).run Tryd.prog W = .ok (.string t1) W := fun W => by rw [run_string_add_sum W ⟨#[1]⟩ la (by rw [sla]; decide), ht1]
  have a2 : ∀ W, (Op.stringOp .add t1 lb).run Tryd.prog W = .ok (.string t2) W := fun W => by rw [run_string_add_sum W t1 lb (by omega), ht2]
  have a3 : ∀ W, (Op.stringOp .add ⟨#[1]⟩ ab).run Tryd.prog W = .ok (.string u1) W := fun W => by rw [run_string_add_sum W ⟨#[1]⟩ ab (by rw [sab]; decide), hu1]
  have a4 : ∀ W, (Op.stringOp .add u1 lc).run Tryd.prog W = .ok (.string u2) W := fun W => by rw [run_string_add_sum W u1 lc (by omega), hu2]
  have dt2 : t2.data.toList = Mk.nodeT (Mk.leaf [97]) (Mk.leaf [98]) := by rw [ht2, ht1, hla, hlb]; simp [Mk.nodeT]
  have du2 : u2.data.toList = Mk.nodeT Mk.ab (Mk.leaf [99]) := by rw [hu2, hu1, hab, hlc]; simp [Mk.nodeT]
  have CLA : Hid (∀ W, Below w.heap.size w W → Calls Tryd.prog 11 #[.string ⟨#[97]⟩] W fun e w' => e = .returned (.string la) ∧ Below W.heap.size W w') := fun W hW => by rw [hla]; exact leafOf_c ⟨#[97]⟩ (by decide) W (HK.out W hW)
  have CLB : Hid (∀ W, Below w.heap.size w W → Calls Tryd.prog 11 #[.string ⟨#[98]⟩] W fun e w' => e = .returned (.string lb) ∧ Below W.heap.size W w') := fun W hW => by rw [hlb]; exact leafOf_c ⟨#[98]⟩ (by decide) W (HK.out W hW)
  have CLC : Hid (∀ W, Below w.heap.size w W → Calls Tryd.prog 11 #[.string ⟨#[99]⟩] W fun e w' => e = .returned (.string lc) ∧ Below W.heap.size W w') := fun W hW => by rw [hlc]; exact leafOf_c ⟨#[99]⟩ (by decide) W (HK.out W hW)
  have CS1 : Hid (∀ W, Below w.heap.size w W → Calls Tryd.prog 10 #[.string t2] W fun e w' => e = .returned (.string ab) ∧ Below W.heap.size W w') := fun W hW => by
    have := sum9 t2 (by rw [Lib.size_eq, dt2]; simp [Mk.nodeT, Mk.leaf_length]) W (HK.out W hW)
    rw [dt2] at this; rw [hab]; exact this
  have CS2 : Hid (∀ W, Below w.heap.size w W → Calls Tryd.prog 10 #[.string u2] W fun e w' => e = .returned (.string r) ∧ Below W.heap.size W w') := fun W hW => by
    have := sum9 u2 (by rw [Lib.size_eq, du2]; simp [Mk.nodeT, Mk.leaf_length, Mk.ab, Mk.node_length]) W (HK.out W hW)
    rw [du2] at this; rw [hr, Mk.l3_root]; exact this
  have CN : Hid (∀ W, Below w.heap.size w W → Calls Tryd.prog 5 #[.slice (some ⟨w.heap.size, 0, none⟩) 3 3] (w.alloc (.cells #[.string ⟨#[97]⟩, .string ⟨#[98]⟩, .string ⟨#[99]⟩] 9)) fun e w' => ∃ b : Nat, e = .returned (.tuple #[.pointer (some ⟨b, 0, none⟩), .int .i64 0]) ∧ w.heap.size + 1 ≤ b ∧ TrN w' b Mk.l3 ∧ Below (w.heap.size + 1) (w.alloc (.cells #[.string ⟨#[97]⟩, .string ⟨#[98]⟩, .string ⟨#[99]⟩] 9)) w') := fun W hW => by
    have := new_yes (some ⟨w.heap.size, 0, none⟩) 3 3 (by decide) (w.heap.size + 1) Mk.l3 l3_small (w.alloc (.cells #[.string ⟨#[97]⟩, .string ⟨#[98]⟩, .string ⟨#[99]⟩] 9)) (by simp) (three_sl w)
    simpa using this
  have CP : Hid (∀ W b, Below w.heap.size w W → Tr W b Mk.l3 → Calls Tryd.prog 9 #[.pointer (some ⟨b, 0, none⟩), .int .i64 2] W fun e w' => ∃ g, e = .returned (.tuple #[.slice (some ⟨g, 0, none⟩) 1 1, .int .i64 0]) ∧ w'.ownsRow W.heap.size 9 1 (.slice (some ⟨g, 0, none⟩) 1 1) 1 (scs [Mk.ab]) ∧ Tr w' b Mk.l3 ∧ Gr b W w') := fun W b hW hT => by
    refine (path_in b Mk.l3 (by decide) l3_small 2 (by decide) W (HK.out W hW) hT).mono ?_
    rintro e w' ⟨g, m, rfl, ho, hT', hG⟩
    rw [Mk.l3_path] at ho
    have hm : m = 1 := by have := ho.1; simp [scs] at this; omega
    subst hm
    exact ⟨g, rfl, ho, hT', hG⟩
  have CA : Hid (∀ W, Below w.heap.size w W → Calls Tryd.prog 12 #[.agg #[.int .i64 0, .slice none 0 0], .string ⟨#[97]⟩] W fun e w' => ∃ va vc, e = .returned (.tuple #[.agg #[.int .i64 1, .slice va 1 vc], .int .i64 0]) ∧ Sl w' w'.heap.size (.slice va 1 vc) [Mk.leaf [97]] ∧ Below W.heap.size W w') := fun W hW => by
    refine (add_yes 0 (by decide) ⟨#[97]⟩ (by decide) none 0 0 [] (by rw [Mk.ones_zero]; rfl) (by decide) (fun x hx => by cases hx) 0 W (HK.out W hW) (Nat.zero_le _) (.inl ⟨rfl, none, 0, rfl⟩)).mono ?_
    rintro e w' ⟨v, rfl, ho, hb⟩
    have e1 : Mk.addM 0 [] (Mk.leaf ((⟨#[97]⟩ : ByteArray).data.toList)) = [Mk.leaf [97]] := by rw [Mk.addM_even (by decide)]; rfl
    rw [e1] at ho
    have hs := own_sl ho
    obtain ⟨va, vc, rfl⟩ := hs.form
    exact ⟨va, vc, rfl, hs, hb⟩
  have CT : Hid (∀ W va vc, Below w.heap.size w W → Sl W W.heap.size (.slice va 1 vc) [Mk.leaf [97]] → Calls Tryd.prog 13 #[.agg #[.int .i64 1, .slice va 1 vc]] W fun e w' => e = .returned (.tuple #[.string la, .int .i64 0]) ∧ Below W.heap.size W w') := fun W va vc hW hS => by
    have := top_yes 1 (by decide) va 1 vc [Mk.leaf [97]] (by decide +kernel) (by simp) (fun x hx => by simp at hx; rw [hx]; exact Mk.leaf_length _) W.heap.size W (HK.out W hW) (Nat.le_refl _) hS
    rw [hla]; exact this
  have CR : Hid (∀ W b, Below w.heap.size w W → Tr W b Mk.l3 → Calls Tryd.prog 8 #[.pointer (some ⟨b, 0, none⟩)] W fun e w' => e = .returned (.string r) ∧ Tr w' b Mk.l3 ∧ Gr b W w') := fun W b hW hT => by
    rw [hr]; exact root_c b Mk.l3 (by decide) l3_small W (HK.out W hW) hT
  have CW1 : Hid (∀ W g, Below w.heap.size w W → Sl W W.heap.size (.slice (some ⟨g, 0, none⟩) 1 1) [Mk.ab] → Calls Tryd.prog 16 #[.string r, .string ⟨#[99]⟩, .int .i64 2, .int .i64 3, .slice (some ⟨g, 0, none⟩) 1 1] W fun e w' => e = .returned (.bool true) ∧ Below W.heap.size W w') := fun W g hW hS => by
    have := shows_c r ⟨#[99]⟩ (by decide) 2 3 (some ⟨g, 0, none⟩) 1 1 [Mk.ab] (by simp) W.heap.size W (HK.out W hW) (Nat.le_refl _) hS
    have e1 : Mk.showsZ r.data.toList ((⟨#[99]⟩ : ByteArray).data.toList) 2 3 [Mk.ab] = true := by rw [hr]; exact Mk.l3_shows
    rw [e1] at this; exact this
  have CW2 : Hid (∀ W g, Below w.heap.size w W → Sl W W.heap.size (.slice (some ⟨g, 0, none⟩) 1 1) [Mk.ab] → Calls Tryd.prog 16 #[.string r, .string ⟨#[100]⟩, .int .i64 2, .int .i64 3, .slice (some ⟨g, 0, none⟩) 1 1] W fun e w' => e = .returned (.bool false) ∧ Below W.heap.size W w') := fun W g hW hS => by
    have := shows_c r ⟨#[100]⟩ (by decide) 2 3 (some ⟨g, 0, none⟩) 1 1 [Mk.ab] (by simp) W.heap.size W (HK.out W hW) (Nat.le_refl _) hS
    have e1 : Mk.showsZ r.data.toList ((⟨#[100]⟩ : ByteArray).data.toList) 2 3 [Mk.ab] = false := by rw [hr]; exact Mk.l3_shows_not
    rw [e1] at this; exact this
  have HAB : Hid (ab = bs Mk.ab) := hab
  clear hla hlb hlc hab hr ht1 ht2 hu1 hu2 sla slb slc sab st1 su1 dt2 du2 hK
  go_enter Tryd.func4, Tryd.ntmps4
  go_wp2_with fail
  refine (CN.out _ (Below.refl _ _)).mono ?_
  rintro e w1 ⟨b, rfl, hb, hT, hB⟩
  have B1 : Hid (Below w.heap.size w w1) := ((Below.refl _ _).alloc (Nat.le_refl _) _).trans (hB.mono (by omega))
  have T1 : Hid (Tr w1 b Mk.l3) := hT.tr (by omega)
  have hwb : w.heap.size ≤ b := by omega
  clear hT hB hb
  go_wp2_with fail
  refine (CP.out _ b B1.out T1.out).mono ?_
  rintro e w2 ⟨g, rfl, ho, hT, hG⟩
  have S2 : Hid (LS w b (.slice (some ⟨g, 0, none⟩) 1 1) w2) := ⟨B1.out.trans (hG.below hwb B1.out.size), hT, own_mono ho B1.out.size⟩
  clear ho hT hG
  go_wp2_with fail
  refine (CLA.out _ S2.out.below).mono ?_
  rintro e w3 ⟨rfl, hb3⟩
  have S3 : Hid (LS w b (.slice (some ⟨g, 0, none⟩) 1 1) w3) := S2.out.call hb3
  clear hb3
  go_wp2_with fail
  refine (CLB.out _ S3.out.below).mono ?_
  rintro e w4 ⟨rfl, hb4⟩
  have S4 : Hid (LS w b (.slice (some ⟨g, 0, none⟩) 1 1) w4) := S3.out.call hb4
  clear hb4
  go_wp2_with fail
  refine (CS1.out _ S4.out.below).mono ?_
  rintro e w5 ⟨rfl, hb5⟩
  have S5 : Hid (LS w b (.slice (some ⟨g, 0, none⟩) 1 1) w5) := S4.out.call hb5
  clear hb5
  go_wp2_with fail
  refine (CA.out _ S5.out.below).mono ?_
  rintro e w6 ⟨va, vc, rfl, hs6, hb6⟩
  have S6 : Hid (LS w b (.slice (some ⟨g, 0, none⟩) 1 1) w6) := S5.out.call hb6
  have P6 : Hid (Sl w6 w6.heap.size (.slice va 1 vc) [Mk.leaf [97]]) := hs6
  clear hb6 hs6
  have N6 : Hid (∀ o, Below w6.heap.size w6 (w6.alloc o)) := fun o => (Below.refl _ _).alloc (Nat.le_refl _) o
  go_wp2_with fail
  refine (CT.out _ _ _ (S6.out.call (N6.out _)).below ((P6.out.stays (N6.out _) (Nat.le_refl _)).mono (N6.out _).size)).mono ?_
  rintro e w7 ⟨rfl, hb7⟩
  have S7 : Hid (LS w b (.slice (some ⟨g, 0, none⟩) 1 1) w7) := (S6.out.call (N6.out _)).call hb7
  clear hb7
  have CSM : Hid (Calls Tryd.prog 14 #[.slice (some ⟨g, 0, none⟩) 1 1, .slice (some ⟨w7.heap.size, 0, none⟩) 1 1] (w7.alloc (.cells #[.string ab] 9)) fun e w' => e = .returned (.bool true) ∧ Below (w7.alloc (.cells #[.string ab] 9)).heap.size (w7.alloc (.cells #[.string ab] 9)) w') := by
    show Calls _ _ _ _ _
    have n7 : Below w7.heap.size w7 (w7.alloc (.cells #[.string ab] 9)) := (Below.refl _ _).alloc (Nat.le_refl _) _
    have h1 : Sl (w7.alloc (.cells #[.string ab] 9)) (w7.heap.size + 1) (.slice (some ⟨g, 0, none⟩) 1 1) [Mk.ab] := ((own_sl (l := [Mk.ab]) S7.out.path).stays n7 (Nat.le_refl _)).mono (by omega)
    have h2 := one_sl w7 ab
    rw [show ab.data.toList = Mk.ab by rw [HAB.out]] at h2
    have := same_c _ _ _ _ _ _ [Mk.ab] [Mk.ab] (by simp) (by simp) (w7.heap.size + 1) _ (by simp) h1 h2
    simpa using this
  go_wp2_with fail
  refine CSM.out.mono ?_
  rintro e w8 ⟨rfl, hb8⟩
  have S8 : Hid (LS w b (.slice (some ⟨g, 0, none⟩) 1 1) w8) := (S7.out.call ((Below.refl _ _).alloc (Nat.le_refl _) _)).call hb8
  clear hb8 CSM
  go_wp2_with fail
  refine (CR.out _ b S8.out.below S8.out.tree).mono ?_
  rintro e w9 ⟨rfl, hT, hG⟩
  have S9 : Hid (LS w b (.slice (some ⟨g, 0, none⟩) 1 1) w9) := S8.out.gr hwb hT hG
  clear hT hG
  go_wp2_with fail
  refine (CLC.out _ S9.out.below).mono ?_
  rintro e w10 ⟨rfl, hb10⟩
  have S10 : Hid (LS w b (.slice (some ⟨g, 0, none⟩) 1 1) w10) := S9.out.call hb10
  clear hb10
  go_wp2_with fail
  refine (CS2.out _ S10.out.below).mono ?_
  rintro e w11 ⟨rfl, hb11⟩
  have S11 : Hid (LS w b (.slice (some ⟨g, 0, none⟩) 1 1) w11) := S10.out.call hb11
  clear hb11
  go_wp2_with fail
  refine (size_c b 3 _ S11.out.tree.cells.1).mono ?_
  rintro e w12 ⟨rfl, rfl⟩
  go_wp2_with fail
  refine (CR.out _ b S11.out.below S11.out.tree).mono ?_
  rintro e w13 ⟨rfl, hT, hG⟩
  have S13 : Hid (LS w b (.slice (some ⟨g, 0, none⟩) 1 1) w13) := S11.out.gr hwb hT hG
  clear hT hG
  go_wp2_with fail
  refine (CW1.out _ g S13.out.below (own_sl (l := [Mk.ab]) S13.out.path)).mono ?_
  rintro e w14 ⟨rfl, hb14⟩
  have S14 : Hid (LS w b (.slice (some ⟨g, 0, none⟩) 1 1) w14) := S13.out.call hb14
  clear hb14
  go_wp2_with fail
  refine (CR.out _ b S14.out.below S14.out.tree).mono ?_
  rintro e w15 ⟨rfl, hT, hG⟩
  have S15 : Hid (LS w b (.slice (some ⟨g, 0, none⟩) 1 1) w15) := S14.out.gr hwb hT hG
  clear hT hG
  go_wp2_with fail
  refine (CW2.out _ g S15.out.below (own_sl (l := [Mk.ab]) S15.out.path)).mono ?_
  rintro e w16 ⟨rfl, hb16⟩
  have S16 : Hid (LS w b (.slice (some ⟨g, 0, none⟩) 1 1) w16) := S15.out.call hb16
  clear hb16
  go_wp2_with fail
  refine (CLA.out _ S16.out.below).mono ?_
  rintro e w17 ⟨rfl, hb17⟩
  have S17 : Hid (LS w b (.slice (some ⟨g, 0, none⟩) 1 1) w17) := S16.out.call hb17
  clear hb17
  go_wp2
  go_ret
  exact ⟨rfl, S17.out.below⟩
end Go.Proofs.YtoldfepeldbcpaaDoor
