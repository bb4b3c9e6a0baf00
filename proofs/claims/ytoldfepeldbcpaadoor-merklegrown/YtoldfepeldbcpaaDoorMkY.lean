/- What a growth shows, as the program tells. -/
import Derived.Test.YtoldfepeldbcpaaDoorMkX
import Derived.Test.YtoldfepeldbcpaaDoorMkU
namespace Go.Proofs.YtoldfepeldbcpaaDoor
open Go.RowKit
attribute [local go_sem ↓] Go.wp_at_zero Go.wp_at_succ
set_option maxHeartbeats 4000000 in
theorem grew_zero (old root : ByteArray) (n : Nat) (hn : n ≤ 1024) (ho : old = bs (Sh.sum [])) (hr : n = 0 → root = old) (pa : Option Addr) (pn pc : Nat) (w : World) (hK : HasK w) :
    Calls Tryd.prog 7 #[.string old, .string root, .int .i64 0, .int .i64 (n : Int), .slice pa pn pc] w fun e w' => e = .returned (.bool ((pn : Int) == 0)) ∧ Below w.heap.size w w' := by
  have C1 : Hid (Calls Tryd.prog 10 #[.string ⟨#[]⟩] w fun e w' => e = .returned (.string old) ∧ Below w.heap.size w w') := by
    show Calls _ _ _ _ _
    rw [ho]; exact sum9 ⟨#[]⟩ (by decide) w hK
  have q1 : ¬ (n : Int) < 0 := by omega
  have q2 : ¬ 1024 < (n : Int) := by omega
  have q3 : (old.toList == old.toList) = true := beq_self_eq_true _
  clear hK ho
  rcases Nat.eq_zero_or_pos n with h0 | h0
  · subst h0
    have e := hr rfl
    subst e
    clear hr
    go_enter Tryd.func7, Tryd.ntmps7
    go_wp2_with fail
    refine C1.out.mono ?_
    rintro e w1 ⟨rfl, hb⟩
    clear C1
    go_wp2
    go_ret
    exact ⟨rfl, hb⟩
  · have q4 : ((0 : Int) == (n : Int)) = false := by rw [beq_eq_false_iff_ne]; omega
    clear hr
    go_enter Tryd.func7, Tryd.ntmps7
    go_wp2_with fail
    refine C1.out.mono ?_
    rintro e w1 ⟨rfl, hb⟩
    clear C1
    go_wp2
    go_ret
    exact ⟨rfl, hb⟩
set_option maxHeartbeats 4000000 in
theorem grew_all (old : ByteArray) (n : Nat) (h1 : 1 ≤ n) (hn : n ≤ 1024) (pa : Option Addr) (pn pc : Nat) (w : World) :
    Calls Tryd.prog 7 #[.string old, .string old, .int .i64 (n : Int), .int .i64 (n : Int), .slice pa pn pc] w fun e w' => e = .returned (.bool ((pn : Int) == 0)) ∧ w = w' := by
  have q1 : ¬ (n : Int) < 0 := by omega
  have q2 : ¬ 1024 < (n : Int) := by omega
  have q3 : (old.toList == old.toList) = true := beq_self_eq_true _
  have q4 : ((n : Int) == 0) = false := by rw [beq_eq_false_iff_ne]; omega
  have q5 : ((n : Int) == (n : Int)) = true := beq_self_eq_true _
  go_enter Tryd.func7, Tryd.ntmps7
  go_wp2
  go_ret
  exact ⟨rfl, rfl⟩
namespace Mk
/-- whether a growth shows that n texts grew out of the first m of them, m from 1 to less than n -/
def grewZ (old root : Bs) (m n : Nat) (g : List Bs) : Bool :=
  if hasNo (tw e2 m n) then ((g.length : Int) == ((tw e2 m n).length : Int) + 1) && all32 g && ((was (g.headD []) (tw e2 m n).reverse g.tail == old) && (climb (g.headD []) (tw e2 m n).reverse g.tail == root))
  else ((g.length : Int) == ((tw e2 m n).length : Int)) && all32 g && ((was old (tw e2 m n).reverse g == old) && (climb old (tw e2 m n).reverse g == root))
end Mk
set_option maxHeartbeats 8000000 in
set_option maxRecDepth 10000 in
theorem grew_in (old root : ByteArray) (hos : old.size = 32) (m n : Nat) (h1 : 1 ≤ m) (h2 : m < n) (hn : n ≤ 1024) (pa : Option Addr) (pn pc : Nat) (hkc : pn ≤ pc) (g : List (List UInt8)) (hg : g.length ≤ 9223372036854775807) (H : Nat) (w : World) (hK : HasK w) (hH : H ≤ w.heap.size) (hS : Sl w H (.slice pa pn pc) g) :
    Calls Tryd.prog 7 #[.string old, .string root, .int .i64 (m : Int), .int .i64 (n : Int), .slice pa pn pc] w fun e w' => e = .returned (.bool (Mk.grewZ old.data.toList root.data.toList m n g)) ∧ Below w.heap.size w w' := by
  obtain ⟨way, hway⟩ : ∃ way, way = Mk.tw Mk.e2 m n := ⟨_, rfl⟩
  obtain ⟨res, hres⟩ : ∃ res, res = Mk.grewZ old.data.toList root.data.toList m n g := ⟨_, rfl⟩
  rw [← hres]
  unfold Mk.grewZ at hres
  rw [← hway] at hres
  have hlen : way.length ≤ 10 := by rw [hway]; exact Mk.tw_len _ 10 _ _ (by omega)
  have C1 : Hid (Calls Tryd.prog 18 #[.int .i64 (m : Int), .int .i64 (n : Int)] w fun e w' => ∃ v, e = .returned v ∧ w'.ownsRow w.heap.size 4 1 v way.length (bcs way) ∧ Below w.heap.size w w') := by
    show Calls _ _ _ _ _
    rw [hway]; exact toElder_c m n h1 (by omega) hn w
  have C2 : Hid (∀ many W, Below w.heap.size w W → Calls Tryd.prog 23 #[.slice pa pn pc, .int .i64 many] W fun e w' => e = .returned (.bool (((g.length : Int) == many) && all32 g)) ∧ w' = W) := fun many W hW => right_c pa pc pn H g many hg W (hS.stays hW hH)
  have HK : Hid (HasK w) := hK
  have HS : Hid (Sl w H (.slice pa pn pc) g) := hS
  obtain ⟨k, hk⟩ : ∃ k, k = way.length := ⟨_, rfl⟩
  rw [← hk] at hlen C1 hres
  have HRES : Hid (res = _) := hres
  clear hres
  have HM : Hid (k = way.length) := hk
  have q1 : ¬ (m : Int) < 0 := by omega
  have q2 : ¬ 1024 < (n : Int) := by omega
  have q3 : ¬ (n : Int) < (m : Int) := by omega
  have q4 : ((m : Int) == 0) = false := by rw [beq_eq_false_iff_ne]; omega
  have q5 : ((m : Int) == (n : Int)) = false := by rw [beq_eq_false_iff_ne]; omega
  clear hway hS hK hk
  go_enter Tryd.func7, Tryd.ntmps7
  go_wp2_with fail
  refine C1.out.mono ?_
  rintro e w1 ⟨v, rfl, ho, hb⟩
  have HBL : Hid (Bl w1 w1.heap.size v way) := own_bl (base := w.heap.size) (by rw [← HM.out]; exact ho)
  have HB1 : Hid (Below w.heap.size w w1) := hb
  obtain ⟨a1, c1, hv1⟩ := HBL.out.form
  rw [← HM.out] at hv1
  subst hv1
  clear ho hb C1
  have CI : Hid (Calls Tryd.prog 21 #[.slice a1 k c1] w1 fun e w' => e = .returned (.bool (!(hasNo way))) ∧ w' = w1) := isElder_c a1 c1 k w1.heap.size way (by have := HM.out; omega) w1 HBL.out
  have hK1 : HasK w1 := HK.out.below HK.out.1 HB1.out
  have hsz := HB1.out.size
  have HS1 : Hid (Sl w1 w1.heap.size (.slice pa pn pc) g) := (HS.out.stays HB1.out hH).mono (by omega)
  have HK1 : Hid (HasK w1) := hK1
  clear hK1 hsz
  cases hh : hasNo way
  · rw [hh] at CI
    have HRE : Hid (res = _) := HRES.out.trans (if_neg (by rw [hh]; simp))
    clear hh HRES
    go_wp2_with fail
    refine CI.out.mono ?_
    rintro e w2 ⟨rfl, rfl⟩
    clear CI
    go_wp2_with fail
    refine (C2.out _ _ HB1.out).mono ?_
    rintro e w3 ⟨rfl, rfl⟩
    cases hr : (((g.length : Int) == (k : Int)) && all32 g)
    · have HR : Hid ((((g.length : Int) == (k : Int)) && all32 g) = false) := hr
      clear hr C2
      go_wp2
      go_ret
      exact ⟨by rw [HRE.out, HR.out]; rfl, HB1.out⟩
    · have HR : Hid ((((g.length : Int) == (k : Int)) && all32 g) = true) := hr
      have h32 : all32 g = true := by simp at hr; exact hr.2
      have hpm : g.length = k := by simp at hr; omega
      have C3 : Hid (Calls Tryd.prog 24 #[.string old, .string root, .string old, .slice a1 k c1, .slice pa pn pc] w3 _) := together_c old root old hos way g (by have := HM.out; omega) (by have := HM.out; omega) (all32_of h32) _ pa pn pc w3.heap.size w3 HK1.out (Nat.le_refl _) HBL.out HS1.out
      clear hr C2 h32 hpm
      go_wp2_with fail
      refine C3.out.mono ?_
      rintro e w4 ⟨rfl, hb4⟩
      clear C3
      go_wp2
      go_ret
      exact ⟨by rw [HRE.out, HR.out]; rfl, HB1.out.trans (hb4.mono HB1.out.size)⟩
  · rw [hh] at CI
    have HRE : Hid (res = _) := HRES.out.trans (if_pos hh)
    have hk1 : 1 ≤ k := by
      have : way ≠ [] := fun e => by rw [e] at hh; simp [hasNo] at hh
      have := List.length_pos_iff.2 this
      have := HM.out
      omega
    clear hh HRES
    cases hr : (((g.length : Int) == (k : Int) + 1) && all32 g)
    · have HR : Hid ((((g.length : Int) == (k : Int) + 1) && all32 g) = false) := hr
      have C3 : Hid (∀ W, Below w.heap.size w W → Calls Tryd.prog 23 #[.slice pa pn pc, .int .i64 ((k : Int) + 1)] W fun e w' => e = .returned (.bool false) ∧ w' = W) := fun W hW => by
        have := C2.out ((k : Int) + 1) W hW
        rwa [hr] at this
      clear hr C2
      go_wp2_with fail
      refine CI.out.mono ?_
      rintro e w2 ⟨rfl, rfl⟩
      clear CI
      go_upto_region 10 with fail
      refine wp_region_below w.heap.size w HB1.out (by kernel_rfl) (by kernel_rfl) ?_
      repeat (go_big_quiet_step (first | (go_at_call 23; exact below_same _ (C3.out _ (BelowOf.h _)))))
      refine wpQuiet_nil ?_
      intro _ hw'
      obtain ⟨pq, hw''⟩ := hw'
      subst hw''
      go_wp2
      go_ret
      exact ⟨by rw [HRE.out, HR.out]; rfl, pq.h⟩
    · have HR : Hid ((((g.length : Int) == (k : Int) + 1) && all32 g) = true) := hr
      have h32 : all32 g = true := by simp at hr; exact hr.2
      have hpm : g.length = k + 1 := by simp at hr; omega
      have C4 : Hid (∀ W, Below w.heap.size w W → Calls Tryd.prog 23 #[.slice pa pn pc, .int .i64 ((k : Int) + 1)] W fun e w' => e = .returned (.bool true) ∧ w' = W) := fun W hW => by
        have := C2.out ((k : Int) + 1) W hW
        rwa [hr] at this
      clear hr C2
      obtain ⟨x, y, rfl⟩ : ∃ x y, g = x :: y := by cases g with
        | nil => simp at hpm
        | cons x y => exact ⟨x, y, rfl⟩
      obtain ⟨bp, op, rfl, hpn, hbp, hpc⟩ := HS1.out.at (by simp)
      have hpn' : pn = k + 1 := hpn.trans hpm
      subst hpn'
      have hy : y.length = k := by simpa using hpm
      obtain ⟨xb, hxb⟩ : ∃ xb : ByteArray, xb = bs x := ⟨_, rfl⟩
      have hc0 : w1.cell? ⟨bp, op, none⟩ = some (.string xb) := by rw [hxb]; exact hpc 0 x rfl
      have hx32 : xb.size = 32 := by rw [hxb, bs_size]; exact all32_of h32 x (by simp)
      have hSy : Sl w1 w1.heap.size (.slice (some ⟨bp, op + 1, none⟩) k (pc - 1)) y := by
        refine .inr ⟨bp, op + 1, pc - 1, by rw [hy], hbp, fun j z hj => ?_⟩
        rw [show op + 1 + j = op + (j + 1) by omega]
        exact hpc (j + 1) z (by simpa using hj)
      have C3 : Hid (∀ W, Below w1.heap.size w1 W → Calls Tryd.prog 24 #[.string old, .string root, .string xb, .slice a1 k c1, .slice (some ⟨bp, op + 1, none⟩) k (pc - 1)] W _) := fun W hW => together_c old root xb hx32 way y (by have := HM.out; omega) (by have := HM.out; omega) (fun z hz => all32_of h32 z (by simp [hz])) _ _ k (pc - 1) w1.heap.size W (HK1.out.below HK1.out.1 hW) hW.size (HBL.out.stays hW (Nat.le_refl _)) (hSy.stays hW (Nat.le_refl _))
      have HX : Hid (xb.data.toList = x) := by show _ = _; rw [hxb]
      have hc1 : ∀ p : BelowOf w1.heap.size w1, p.W.cell? ⟨bp, op, none⟩ = some (.string xb) := fun p => (p.h.cell (p := ⟨bp, op, none⟩) hbp).trans hc0
      have hp1 : ¬ pc = 1 := by omega
      clear h32 hpm hpn hpc hxb hSy hx32
      go_wp2_with fail
      refine CI.out.mono ?_
      rintro e w2 ⟨rfl, rfl⟩
      clear CI
      go_upto_region 10 with fail
      refine wp_region_below w2.heap.size w2 (Below.refl _ _) (by kernel_rfl) (by kernel_rfl) ?_
      repeat (go_big_quiet_step (first
        | (go_at_call 23; exact below_same _ (C4.out _ (HB1.out.trans ((BelowOf.h _).mono HB1.out.size))))
        | (go_at_call 24; exact below_call _ (Nat.le_refl _) (C3.out _ (BelowOf.h _)))))
      refine wpQuiet_nil ?_
      intro _ hw'
      obtain ⟨pq, hw''⟩ := hw'
      subst hw''
      go_wp2
      go_ret
      exact ⟨by rw [HRE.out, HR.out, HX.out]; rfl, HB1.out.trans (pq.h.mono HB1.out.size)⟩
end Go.Proofs.YtoldfepeldbcpaaDoor
