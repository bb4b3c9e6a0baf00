/- What a path shows, as the program tells. -/
import Derived.Test.YtoldfepeldbcpaaDoorMkE
namespace Go.Proofs.YtoldfepeldbcpaaDoor
open Go.RowKit
namespace Mk
/-- whether a path shows that a text is the one at i of n under a root -/
def showsZ (r s : Bs) (i n : Int) (p : List Bs) : Bool :=
  decide (0 ≤ i) && decide (i < n) && decide (n ≤ 1024) && (((p.length : Int) == ((tw e1 (i.toNat + 1) n.toNat).length : Int)) && all32 p) && (climb (leaf s) (tw e1 (i.toNat + 1) n.toNat).reverse p == r)
theorem showsZ_out {r s : Bs} {i n : Int} {p : List Bs} (h : ¬ (0 ≤ i ∧ i < n ∧ n ≤ 1024)) : showsZ r s i n p = false := by
  unfold showsZ
  by_cases h1 : 0 ≤ i
  · by_cases h2 : i < n
    · have h3 : ¬ n ≤ 1024 := fun e => h ⟨h1, h2, e⟩
      simp [h3]
    · simp [h2]
  · simp [h1]
theorem showsZ_in {r s : Bs} {i n : Nat} {p : List Bs} (h1 : i < n) (h2 : n ≤ 1024) : showsZ r s (i : Int) (n : Int) p = ((((p.length : Int) == ((tw e1 (i + 1) n).length : Int)) && all32 p) && (climb (leaf s) (tw e1 (i + 1) n).reverse p == r)) := by
  have a : decide ((0 : Int) ≤ (i : Int)) = true := by simp
  have b : decide ((i : Int) < (n : Int)) = true := by simp; omega
  have c : decide ((n : Int) ≤ 1024) = true := by simp; omega
  rw [showsZ, a, b, c]
  simp
end Mk
set_option maxHeartbeats 2000000 in
theorem shows_out (r s : ByteArray) (i n : Int) (pv : Value) (h : ¬ (0 ≤ i ∧ i < n ∧ n ≤ 1024)) (w : World) :
    Calls Tryd.prog 16 #[.string r, .string s, .int .i64 i, .int .i64 n, pv] w fun e w' => e = .returned (.bool false) ∧ w = w' := by
  by_cases h1 : 0 ≤ i
  · by_cases h2 : i < n
    · have h3 : ¬ n ≤ 1024 := fun e => h ⟨h1, h2, e⟩
      clear h
      go_enter Tryd.func16, Tryd.ntmps16
      go_wp2
      all_goals first | (exfalso; omega) | (go_ret; exact ⟨rfl, rfl⟩)
    · clear h
      go_enter Tryd.func16, Tryd.ntmps16
      go_wp2
      all_goals first | (exfalso; omega) | (go_ret; exact ⟨rfl, rfl⟩)
  · clear h
    go_enter Tryd.func16, Tryd.ntmps16
    go_wp2
    all_goals first | (exfalso; omega) | (go_ret; exact ⟨rfl, rfl⟩)
set_option maxHeartbeats 2000000 in
theorem shows_in (r s : ByteArray) (hs : s.size ≤ 140737488355328) (i n : Nat) (hi : i < n) (hn : n ≤ 1024) (pa : Option Addr) (pn pc : Nat) (path : List (List UInt8)) (hpl : path.length ≤ 9223372036854775807) (H : Nat) (w : World) (hK : HasK w) (hH : H ≤ w.heap.size) (hS : Sl w H (.slice pa pn pc) path) :
    Calls Tryd.prog 16 #[.string r, .string s, .int .i64 (i : Int), .int .i64 (n : Int), .slice pa pn pc] w fun e w' => e = .returned (.bool (Mk.showsZ r.data.toList s.data.toList i n path)) ∧ Below w.heap.size w w' := by
  rw [Mk.showsZ_in hi hn]
  obtain ⟨way, hway⟩ : ∃ way, way = Mk.tw Mk.e1 (i + 1) n := ⟨_, rfl⟩
  rw [← hway]
  have hlen : way.length ≤ 10 := by rw [hway]; exact Mk.tw_len _ 10 _ _ (by omega)
  have hii : (0 : Int) ≤ (i : Int) := by omega
  have hi1 : ¬ (n : Int) ≤ (i : Int) := by omega
  have hi2 : (i : Int) < (n : Int) := by omega
  have hn1 : (n : Int) ≤ 1024 := by omega
  have C1 : Hid (Calls Tryd.prog 26 #[.int .i64 (i : Int), .int .i64 (n : Int)] w fun e w' => ∃ v, e = .returned v ∧ w'.ownsRow w.heap.size 4 1 v way.length (bcs way) ∧ Below w.heap.size w w') := by
    show Calls _ _ _ _ _
    rw [hway]; exact toText_c i n hi hn w
  have C2 : Hid (∀ many W, Below w.heap.size w W → Calls Tryd.prog 23 #[.slice pa pn pc, .int .i64 many] W fun e w' => e = .returned (.bool (((path.length : Int) == many) && all32 path)) ∧ w' = W) := fun many W hW => right_c pa pc pn H path many hpl W (hS.stays hW hH)
  have HK : Hid (HasK w) := hK
  have HS : Hid (Sl w H (.slice pa pn pc) path) := hS
  obtain ⟨m, hm⟩ : ∃ m, m = way.length := ⟨_, rfl⟩
  rw [← hm] at hlen
  have HM : Hid (m = way.length) := hm
  rw [← hm] at C1 ⊢
  clear hway hS hK hm
  go_enter Tryd.func16, Tryd.ntmps16
  go_wp2_with fail
  refine C1.out.mono ?_
  rintro e w1 ⟨v, rfl, ho, hb⟩
  have HBL : Hid (Bl w1 w1.heap.size v way) := own_bl (base := w.heap.size) (by rw [← HM.out]; exact ho)
  have HB1 : Hid (Below w.heap.size w w1) := hb
  obtain ⟨a1, c1, hv1⟩ := HBL.out.form
  rw [← HM.out] at hv1
  subst hv1
  clear ho hb C1
  go_wp2_with fail
  refine (C2.out _ _ HB1.out).mono ?_
  rintro e w2 ⟨rfl, rfl⟩
  cases hr : (((path.length : Int) == (m : Int)) && all32 path)
  · have HR : Hid ((((path.length : Int) == (m : Int)) && all32 path) = false) := hr
    clear hr C2
    go_wp2
    go_ret
    exact ⟨by rw [HR.out]; rfl, HB1.out⟩
  · have HR : Hid ((((path.length : Int) == (m : Int)) && all32 path) = true) := hr
    have h32 : all32 path = true := by simp at hr; exact hr.2
    have hpm : path.length = m := by simp at hr; omega
    obtain ⟨t, ht⟩ : ∃ t, t = Mk.leafT s.data.toList := ⟨_, rfl⟩
    have C3 : Hid (Calls Tryd.prog 33 #[.string s, .slice a1 m c1, .slice pa pn pc] w2 fun e w' => ∃ v', e = .returned v' ∧ w'.ownsRow w2.heap.size 78 2 v' (m + 1) (mcs (Mk.chainT t way.reverse path)) ∧ Below w2.heap.size w2 w') := by
      show Calls _ _ _ _ _
      rw [HM.out, ht]
      have hsz := HB1.out.size
      exact chain_c s hs way path (by rw [← HM.out]; omega) (by rw [← HM.out]; omega) (all32_of h32) _ _ _ _ w2.heap.size w2 (HK.out.below HK.out.1 HB1.out) (Nat.le_refl _) (by rw [← HM.out]; exact HBL.out) ((HS.out.stays HB1.out hH).mono (by omega))
    obtain ⟨la, hla⟩ : ∃ la, la = Mk.lastT t way.reverse path := ⟨_, rfl⟩
    obtain ⟨ld, hld⟩ : ∃ ld : ByteArray, ld = bs (Sh.sum la) := ⟨_, rfl⟩
    have hat : (Mk.chainT t way.reverse path)[m]? = some la := by
      have := Mk.chainT_last way.reverse path t (by rw [List.length_reverse, ← HM.out]; omega)
      rw [List.length_reverse, ← HM.out, ← hla] at this
      exact this
    have HAT : Hid ((mcs (Mk.chainT t way.reverse path))[m * 2 + 1]? = some (.string ld)) := by
      show _ = _
      rw [(mcs_at _ m la hat).2, hld]
    have hcl : (Mk.climb (Mk.leaf s.data.toList) way.reverse path == r.data.toList) = (ld.toList == r.toList) := by
      rw [Lib.toList_data, Lib.toList_data, hld, data_bs, hla, ← Mk.climb_last, ht]
      rfl
    have HCL : Hid ((Mk.climb (Mk.leaf s.data.toList) way.reverse path == r.data.toList) = (ld.toList == r.toList)) := hcl
    clear hr C2 h32 hpm ht hla hld hat hcl
    go_wp2_with fail
    refine C3.out.mono ?_
    rintro e w3 ⟨v', rfl, ho3, hb3⟩
    have HB3 : Hid (Below w.heap.size w w3) := HB1.out.trans (hb3.mono HB1.out.size)
    obtain ⟨g, cap, hv3⟩ : ∃ g cap, v' = .slice (some ⟨g, 0, none⟩) (m + 1) cap := by
      rcases ho3.2 with ⟨_, h⟩ | ⟨g, cap, cur, h, _⟩
      · omega
      · exact ⟨g, cap, h⟩
    subst hv3
    have hcd : w3.cell? ⟨g, m * 2 + 1, none⟩ = some (.string ld) := by rw [ho3.cellAt (m * 2 + 1) (by omega)]; exact HAT.out
    clear ho3 hb3 C3
    go_wp2
    go_ret
    refine ⟨?_, HB3.out⟩
    rw [HCL.out, HR.out]
    rfl
theorem shows_c (r s : ByteArray) (hs : s.size ≤ 140737488355328) (i n : Int) (pa : Option Addr) (pn pc : Nat) (path : List (List UInt8)) (hpl : path.length ≤ 9223372036854775807) (H : Nat) (w : World) (hK : HasK w) (hH : H ≤ w.heap.size) (hS : Sl w H (.slice pa pn pc) path) :
    Calls Tryd.prog 16 #[.string r, .string s, .int .i64 i, .int .i64 n, .slice pa pn pc] w fun e w' => e = .returned (.bool (Mk.showsZ r.data.toList s.data.toList i n path)) ∧ Below w.heap.size w w' := by
  by_cases h : 0 ≤ i ∧ i < n ∧ n ≤ 1024
  · obtain ⟨i', rfl⟩ := Int.eq_ofNat_of_zero_le h.1
    obtain ⟨n', rfl⟩ := Int.eq_ofNat_of_zero_le (show 0 ≤ n by omega)
    exact shows_in r s hs i' n' (by omega) (by omega) pa pn pc path hpl H w hK hH hS
  · rw [Mk.showsZ_out h]
    exact (shows_out r s i n _ h w).mono fun e w' ⟨a, b⟩ => ⟨a, by rw [b]; exact Below.refl _ _⟩
end Go.Proofs.YtoldfepeldbcpaaDoor
