/- The first two texts of one digest. -/
import Derived.Test.YthheebnmdfggnaaDoorMkE
import Derived.Deep.QuietTactic
import Derived.BigQuiet
namespace Go.Proofs.YthheebnmdfggnaaDoor
open Go.RowKit
attribute [local go_sem ↓] Go.wp_at_zero Go.wp_at_succ
namespace Mk
theorem alike_take (a : List Bs) : ∀ (b : List Bs) (k : Nat), a.length = b.length → (∀ j x y, j < k → a[j]? = some x → b[j]? = some y → Sh.sum x ≠ Sh.sum y) → alike a b = alike (a.drop k) (b.drop k) := by
  induction a with
  | nil => intro b k h _; cases b with
    | nil => simp
    | cons => simp at h
  | cons x a ih => intro b k h hk; cases b with
    | nil => simp at h
    | cons y b =>
      cases k with
      | zero => simp
      | succ k =>
        simp only [alike, List.drop_succ_cons]
        rw [if_neg (hk 0 x y (by omega) rfl rfl)]
        exact ih b k (by simpa using h) (fun j u v hj hu hv => hk (j + 1) u v (by omega) (by simpa using hu) (by simpa using hv))
theorem alike_at {a b : List Bs} {k : Nat} {x y : Bs} (h : a.length = b.length) (hk : ∀ j x y, j < k → a[j]? = some x → b[j]? = some y → Sh.sum x ≠ Sh.sum y) (hx : a[k]? = some x) (hy : b[k]? = some y) (e : Sh.sum x = Sh.sum y) : alike a b = some (x, y) := by
  rw [alike_take a b k h hk]
  have ha := List.drop_eq_getElem_cons (List.getElem?_eq_some_iff.1 hx).1
  have hb := List.drop_eq_getElem_cons (List.getElem?_eq_some_iff.1 hy).1
  rw [ha, hb, (List.getElem?_eq_some_iff.1 hx).2, (List.getElem?_eq_some_iff.1 hy).2]
  simp only [alike]
  rw [if_pos e]
theorem alike_none {a b : List Bs} (h : a.length = b.length) (hk : ∀ j x y, j < a.length → a[j]? = some x → b[j]? = some y → Sh.sum x ≠ Sh.sum y) : alike a b = none := by
  rw [alike_take a b a.length h hk, List.drop_length, h, List.drop_length]
  rfl
end Mk
theorem below_drewM {B : Nat} {w W : World} (h : Below B w W) (n : Nat) : Below B w (W.drewN n) := ⟨h.os, h.tape, h.output, h.size, h.block⟩
/-- what is answered -/
def alikeV (o : Option (List UInt8 × List UInt8)) : Value := match o with
  | some (x, y) => .tuple #[.string (bs x), .string (bs y), .bool true]
  | none => .tuple #[.string ⟨#[]⟩, .string ⟨#[]⟩, .bool false]
set_option maxHeartbeats 8000000 in
set_option maxRecDepth 10000 in
theorem firstAlike_c (A B : List (List UInt8)) (n : Nat) (hA : A.length = n) (hB : B.length = n) (hn : n ≤ 1048576) (g cg g2 c2 : Nat) (b1 b2 : Nat) (w : World) (h1 : w.ownsRow b1 51 2 (.slice (some ⟨g, 0, none⟩) n cg) n (mcs A)) (h2 : w.ownsRow b2 51 2 (.slice (some ⟨g2, 0, none⟩) n c2) n (mcs B)) :
    Calls Tryd.prog 38 #[.slice (some ⟨g, 0, none⟩) n cg, .slice (some ⟨g2, 0, none⟩) n c2] w fun e w' => e = .returned (alikeV (Mk.alike A B)) ∧ Below w.heap.size w w' := by
  have lg : g < w.heap.size := (h1.lt g rfl).2
  have lg2 : g2 < w.heap.size := (h2.lt g2 rfl).2
  have HC1 : Hid (∀ W j x, Below w.heap.size w W → A[j]? = some x → W.cell? ⟨g, j * 2, none⟩ = some (.string (bs x)) ∧ W.cell? ⟨g, j * 2 + 1, none⟩ = some (.string (bs (Sh.sum x)))) := fun W j x hW hj => by
    have hjn := (List.getElem?_eq_some_iff.1 hj).1
    rw [hW.cell (p := ⟨g, j * 2, none⟩) lg, hW.cell (p := ⟨g, j * 2 + 1, none⟩) lg, h1.cellAt (j * 2) (by omega), h1.cellAt (j * 2 + 1) (by omega)]
    exact mcs_at A j x hj
  have HC2 : Hid (∀ W j x, Below w.heap.size w W → B[j]? = some x → W.cell? ⟨g2, j * 2, none⟩ = some (.string (bs x)) ∧ W.cell? ⟨g2, j * 2 + 1, none⟩ = some (.string (bs (Sh.sum x)))) := fun W j x hW hj => by
    have hjn := (List.getElem?_eq_some_iff.1 hj).1
    rw [hW.cell (p := ⟨g2, j * 2, none⟩) lg2, hW.cell (p := ⟨g2, j * 2 + 1, none⟩) lg2, h2.cellAt (j * 2) (by omega), h2.cellAt (j * 2 + 1) (by omega)]
    exact mcs_at B j x hj
  have HL : Hid (A.length = n ∧ B.length = n) := ⟨hA, hB⟩
  clear h1 h2 hA hB
  go_enter Tryd.func38, Tryd.ntmps38
  go_wp2
  go_loopw [10] (fun i wr => ∃ k : Nat, k ≤ n ∧ i = .int .i64 (k : Int) ∧ Hid (∀ j x y, j < k → A[j]? = some x → B[j]? = some y → Sh.sum x ≠ Sh.sum y) ∧ Below w.heap.size w wr) (fun i _ => n - (intOf i).toNat)
  case atStart => exact ⟨0, Nat.zero_le _, rfl, fun j x y hj => absurd hj (by omega), Below.refl _ _⟩
  case round =>
    obtain ⟨k, hk, rfl, hno, hb⟩ := hrel
    by_cases hlt : k < n
    · obtain ⟨x, hx⟩ : ∃ x, A[k]? = some x := ⟨_, List.getElem?_eq_getElem (by rw [HL.out.1]; exact hlt)⟩
      obtain ⟨y, hy⟩ : ∃ y, B[k]? = some y := ⟨_, List.getElem?_eq_getElem (by rw [HL.out.2]; exact hlt)⟩
      obtain ⟨xt, hxt⟩ : ∃ s : ByteArray, s = bs x := ⟨_, rfl⟩
      obtain ⟨xd, hxd⟩ : ∃ s : ByteArray, s = bs (Sh.sum x) := ⟨_, rfl⟩
      obtain ⟨yt, hyt⟩ : ∃ s : ByteArray, s = bs y := ⟨_, rfl⟩
      obtain ⟨yd, hyd⟩ : ∃ s : ByteArray, s = bs (Sh.sum y) := ⟨_, rfl⟩
      obtain ⟨e0, e1⟩ := HC1.out wr k x hb hx
      obtain ⟨f0, f1⟩ := HC2.out wr k y hb hy
      rw [← hxt] at e0
      rw [← hxd] at e1
      rw [← hyt] at f0
      rw [← hyd] at f1
      have k0 : (0 : Int) ≤ (k : Int) := by omega
      have k1 : (k : Int) < (n : Int) := by omega
      have HB : Hid (Below w.heap.size w wr) := hb
      have HX : Hid (A[k]? = some x ∧ B[k]? = some y ∧ xt = bs x ∧ yt = bs y) := ⟨hx, hy, hxt, hyt⟩
      have hdd : (xd.toList == yd.toList) = decide (Sh.sum x = Sh.sum y) := by
        rw [Lib.toList_data, Lib.toList_data, hxd, hyd, data_bs, data_bs]
        by_cases h : Sh.sum x = Sh.sum y
        · simp [h]
        · simp [h]
      by_cases hs : Sh.sum x = Sh.sum y
      · have q : (xd.toList == yd.toList) = true := by rw [hdd]; simpa using hs
        have HA : Hid (Mk.alike A B = some (x, y)) := Mk.alike_at (HL.out.1.trans HL.out.2.symm) hno.out hx hy hs
        clear hno hb hx hy hxt hxd hyt hyd hdd hs
        go_wp2
        go_quiet (fail)
        go_wp2
        go_quiet (fail)
        go_wp2
        go_ret3
        refine ⟨?_, below_drewM (below_drewM HB.out _) _⟩
        rw [HA.out]
        show _ = Ending.returned (.tuple #[.string (bs x), .string (bs y), .bool true])
        rw [← HX.out.2.2.1, ← HX.out.2.2.2]
        rfl
      · have q : (xd.toList == yd.toList) = false := by rw [hdd]; simpa using hs
        have HNO : Hid (∀ j x y, j < k + 1 → A[j]? = some x → B[j]? = some y → Sh.sum x ≠ Sh.sum y) := fun j u v hj hu hv => by
          by_cases hjk : j < k
          · exact hno.out j u v hjk hu hv
          · have : j = k := by omega
            subst this
            rw [hx] at hu; rw [hy] at hv
            injection hu with hu; injection hv with hv
            subst hu hv
            exact hs
        clear hno hb hx hy hxt hxd hyt hyd hdd hs
        go_wp2
        go_quiet (fail)
        go_wp2
        go_roundw
        case rel => first | exact ⟨k + 1, by omega, by go_num, HNO, below_drewM HB.out _⟩ | ((repeat apply Exists.intro); exact ⟨⟨k + 1, by omega, by go_num, HNO, below_drewM HB.out _⟩, rfl⟩)
        case measure => simp [intOf]; omega
    · have hkn : k = n := by omega
      subst hkn
      have HA : Hid (Mk.alike A B = none) := Mk.alike_none (HL.out.1.trans HL.out.2.symm) (by rw [HL.out.1]; exact hno.out)
      clear hno
      go_wp2
      go_ret3
      exact ⟨by rw [HA.out]; rfl, hb⟩
end Go.Proofs.YthheebnmdfggnaaDoor
