/- Texts as lists of bytes: their parts; clones, beginnings, signs, walked. -/
import Derived.Test.YtdejnphiejkglaaGreatDoorLxC
namespace Go.Proofs.YtdejnphiejkglaaGreatDoor
open Go.RowKit
namespace Lx
def bs (l : Bs) : ByteArray := ⟨l.toArray⟩
theorem bs_size (l : Bs) : (bs l).size = l.length := by simp [bs, ByteArray.size]
theorem bs_data (l : Bs) : (bs l).data.toList = l := by simp [bs]
theorem bs_toList (l : Bs) : (bs l).toList = l := by rw [Go.ByteArray.toList_eq, bs_data]
theorem bs_of (s : ByteArray) : bs s.data.toList = s := by cases s; simp [bs]
theorem extract_to (l : Bs) (k : Nat) : (bs l).extract 0 k = bs (l.take k) := by
  apply ByteArray.ext
  rw [ByteArray.data_extract]
  simp [bs]
theorem extract_from (l : Bs) (k n : Nat) (hn : n = l.length) : (bs l).extract k n = bs (l.drop k) := by
  apply ByteArray.ext
  subst hn
  rw [ByteArray.data_extract]
  simp [bs]
  exact List.take_of_length_le (by rw [List.length_drop]; exact Nat.le_refl _)
/-- the first bytes -/
theorem slice_to (l : Bs) (j : Int) (k : Nat) (hj : j = (k : Int)) (hk : k ≤ l.length) (wx : World) :
    (Instr.slice 9 (.string (bs l)) none (some (.int .i64 j)) none).run Tryz.prog wx = .ok (.string (bs (l.take k))) wx := by
  subst hj
  rw [run_slice_string_to_if (P := Tryz.prog) wx 9 (bs l) .i64 k Tryz.underlying9, if_pos ⟨by omega, by rw [bs_size]; omega⟩, Int.toNat_natCast, extract_to]
/-- the bytes from a place on -/
theorem slice_from (l : Bs) (j : Int) (k : Nat) (hj : j = (k : Int)) (hk : k ≤ l.length) (wx : World) :
    (Instr.slice 9 (.string (bs l)) (some (.int .i64 j)) none none).run Tryz.prog wx = .ok (.string (bs (l.drop k))) wx := by
  subst hj
  rw [run_slice_string_from_if (P := Tryz.prog) wx 9 (bs l) .i64 k Tryz.underlying9, if_pos ⟨by omega, by rw [bs_size]; omega⟩, Int.toNat_natCast, bs_size, extract_from _ _ _ rfl]
theorem index_at (l : Bs) (j : Int) (k : Nat) (b : UInt8) (hj : j = (k : Int)) (hb : l[k]? = some b) (wx : World) :
    (Instr.index 9 (.string (bs l)) (.int .i64 j)).run Tryz.prog wx = .ok (.int .u8 ((b.toNat : Nat) : Int)) wx := by
  subst hj
  obtain ⟨hk, e⟩ := List.getElem?_eq_some_iff.1 hb
  rw [index_byte (bs l) k (by omega) (by rw [bs_size]; omega) wx, bs_data, Int.toNat_natCast, List.getD_eq_getElem?_getD, hb]
  rfl
theorem index_has : ∀ (l : Bs) (c : UInt8), -1 ≤ Lib.indexByte l c ∧ decide (0 ≤ Lib.indexByte l c) = l.contains c
  | [], c => ⟨Int.le_refl (-1), rfl⟩
  | b :: l, c => by
    have ih := index_has l c
    rw [Lib.indexByte, List.contains_cons, ← ih.2]
    by_cases h : b == c
    · rw [if_pos h]
      have h' : (c == b) = true := by rw [beq_iff_eq] at h ⊢; exact h.symm
      rw [h']
      exact ⟨by decide, rfl⟩
    · rw [if_neg h]
      have h' : (c == b) = false := by
        rw [beq_eq_false_iff_ne]
        intro e; exact h (by rw [e]; exact beq_self_eq_true _)
      rw [h', Bool.false_or]
      by_cases h2 : Lib.indexByte l c == -1
      · rw [if_pos h2]
        rw [beq_iff_eq] at h2
        rw [h2]
        exact ⟨by decide, rfl⟩
      · rw [if_neg h2]
        rw [beq_iff_eq] at h2
        have h3 := ih.1
        refine ⟨by omega, ?_⟩
        rw [decide_eq_true (by omega : 0 ≤ Lib.indexByte l c + 1), decide_eq_true (by omega : 0 ≤ Lib.indexByte l c)]
/-- whether a text begins with two bytes -/
def pre2 (a b : UInt8) : Bs → Bool
  | x :: y :: _ => x == a && y == b
  | _ => false
end Lx
set_option maxHeartbeats 1000000 in
theorem sclone_c (s : ByteArray) (hs : s.size ≤ 140737488351232) (w : World) : Calls Tryz.prog 18 #[.string s] w fun e w' => e = .returned (.string s) ∧ Below w.heap.size w w' := by
  go_enter Tryz.func18, Tryz.ntmps18
  go_wp2_with (go_at_call 44; refine (Tryz.stringslite_Clone s _ (by omega)).mono ?_; rintro e w' ⟨rfl, hb⟩)
  go_ret
  exact ⟨rfl, hb⟩
set_option maxHeartbeats 1000000 in
theorem litePrefix_c (l : Lx.Bs) (a b : UInt8) (w : World) : Calls Tryz.prog 62 #[.string (Lx.bs l), .string ⟨#[a, b]⟩] w fun e w' => e = .returned (.bool (Lx.pre2 a b l)) ∧ w' = w := by
  have hsz : ((Lx.bs l).size : Int) = (l.length : Int) := by rw [Lx.bs_size]
  have hp2 : ((⟨#[a, b]⟩ : ByteArray).size : Int) = 2 := rfl
  go_enter Tryz.func62, Tryz.ntmps62
  match l, hsz with
  | [], hsz =>
    have q : ¬ (2 : Int) ≤ ((Lx.bs []).size : Int) := by rw [hsz]; decide
    go_wp2
    go_ret
    exact ⟨rfl, rfl⟩
  | [x], hsz =>
    have q : ¬ (2 : Int) ≤ ((Lx.bs [x]).size : Int) := by rw [hsz]; simp
    go_wp2
    go_ret
    exact ⟨rfl, rfl⟩
  | x :: y :: r, hsz =>
    have q : (2 : Int) ≤ ((Lx.bs (x :: y :: r)).size : Int) := by rw [hsz]; simp; omega
    have hsl := fun wx => Lx.slice_to (x :: y :: r) 2 2 rfl (by simp) wx
    simp only [List.take_succ_cons, List.take_zero] at hsl
    have hL : (Lx.bs [x, y]).toList = [x, y] := Lx.bs_toList _
    go_wp2
    go_ret
    exact ⟨rfl, rfl⟩
theorem hasPrefix_c (l : Lx.Bs) (a b : UInt8) (w : World) : Calls Tryz.prog 50 #[.string (Lx.bs l), .string ⟨#[a, b]⟩] w fun e w' => e = .returned (.bool (Lx.pre2 a b l)) ∧ w' = w := by
  go_enter Tryz.func50, Tryz.ntmps50
  go_wp2_with (go_at_call 62; refine (litePrefix_c l a b _).mono ?_; rintro e w' ⟨rfl, rfl⟩)
  go_ret
  exact ⟨rfl, rfl⟩
namespace Lx
def signs : Bs := [61, 60, 62, 43, 45, 42, 40, 41, 91, 93, 123, 125, 44, 58, 46]
/-- how many bytes the sign has that a text begins with -/
def sgn : Bs → Nat
  | [] => 0
  | x :: r => if pre2 60 62 (x :: r) || pre2 60 61 (x :: r) || pre2 62 61 (x :: r) then 2 else if signs.contains x then 1 else 0
end Lx
set_option maxHeartbeats 1000000 in
theorem signSize_c (x : UInt8) (r : Lx.Bs) (w : World) : Calls Tryz.prog 32 #[.string (Lx.bs (x :: r))] w fun e w' => e = .returned (.int .i64 ((Lx.sgn (x :: r) : Nat) : Int)) ∧ w' = w := by
  have CP : Hid (∀ (a b : UInt8) (W : World), Calls Tryz.prog 50 #[.string (Lx.bs (x :: r)), .string ⟨#[a, b]⟩] W fun e w' => e = .returned (.bool (Lx.pre2 a b (x :: r))) ∧ w' = W) := fun a b W => hasPrefix_c (x :: r) a b W
  obtain ⟨l, hl⟩ : ∃ l, l = Lx.bs (x :: r) := ⟨_, rfl⟩
  obtain ⟨y, hy⟩ : ∃ y : ByteArray, y = ⟨#[x]⟩ := ⟨_, rfl⟩
  have hsl : ∀ wx, (Instr.slice 9 (.string l) none (some (.int .i64 1)) none).run Tryz.prog wx = .ok (.string y) wx := fun wx => by
    rw [hl, hy]; exact Lx.slice_to (x :: r) 1 1 rfl (by simp) wx
  obtain ⟨c, hc⟩ : ∃ c, c = Lx.signs.contains x := ⟨_, rfl⟩
  have CC : Hid (∀ W : World, Calls Tryz.prog 51 #[.string { data := #[61, 60, 62, 43, 45, 42, 40, 41, 91, 93, 123, 125, 44, 58, 46] }, .string y] W fun e w' => e = .returned (.bool c) ∧ w' = W) := fun W => by
    have h := Tryz.strings_Contains_one { data := #[61, 60, 62, 43, 45, 42, 40, 41, 91, 93, 123, 125, 44, 58, 46] } x W
    rw [hy]
    refine h.mono ?_
    rintro e w' ⟨rfl, rfl⟩
    refine ⟨?_, rfl⟩
    rw [hc]
    rw [(Lx.index_has _ x).2]
    rfl
  obtain ⟨p1, h1⟩ : ∃ p1, p1 = Lx.pre2 60 62 (x :: r) := ⟨_, rfl⟩
  obtain ⟨p2, h2⟩ : ∃ p2, p2 = Lx.pre2 60 61 (x :: r) := ⟨_, rfl⟩
  obtain ⟨p3, h3⟩ : ∃ p3, p3 = Lx.pre2 62 61 (x :: r) := ⟨_, rfl⟩
  have C1 : Hid (∀ W : World, Calls Tryz.prog 50 #[.string l, .string ⟨#[60, 62]⟩] W fun e w' => e = .returned (.bool p1) ∧ w' = W) := fun W => by rw [h1, hl]; exact CP.out 60 62 W
  have C2 : Hid (∀ W : World, Calls Tryz.prog 50 #[.string l, .string ⟨#[60, 61]⟩] W fun e w' => e = .returned (.bool p2) ∧ w' = W) := fun W => by rw [h2, hl]; exact CP.out 60 61 W
  have C3 : Hid (∀ W : World, Calls Tryz.prog 50 #[.string l, .string ⟨#[62, 61]⟩] W fun e w' => e = .returned (.bool p3) ∧ w' = W) := fun W => by rw [h3, hl]; exact CP.out 62 61 W
  have HR : Hid (Lx.sgn (x :: r) = if p1 || p2 || p3 then 2 else if c then 1 else 0) := by show _ = _; rw [Lx.sgn, h1, h2, h3, hc]
  rw [← hl]
  clear CP hl hy hc h1 h2 h3
  go_enter Tryz.func32, Tryz.ntmps32
  go_wp2_with fail
  refine (C1.out _).mono ?_
  rintro e w1 ⟨rfl, rfl⟩
  cases p1 with
  | true =>
    go_wp2
    go_ret
    exact ⟨by rw [HR.out]; rfl, rfl⟩
  | false =>
    go_wp2_with fail
    refine (C2.out _).mono ?_
    rintro e w2 ⟨rfl, rfl⟩
    cases p2 with
    | true =>
      go_wp2
      go_ret
      exact ⟨by rw [HR.out]; rfl, rfl⟩
    | false =>
      go_wp2_with fail
      refine (C3.out _).mono ?_
      rintro e w3 ⟨rfl, rfl⟩
      cases p3 with
      | true =>
        go_wp2
        go_ret
        exact ⟨by rw [HR.out]; rfl, rfl⟩
      | false =>
        go_wp2_with fail
        refine (CC.out _).mono ?_
        rintro e w4 ⟨rfl, rfl⟩
        cases c with
        | true =>
          go_wp2
          go_ret
          exact ⟨by rw [HR.out]; rfl, rfl⟩
        | false =>
          go_wp2
          go_ret
          exact ⟨by rw [HR.out]; rfl, rfl⟩
end Go.Proofs.YtdejnphiejkglaaGreatDoor
