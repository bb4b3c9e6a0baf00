/- What kinds of values say of what was read. -/
import Derived.Test.YtbogggnnmbjlfaaDoorBinVS
namespace Go.Proofs.YtbogggnnmbjlfaaDoor
open Go.RowKit
open Vl (V)
namespace Bn
theorem fit_flat {k : Nat} {b : Bool} {n : Int} {s : ByteArray} (hk : k ≤ 4) (hb : k ≠ 1 → b = false) (hn : k ≠ 2 → n = 0) (hs : k ≠ 3 → k ≠ 4 → s = ⟨#[]⟩) (hr : -9223372036854775808 ≤ n ∧ n ≤ 9223372036854775807) (hz : s.size ≤ 65536) : fit ⟨k, b, n, s, [], []⟩ := by
  rw [fit]
  exact ⟨by omega, hb, hn, hs, fun _ => rfl, fun _ => rfl, hr, hz, by simp, by simp, by rw [fitL]; trivial, by rw [fitF]; trivial⟩
theorem split1 {s : ByteArray} (h : s.size ≠ 0) : ∃ b, s.data.toList = b :: (s.extract 1 s.size).data.toList ∧ (s.extract 0 1).data.toList = [b] := by
  rw [extract_drop, extract_take]
  have hl : s.data.toList.length ≠ 0 := by rw [← Lib.size_eq]; exact h
  match hd : s.data.toList, hl with
  | b :: r, _ => exact ⟨b, by simp, by simp⟩
end Bn
theorem PV.zero {s s1 : ByteArray} {b : UInt8} (h : s.data.toList = b :: s1.data.toList) (hb : b.toNat = 0) : PV s ⟨0, false, 0, ⟨#[]⟩, [], []⟩ s1 false := by
  obtain rfl : b = 0 := UInt8.toNat_inj.1 hb
  exact Or.inl ⟨rfl, Bn.fit_flat (by omega) (fun _ => rfl) (fun _ => rfl) (fun _ _ => rfl) (by omega) (by decide), by rw [h, Bn.bytes]; rfl⟩
theorem PV.no {s s1 : ByteArray} {b : UInt8} (h : s.data.toList = b :: s1.data.toList) (hb : b.toNat = 1) : PV s ⟨1, false, 0, ⟨#[]⟩, [], []⟩ s1 false := by
  obtain rfl : b = 1 := UInt8.toNat_inj.1 hb
  exact Or.inl ⟨rfl, Bn.fit_flat (by omega) (fun _ => rfl) (fun _ => rfl) (fun _ _ => rfl) (by omega) (by decide), by rw [h, Bn.bytes]; rfl⟩
theorem PV.yes {s s1 : ByteArray} {b : UInt8} (h : s.data.toList = b :: s1.data.toList) (hb : b.toNat = 2) : PV s ⟨1, true, 0, ⟨#[]⟩, [], []⟩ s1 false := by
  obtain rfl : b = 2 := UInt8.toNat_inj.1 hb
  exact Or.inl ⟨rfl, Bn.fit_flat (by omega) (fun h => absurd rfl h) (fun _ => rfl) (fun _ _ => rfl) (by omega) (by decide), by rw [h, Bn.bytes]; rfl⟩
theorem PV.int {s s1 s2 : ByteArray} {b : UInt8} {b2 : Bool} {n : Nat} (hn : n < 18446744073709551616) (h : s.data.toList = b :: s1.data.toList) (hb : b.toNat = 3)
    (k : (s1.data.toList = Bn.num n ++ s2.data.toList ∧ b2 = false) ∨ (n = 0 ∧ s2 = ⟨#[]⟩ ∧ b2 = true ∧ Bn.noNum s1.data.toList)) : PV s ⟨2, false, Bn.zag n, ⟨#[]⟩, [], []⟩ s2 b2 := by
  obtain rfl : b = 3 := UInt8.toNat_inj.1 hb
  obtain ⟨z1, z2, z3⟩ := Bn.zag_fold hn
  rcases k with ⟨k1, k2⟩ | ⟨_, k1, k2, k3⟩
  · refine Or.inl ⟨k2, Bn.fit_flat (by omega) (fun _ => rfl) (fun h => absurd rfl h) (fun _ _ => rfl) ⟨z2, z3⟩ (by decide), ?_⟩
    rw [h, k1, Bn.bytes]
    simp only [show ¬ (2 : Nat) = 0 by omega, show ¬ (2 : Nat) = 1 by omega, if_false, if_true, z1]
    rfl
  · exact Or.inr ⟨k2, k1, by rw [h]; exact Bn.noV_int k3⟩
theorem PV.text {s s1 s2 t : ByteArray} {b : UInt8} {b2 : Bool} {q : Nat} (hq : q = 3 ∨ q = 4) (ht : t.size ≤ 65536) (h : s.data.toList = b :: s1.data.toList) (hb : b.toNat = q + 1)
    (k : (s1.data.toList = Bn.text t ++ s2.data.toList ∧ b2 = false) ∨ (s2 = ⟨#[]⟩ ∧ b2 = true ∧ Bn.noText s1.data.toList)) : PV s ⟨q, false, 0, t, [], []⟩ s2 b2 := by
  rcases k with ⟨k1, k2⟩ | ⟨k1, k2, k3⟩
  · refine Or.inl ⟨k2, Bn.fit_flat (by omega) (fun _ => rfl) (fun _ => rfl) (fun h1 h2 => by omega) (by omega) ht, ?_⟩
    rw [h, k1, Bn.bytes]
    rcases hq with rfl | rfl
    · obtain rfl : b = 4 := UInt8.toNat_inj.1 hb
      rfl
    · obtain rfl : b = 5 := UInt8.toNat_inj.1 hb
      rfl
  · exact Or.inr ⟨k2, k1, by rw [h]; exact Bn.noV_text (by omega) k3⟩
theorem PV.list {s s1 s2 : ByteArray} {b : UInt8} {b2 : Bool} {l : List V} (h : s.data.toList = b :: s1.data.toList) (hb : b.toNat = 6) (k : PL s1 l s2 b2) : PV s ⟨5, false, 0, ⟨#[]⟩, l, []⟩ s2 b2 := by
  obtain rfl : b = 6 := UInt8.toNat_inj.1 hb
  rcases k with ⟨k1, k2, k3, k4⟩ | ⟨k1, k2, k3⟩
  · refine Or.inl ⟨k1, ?_, ?_⟩
    · rw [Bn.fit]
      exact ⟨by omega, fun _ => rfl, fun _ => rfl, fun _ _ => rfl, fun h => absurd rfl h, fun _ => rfl, by omega, by decide, k3, by simp, k2, by rw [Bn.fitF]; trivial⟩
    · rw [h, k4, Bn.bytes]
      simp
  · exact Or.inr ⟨k1, k2, by rw [h]; exact k3⟩
theorem PV.struct {s s1 s2 : ByteArray} {b : UInt8} {b2 : Bool} {l : List (ByteArray × V)} (h : s.data.toList = b :: s1.data.toList) (hb : b.toNat = 7) (k : QF s1 l s2 b2) : PV s ⟨6, false, 0, ⟨#[]⟩, [], l⟩ s2 b2 := by
  obtain rfl : b = 7 := UInt8.toNat_inj.1 hb
  rcases k with ⟨k1, k2, k3, k4⟩ | ⟨k1, k2, k3⟩
  · refine Or.inl ⟨k1, ?_, ?_⟩
    · rw [Bn.fit]
      exact ⟨by omega, fun _ => rfl, fun _ => rfl, fun _ _ => rfl, fun _ => rfl, fun h => absurd rfl h, by omega, by decide, by simp, k3, by rw [Bn.fitL]; trivial, k2⟩
    · rw [h, k4, Bn.bytes]
      simp
  · exact Or.inr ⟨k1, k2, by rw [h]; exact k3⟩
end Go.Proofs.YtbogggnnmbjlfaaDoor
