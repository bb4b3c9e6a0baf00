/- The cursor's text, walked. -/
import Derived.Test.YtbogggnnmbjlfaaDoorBinCur
import Derived.Test.YtbogggnnmbjlfaaDoorBinK
namespace Go.Proofs.YtbogggnnmbjlfaaDoor
open Go.RowKit
open Vl (V)
theorem Bn.text_of {s : ByteArray} {n : Nat} {r : ByteArray} (h : s.data.toList = Bn.num n ++ r.data.toList) (hn : n ≤ r.size) : s.data.toList = Bn.text (r.extract 0 n) ++ (r.extract n r.size).data.toList ∧ (r.extract 0 n).size = n := by
  have e1 : (r.extract 0 n).size = n := by
    rw [Lib.size_eq, Bn.extract_take, List.length_take, ← Lib.size_eq]; omega
  refine ⟨?_, e1⟩
  rw [Bn.text, e1, Bn.extract_take, Bn.extract_drop, List.append_assoc, List.take_append_drop]
  exact h
set_option maxHeartbeats 2000000 in
set_option maxRecDepth 10000 in
theorem text81 (c : Nat) (s : ByteArray) (hs : s.size ≤ 65536) (bad : Bool) (w : World) (h : Cur c s bad w) :
    Calls Tryd.prog 81 #[.pointer (some ⟨c, 0, none⟩)] w fun e w' => Curw c w w' ∧ ∃ (t s' : ByteArray) (bad' : Bool), t.size ≤ 65536 ∧ e = .returned (.string t) ∧ Cur c s' bad' w' ∧
      ((s.data.toList = Bn.text t ++ s'.data.toList ∧ bad' = bad) ∨ (s' = ⟨#[]⟩ ∧ bad' = true ∧ Bn.noText s.data.toList)) := by
  have C80 : Hid (∀ W, Below w.heap.size w W → Calls Tryd.prog 80 #[.pointer (some ⟨c, 0, none⟩)] W fun e w' => Curw c w w' ∧ ∃ (n : Nat) (s' : ByteArray) (bad' : Bool), n < 18446744073709551616 ∧ e = .returned (.int .u64 (n : Int)) ∧ Cur c s' bad' w' ∧
      ((s.data.toList = Bn.num n ++ s'.data.toList ∧ bad' = bad) ∨ (n = 0 ∧ s' = ⟨#[]⟩ ∧ bad' = true ∧ Bn.noNum s.data.toList))) := fun W hW => (number80 c s (by omega) bad W (h.call hW)).mono (fun e w' ⟨h1, h2⟩ => ⟨(Curw.of hW).trans h1, h2⟩)
  have C78 : Hid (∀ (n : Nat) (s' : ByteArray) (bad' : Bool) W, n < 18446744073709551616 → Cur c s' bad' W → ((s.data.toList = Bn.num n ++ s'.data.toList ∧ bad' = bad) ∨ (n = 0 ∧ s' = ⟨#[]⟩ ∧ bad' = true ∧ Bn.noNum s.data.toList)) → Calls Tryd.prog 78 #[.pointer (some ⟨c, 0, none⟩), .int .u64 (n : Int)] W fun e w' => Curw c W w' ∧ ∃ (t s2 : ByteArray) (bad2 : Bool), t.size ≤ 65536 ∧ e = .returned (.string t) ∧ Cur c s2 bad2 w' ∧
      ((s.data.toList = Bn.text t ++ s2.data.toList ∧ bad2 = bad) ∨ (s2 = ⟨#[]⟩ ∧ bad2 = true ∧ Bn.noText s.data.toList))) := fun n s' bad' W hn hW hor => by
    have hs' : s'.size ≤ s.size := by
      rcases hor with ⟨e, _⟩ | ⟨_, e, _⟩
      · rw [Lib.size_eq, Lib.size_eq, e, List.length_append]; omega
      · rw [e]; exact Nat.zero_le _
    refine (take78 c s' (by omega) bad' n hn W hW).mono (fun e w' ⟨h1, h2⟩ => ⟨h1, ?_⟩)
    rcases h2 with ⟨h3, h4, h5⟩ | ⟨h3, h4, h5⟩
    · refine ⟨_, _, _, by decide, h4, h5, Or.inr ⟨rfl, rfl, ?_⟩⟩
      rcases hor with ⟨e, _⟩ | ⟨e, _⟩
      · rw [e]; exact Bn.noText_short (by rw [← Lib.size_eq]; exact h3)
      · omega
    · refine ⟨_, _, _, ?_, h4, h5, ?_⟩
      · rw [Lib.size_eq, Bn.extract_take, List.length_take, ← Lib.size_eq]; omega
      · rcases hor with ⟨e, e2⟩ | ⟨e, e2, e3, e4⟩
        · exact Or.inl ⟨(Bn.text_of e h3).1, e2⟩
        · exact Or.inr ⟨by rw [e, e2]; rfl, e3, Bn.noText_num e4⟩
  have C60 : Hid (∀ (t : ByteArray) W, t.size ≤ 65536 → Calls Tryd.prog 60 #[.string t] W fun e w' => e = .returned (.string t) ∧ Below W.heap.size W w') := fun t W ht => text50 t W (by omega)
  clear h hs
  go_enter Tryd.func81, Tryd.ntmps81
  go_wp2
  go_region_law (first
    | (go_simp; go_at_call 80; refine (C80.out _ ?_).mono ?_; (first | exact Below.refl _ _ | exact (Below.refl _ _).drew); rintro e w2 ⟨k1, n, s1, b1, hn, rfl, h1, h2⟩
       have H1 : Hid (Cur c s1 b1 w2) := h1
       have H2 : Hid ((s.data.toList = Bn.num n ++ s1.data.toList ∧ b1 = bad) ∨ (n = 0 ∧ s1 = ⟨#[]⟩ ∧ b1 = true ∧ Bn.noNum s.data.toList)) := h2
       have K1 : Hid (Curw c w w2) := k1
       have HN : Hid (n < 18446744073709551616) := hn
       clear h1 h2 k1 hn)
    | (go_simp; go_at_call 78; refine (C78.out _ _ _ _ HN.out H1.out H2.out).mono ?_; rintro e w3 ⟨k1, t, s2, b2, ht, rfl, h1, h2⟩
       have H3 : Hid (Cur c s2 b2 w3) := h1
       have H4 : Hid ((s.data.toList = Bn.text t ++ s2.data.toList ∧ b2 = bad) ∨ (s2 = ⟨#[]⟩ ∧ b2 = true ∧ Bn.noText s.data.toList)) := h2
       have K2 : Hid (Curw c w w3) := K1.out.trans k1
       have HT : Hid (t.size ≤ 65536) := ht
       clear h1 h2 k1 ht)
    | (go_simp; go_at_call 60; refine (C60.out _ _ HT.out).mono ?_; rintro e w4 ⟨rfl, hb⟩
       have H5 : Hid (Cur c s2 b2 w4) := H3.out.call hb
       have K3 : Hid (Curw c w w4) := K2.out.trans (Curw.of hb)
       clear hb))
  all_goals
    go_wp2
    go_ret
    exact ⟨K3.out, t, s2, b2, HT.out, rfl, H5.out, H4.out⟩
end Go.Proofs.YtbogggnnmbjlfaaDoor
