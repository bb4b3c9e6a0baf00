/- The cursor's parts, walked, whatever reads a field. -/
import Derived.Test.YtbogggnnmbjlfaaDoorBinRP
namespace Go.Proofs.YtbogggnnmbjlfaaDoor
open Go.RowKit
open Vl (V)
/-- what reading a field off a text says of it and of what is left -/
def PFl (s m : ByteArray) (x : V) (s' : ByteArray) (bad : Bool) : Prop := (bad = false ∧ m.size ≤ 65536 ∧ Bn.fit x ∧ s.data.toList = Bn.text m ++ (Bn.bytes x ++ s'.data.toList)) ∨ (bad = true ∧ s' = ⟨#[]⟩ ∧ Bn.noField s.data.toList)
/-- what is known of a struct's fields that were read -/
def QF (s1 : ByteArray) (l : List (ByteArray × V)) (s' : ByteArray) (bad : Bool) : Prop := (bad = false ∧ Bn.fitF l ∧ l.length ≤ 64 ∧ s1.data.toList = Bn.num l.length ++ (Bn.bytesF l ++ s'.data.toList)) ∨ (bad = true ∧ s' = ⟨#[]⟩ ∧ Bn.noV (7 :: s1.data.toList))
/-- in the middle -/
def QFm (n : Nat) (s1 : ByteArray) (l : List (ByteArray × V)) (s' : ByteArray) (bad : Bool) : Prop := (bad = false ∧ Bn.fitF l ∧ s1.data.toList = Bn.num n ++ (Bn.bytesF l ++ s'.data.toList)) ∨ (bad = true ∧ s' = ⟨#[]⟩ ∧ Bn.noV (7 :: s1.data.toList))
theorem QFm.next {n : Nat} {s1 s3 s' : ByteArray} {l : List (ByteArray × V)} {m : ByteArray} {x : V} {bad : Bool} (h : QFm n s1 l s3 false) (hl : l.length < n) (hx : PFl s3 m x s' bad) : QFm n s1 (l ++ [(m, x)]) s' bad := by
  rcases h with ⟨_, h1, h2⟩ | ⟨h0, _⟩
  · rcases hx with ⟨e, km, k1, k2⟩ | ⟨e, k1, k2⟩
    · refine Or.inl ⟨e, Bn.fitF_snoc l m x h1 km k1, ?_⟩
      rw [h2, k2, Bn.bytesF_snoc]; simp
    · refine Or.inr ⟨e, k1, ?_⟩
      rw [h2]
      refine Bn.noV_struct (fun _ => ?_)
      rw [show n = l.length + (n - l.length) by omega]
      exact Bn.noF_app l _ _ h1 (Bn.noF_now k2 (by omega))
  · cases h0
theorem QFm.small {n : Nat} {s1 s3 : ByteArray} {l : List (ByteArray × V)} {bad : Bool} (h : QFm n s1 l s3 bad) : s3.size ≤ s1.size := by
  rcases h with ⟨_, _, h2⟩ | ⟨_, h2, _⟩
  · rw [Lib.size_eq, Lib.size_eq, h2, List.length_append, List.length_append]; omega
  · rw [h2]; exact Nat.zero_le _
theorem QFm.done {n : Nat} {s1 s3 : ByteArray} {l : List (ByteArray × V)} {bad : Bool} (h : QFm n s1 l s3 bad) (hl : l.length = n) (hn : n ≤ 64) : QF s1 l s3 bad := by
  rcases h with ⟨h0, h1, h2⟩ | h
  · exact Or.inl ⟨h0, h1, by omega, by rw [hl]; exact h2⟩
  · exact Or.inr h
theorem QFm.start {n : Nat} {s1 s2 : ByteArray} {b2 : Bool} (h : (s1.data.toList = Bn.num n ++ s2.data.toList ∧ b2 = false) ∨ (n = 0 ∧ s2 = ⟨#[]⟩ ∧ b2 = true ∧ Bn.noNum s1.data.toList)) : QFm n s1 [] s2 b2 := by
  rcases h with ⟨h1, h2⟩ | ⟨_, h2, h3, h4⟩
  · exact Or.inl ⟨h2, by rw [Bn.fitF]; trivial, by rw [h1, Bn.bytesF, List.nil_append]⟩
  · exact Or.inr ⟨h3, h2, Bn.noV_struct_num h4⟩
set_option maxHeartbeats 2000000 in
set_option maxRecDepth 10000 in
theorem parts82F (w0 : World) (c B v : Nat) (s1 : ByteArray) (hs : s1.size ≤ 65536) (W : World) (h : FSt w0 W c B v (.slice none 0 0) []) (hc : Cur c s1 false W)
    (HC : ∀ lv l s2 W2, l.length ≤ 64 → s2.size ≤ s1.size → FSt w0 W2 c B v lv l → Cur c s2 false W2 → Calls Tryd.prog 84 #[.pointer (some ⟨v, 0, none⟩), .pointer (some ⟨B, 0, none⟩)] W2 fun e w' => e = .returned (.tuple #[]) ∧ ∃ m x lv' s' bad', FSt w0 w' c B v lv' (l ++ [(m, x)]) ∧ Cur c s' bad' w' ∧ PFl s2 m x s' bad') :
    Calls Tryd.prog 82 #[.pointer (some ⟨c, 0, none⟩), .func (.func 84) #[] #[.pointer (some ⟨v, 0, none⟩), .pointer (some ⟨B, 0, none⟩)]] W fun e w' => e = .returned (.tuple #[]) ∧ ∃ l lv s' bad', FSt w0 w' c B v lv l ∧ l.length ≤ 65 ∧ Cur c s' bad' w' ∧ QF s1 l s' bad' := by
  have C80 : Hid (Calls Tryd.prog 80 #[.pointer (some ⟨c, 0, none⟩)] W fun e w' => Curw c W w' ∧ ∃ (n : Nat) (s' : ByteArray) (bad' : Bool), n < 18446744073709551616 ∧ e = .returned (.int .u64 (n : Int)) ∧ Cur c s' bad' w' ∧
      ((s1.data.toList = Bn.num n ++ s'.data.toList ∧ bad' = false) ∨ (n = 0 ∧ s' = ⟨#[]⟩ ∧ bad' = true ∧ Bn.noNum s1.data.toList))) := number80 c s1 (by omega) false W hc
  have HCC : Hid (∀ lv l s2 W2, l.length ≤ 64 → s2.size ≤ s1.size → FSt w0 W2 c B v lv l → Cur c s2 false W2 → Calls Tryd.prog 84 #[.pointer (some ⟨v, 0, none⟩), .pointer (some ⟨B, 0, none⟩)] W2 fun e w' => e = .returned (.tuple #[]) ∧ ∃ m x lv' s' bad', FSt w0 w' c B v lv' (l ++ [(m, x)]) ∧ Cur c s' bad' w' ∧ PFl s2 m x s' bad') := HC
  have HS : Hid (FSt w0 W c B v (.slice none 0 0) []) := h
  clear h hc HC hs
  go_enter Tryd.func82, Tryd.ntmps82
  go_upto_region 1 with (first
    | (go_at_call 80; refine C80.out.mono ?_; rintro e w1 ⟨k1, n, s2, b2, hn, rfl, h1, h2⟩
       have H1 : Hid (Cur c s2 b2 w1) := h1
       have H2 : Hid ((s1.data.toList = Bn.num n ++ s2.data.toList ∧ b2 = false) ∨ (n = 0 ∧ s2 = ⟨#[]⟩ ∧ b2 = true ∧ Bn.noNum s1.data.toList)) := h2
       have S1 : Hid (FSt w0 w1 c B v (.slice none 0 0) []) := HS.out.call k1
       clear h1 h2 k1))
  by_cases hbig : 64 < n
  · have C86 : Hid (Calls Tryd.prog 86 #[.pointer (some ⟨c, 0, none⟩)] w1 fun e w' => e = .returned (.tuple #[]) ∧ Cur c ⟨#[]⟩ true w' ∧ Curw c w1 w') := fail86 c s2 b2 w1 H1.out
    have HNO : Hid (Bn.noV (7 :: s1.data.toList)) := by
      rcases H2.out with ⟨e, _⟩ | ⟨e, _⟩
      · show Bn.noV _
        rw [e]; exact Bn.noV_struct (fun h => by omega)
      · omega
    have hbi : (64 : Int) < (n : Int) := by omega
    have hn0 : (0 : Int) < (n : Int) := by omega
    clear H1 H2 hbig hn
    go_wp2_with (first
      | (go_at_call 86; refine C86.out.mono ?_; rintro e w2 ⟨rfl, h1, k1⟩
         have H3 : Hid (Cur c ⟨#[]⟩ true w2) := h1
         have S2 : Hid (FSt w0 w2 c B v (.slice none 0 0) []) := S1.out.call k1
         have c1 := h1.cells.2.1
         clear h1 k1))
    go_loopw [16] (fun i wr => i = .int .u64 0 ∧ wr = w2) (fun _ _ => 0)
    case atStart => exact ⟨rfl, rfl⟩
    case round =>
      obtain ⟨rfl, rfl⟩ := hrel
      go_wp2
      exact bodyPost_ret (v := .tuple #[]) (results_none (by rfl) _ _ _) rfl ⟨rfl, [], _, _, true, S2.out, by simp, H3.out, Or.inr ⟨rfl, rfl, HNO.out⟩⟩
  · have hn64 : n ≤ 64 := by omega
    have hbi : ¬ (64 : Int) < (n : Int) := by omega
    have HST : Hid (QFm n s1 [] s2 b2) := QFm.start H2.out
    clear H2 hn hbig
    go_wp2
    go_loopw [16] (fun i wr => ∃ (j : Nat) (l : List (ByteArray × V)) (lv : Value) (s3 : ByteArray) (b3 : Bool), j ≤ n ∧ i = .int .u64 j ∧ l.length = j ∧ FSt w0 wr c B v lv l ∧ Cur c s3 b3 wr ∧ QFm n s1 l s3 b3) (fun i _ => n - (intOf i).toNat)
    case atStart => exact ⟨0, [], _, s2, b2, Nat.zero_le _, rfl, rfl, S1.out, H1.out, HST.out⟩
    case round =>
      obtain ⟨j, l, lv, s3, b3, hj, rfl, hl, r1, r2, r3⟩ := hrel
      have R1 : Hid (FSt w0 wr c B v lv l) := r1
      have R2 : Hid (Cur c s3 b3 wr) := r2
      have R3 : Hid (QFm n s1 l s3 b3) := r3
      have HL : Hid (l.length = j) := hl
      have c1 := r2.cells.2.1
      clear r1 r2 r3 hl HST S1 H1
      by_cases hlt : j < n
      · have hlt' : (j : Int) < (n : Int) := by omega
        cases b3 with
        | true =>
          have HP : Hid (QF s1 l s3 true) := by
            rcases R3.out with ⟨e, _⟩ | e
            · cases e
            · exact Or.inr e
          have HL65 : Hid (l.length ≤ 65) := by have := HL.out; show _ ≤ _; omega
          clear R3
          go_wp2
          exact bodyPost_ret (v := .tuple #[]) (results_none (by rfl) _ _ _) rfl ⟨rfl, l, lv, s3, true, R1.out, HL65.out, R2.out, HP.out⟩
        | false =>
          have C84 : Hid (Calls Tryd.prog 84 #[.pointer (some ⟨v, 0, none⟩), .pointer (some ⟨B, 0, none⟩)] wr fun e w' => e = .returned (.tuple #[]) ∧ ∃ m x lv' s' bad', FSt w0 w' c B v lv' (l ++ [(m, x)]) ∧ Cur c s' bad' w' ∧ PFl s3 m x s' bad') := HCC.out lv l s3 wr (by have := HL.out; omega) R3.out.small R1.out R2.out
          go_wp2_with (first
            | (go_at_call 84; refine C84.out.mono ?_; rintro e w4 ⟨rfl, m, x, lv', s4, b4, h1, h2, h3⟩
               have R4 : Hid (FSt w0 w4 c B v lv' (l ++ [(m, x)])) := h1
               have R5 : Hid (Cur c s4 b4 w4) := h2
               have R6 : Hid (QFm n s1 (l ++ [(m, x)]) s4 b4) := QFm.next R3.out (by have := HL.out; omega) h3
               clear h1 h2 h3))
          go_roundw
          case rel => exact ⟨j + 1, l ++ [(m, x)], lv', s4, b4, by omega, by go_num, by rw [List.length_append, HL.out]; rfl, R4.out, R5.out, R6.out⟩
          case measure => simp [intOf]; omega
      · have hjn : j = n := by omega
        subst hjn
        have HP : Hid (QF s1 l s3 b3) := R3.out.done HL.out hn64
        have HL65 : Hid (l.length ≤ 65) := by have := HL.out; show _ ≤ _; omega
        clear R3
        go_wp2
        go_end0
        exact ⟨rfl, l, lv, s3, b3, R1.out, HL65.out, R2.out, HP.out⟩
end Go.Proofs.YtbogggnnmbjlfaaDoor
