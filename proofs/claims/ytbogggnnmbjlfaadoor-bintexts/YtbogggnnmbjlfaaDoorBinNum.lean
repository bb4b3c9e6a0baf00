/- What bin.Number makes of a number: seven bits a byte, the lowest first. -/
import Derived.Test.YtbogggnnmbjlfaaDoorRep
import Derived.OwnWalk
import Derived.Deep.AppendLies
import Derived.Laws.BitsAllLaws
import Derived.Laws.IdiomStrings
import Derived.Laws.OwnMore
import Derived.Lib.UnsafeStr
namespace Go.Proofs.YtbogggnnmbjlfaaDoor
open Go.RowKit
namespace Bn
/-- a number's bytes -/
def num (n : Nat) : List UInt8 := if n < 128 then [UInt8.ofNat n] else UInt8.ofNat (n % 128 + 128) :: num (n / 128)
theorem num_low {n : Nat} (h : n < 128) : num n = [UInt8.ofNat n] := by rw [num, if_pos h]
theorem num_high {n : Nat} (h : 128 ≤ n) : num n = UInt8.ofNat (n % 128 + 128) :: num (n / 128) := by rw [num, if_neg (by omega)]
theorem len_le {l m : Nat} (h : (m + 1) * 2 ^ l ≤ 18446744073709551616) : l ≤ 64 := by
  have h1 : 2 ^ l ≤ 2 ^ 64 := Nat.le_trans (Nat.le_mul_of_pos_left _ (by omega)) h
  exact (Nat.pow_le_pow_iff_right (by decide)).1 h1
theorem len_next {l m : Nat} (hm : 128 ≤ m) (h : (m + 1) * 2 ^ l ≤ 18446744073709551616) : (m / 128 + 1) * 2 ^ (l + 1) ≤ 18446744073709551616 := by
  refine Nat.le_trans ?_ h
  rw [Nat.pow_succ, Nat.mul_comm (2 ^ l) 2, ← Nat.mul_assoc]
  exact Nat.mul_le_mul_right _ (by omega)
theorem or128 (m : Nat) : bits .or .u8 ((m : Int) % 256) 128 = ((m % 128 + 128 : Nat) : Int) := by
  have e : ((m : Int) % 256) = ((m % 256 : Nat) : Int) := by omega
  rw [e, show (128 : Int) = ((128 : Nat) : Int) from rfl, u8_or_nat _ _ (by omega) (by decide)]
  have : ∀ a : Fin 256, (a.val ||| 128 : Nat) = a.val % 128 + 128 := by decide +kernel
  have h := this ⟨m % 256, by omega⟩
  simp only at h
  rw [h]
  congr 2
  omega
theorem info5 : (Tryd.prog.info? 5).map (fun i => (i.zero, i.size, i.bytes)) = some (some (.int .u8 0), 1, 1) := by kernel_rfl
theorem block_le {w : World} {base n : Nat} {v : Value} {xs : List Value} (h : w.ownsRow base 5 1 v n xs) : ∀ k, v.ownBlock = some k → base ≤ k := by
  intro k hk
  rcases h.2 with ⟨rfl, _⟩ | ⟨g, cap, cur, rfl, hg, _⟩
  · simp [Value.ownBlock] at hk
  · simp [Value.ownBlock] at hk; omega
theorem cell_new (w : World) (u : Value) (t : TypeId) (j : Nat) (x : Value) (hj : [u][j]? = some x) : (w.alloc (.cells #[u] t)).cell? ((⟨w.heap.size, 0, none⟩ : Addr).add j) = some x := by
  match j, hj with
  | 0, hj => simp at hj; subst hj; simp [Addr.add]
theorem made_own (w : World) (M : Array Value) (n : Nat) (hM : M.size = n) (hn : n ≤ 4294967296) : (w.alloc (.cells M 5)).ownsRow w.heap.size 5 1 (.slice (some ⟨w.heap.size, 0, none⟩) 0 n) 0 [] :=
  ⟨rfl, Or.inr ⟨w.heap.size, n, M, rfl, Nat.le_refl _, heap_alloc_new w _, Nat.zero_le _, by unfold maxLen; omega, by omega, by simp⟩⟩
/-- a row of bytes that is owned, as a text -/
theorem own_string {w : World} {base : Nat} {v : Value} {l : List UInt8} (h : w.ownsRow base 5 1 v l.length (Lib.byteCells l)) (hl : l ≠ []) :
    ∃ g n cap str, v = .slice (some ⟨g, 0, none⟩) n cap ∧ (Go.convert 63 9 (.slice (some ⟨g, 0, none⟩) n cap)).run Tryd.prog w = .ok (.string str) w ∧ Hid (str = ⟨l.toArray⟩) := by
  have h0 : l.length ≠ 0 := fun e => hl (List.eq_nil_of_length_eq_zero e)
  rcases h.2 with ⟨_, h'⟩ | ⟨g, cap, cur, rfl, _⟩
  · exact absurd h' h0
  · refine ⟨g, l.length, cap, _, rfl, run_convert_bytes_back w 63 9 5 ⟨g, 0, none⟩ cap l Tryd.underlying63 Tryd.underlying5 Tryd.underlying9 (fun j hj => ?_), rfl⟩
    have e : (⟨g, 0, none⟩ : Addr).add j = ⟨g, j, none⟩ := by rw [Addr.add_mid]; simp
    rw [e, h.cellAt j (by omega)]
    simp [Lib.byteCells, hj]
theorem snoc (l : List UInt8) (b : UInt8) (x : Int) (h : (b.toNat : Int) = x) : Lib.byteCells (l ++ [b]) = Lib.byteCells l ++ [.int .u8 x] := by
  subst h
  simp [Lib.byteCells]
theorem toNat_hi (m : Nat) : ((UInt8.ofNat (m % 128 + 128)).toNat : Int) = (m : Int) % 128 + 128 := by
  rw [UInt8.toNat_ofNat']; omega
theorem toNat_lo {m : Nat} (h : ¬ 128 ≤ m) : ((UInt8.ofNat m).toNat : Int) = (m : Int) := by
  rw [UInt8.toNat_ofNat']; omega
end Bn
theorem ret_str {a b : ByteArray} (h : a = b) : Ending.returned (.string a) = .returned (.string b) := by rw [h]
set_option maxHeartbeats 2000000 in
set_option maxRecDepth 10000 in
theorem number25 (n : Nat) (hn : n < 18446744073709551616) (w : World) :
    Calls Tryd.prog 25 #[.int .u64 n] w fun e w' => e = .returned (.string ⟨(Bn.num n).toArray⟩) ∧ Below w.heap.size w w' := by
  obtain ⟨i0, hi, hz0, hz1, hz2⟩ := Go.info_parts Bn.info5
  obtain ⟨M, hM⟩ : ∃ M, M = madeCells (Value.int .u8 0).cells (10 * i0.size) := ⟨_, rfl⟩
  have hmk : ∀ u : World, (Instr.makeSlice 63 (.int .i64 0) (.int .i64 10)).run Tryd.prog u = .ok (.slice (some ⟨u.heap.size, 0, none⟩) 0 10) (u.alloc (.cells M 5)) := fun u => by
    have h := run_make (P := Tryd.prog) u 63 5 i0 (.int .u8 0) Tryd.underlying63 hi hz0 .i64 .i64 0 10 (by omega) (by omega) (by rw [hz2]; omega) (by omega)
    rw [show (10 : Int).toNat = 10 by omega, ← hM] at h
    exact h
  have hMs : M.size = 10 := by rw [hM, size_madeCells, hz1]
  have HO : Hid ((w.alloc (.cells M 5)).ownsRow w.heap.size 5 1 (.slice (some ⟨w.heap.size, 0, none⟩) 0 10) 0 []) := Bn.made_own w M _ hMs (by omega)
  clear hM hMs
  go_enter Tryd.func25, Tryd.ntmps25
  go_wp2
  go_loopw [0, 3] (fun nv v wr => ∃ (m : Nat) (l : List UInt8), nv = .int .u64 m ∧ m < 18446744073709551616 ∧ Bn.num n = l ++ Bn.num m ∧ (m + 1) * 2 ^ l.length ≤ 18446744073709551616 ∧ wr.ownsRow w.heap.size 5 1 v l.length (Lib.byteCells l) ∧ Below w.heap.size w wr ∧ w.heap.size + 1 ≤ wr.heap.size) (fun nv _ _ => (intOf nv).toNat)
  case atStart => exact ⟨n, [], rfl, hn, rfl, by simp; omega, HO.out, (Below.refl _ _).alloc (Nat.le_refl _) _, by simp⟩
  case round =>
    obtain ⟨m, l, rfl, hm, hnum, hpw, hown, hnx, hsz⟩ := hrel
    clear HO hmk
    have HL : Hid (l.length ≤ 64) := Bn.len_le hpw
    have HB63 : Hid (l.length + 1 ≤ maxLen) := by have := HL.out; show _ ≤ _; unfold maxLen; omega
    have HB47 : Hid ((l.length + 1) * 1 ≤ 140737488355328) := by have := HL.out; show _ ≤ _; omega
    have HBS : Hid (∀ k, _ → _) := Bn.block_le hown
    have HOW : Hid (wr.ownsRow _ _ _ _ _ _) := hown
    have HPW : Hid ((m + 1) * 2 ^ l.length ≤ 18446744073709551616) := hpw
    have HNUM : Hid (Bn.num n = l ++ Bn.num m) := hnum
    clear hown hpw hnum
    by_cases hge : 128 ≤ m
    · have q1 : (128 : Int) ≤ (m : Int) := by omega
      have HNX : Hid (Lib.byteCells (l ++ [UInt8.ofNat (m % 128 + 128)]) = Lib.byteCells l ++ [.int .u8 ((m : Int) % 128 + 128)]) := Bn.snoc _ _ _ (Bn.toNat_hi m)
      have hor := Bn.or128 m
      go_wp2_with (first | (at_builtin; refine wpList_append_own _ rfl _ _ 63 rfl w.heap.size 5 i0 (.int .u8 0) 1 1 Tryd.underlying63 hi hz0 hz1 hz2 rfl (by decide) _ _ _ rfl (HOW.out.alloc _) ⟨wr.heap.size, 0, none⟩ 1 1 [.int .u8 ((m : Int) % 128 + 128)] rfl rfl (Bn.cell_new _ _ _) ?c2 ?c3 ?c4 ?c5 ?_))
      case c2 => intro u hu; simp at hu; subst hu; rfl
      case c3 => exact HB63.out
      case c4 => exact HB47.out
      case c5 => simp; omega
      · intro v' w1 hown' hgrow _
        have R1 : Hid (w1.ownsRow w.heap.size 5 1 v' (l ++ [UInt8.ofNat (m % 128 + 128)]).length (Lib.byteCells (l ++ [UInt8.ofNat (m % 128 + 128)]))) := by
          rw [HNX.out, List.length_append]
          exact hown'
        have R2 : Hid (Below w.heap.size w w1) := (hnx.alloc (by omega) _).grown hgrow (by simp; omega) HBS.out
        have R3 : Hid (w.heap.size + 1 ≤ w1.heap.size) := by
          have := hgrow.size
          simp at this
          show _ ≤ _
          omega
        have R4 : Hid (Bn.num n = (l ++ [UInt8.ofNat (m % 128 + 128)]) ++ Bn.num (m / 128)) := by
          show _ = _
          rw [HNUM.out, Bn.num_high hge]; simp
        have R5 : Hid ((m / 128 + 1) * 2 ^ (l ++ [UInt8.ofNat (m % 128 + 128)]).length ≤ 18446744073709551616) := by
          rw [List.length_append]; exact Bn.len_next hge HPW.out
        clear hown' hgrow hnx hsz
        obtain ⟨q, hq⟩ : ∃ q, q = m / 128 := ⟨_, rfl⟩
        have hqm : q < m := by omega
        rw [← hq] at R4 R5
        have q2 : (m : Int) / 128 = (q : Int) := by omega
        clear hq
        go_wp2
        go_roundw
        case rel => exact ⟨q, _, rfl, by omega, R4.out, R5.out, R1.out, R2.out, R3.out⟩
        case measure => simp [intOf]; omega
    · have q1 : ¬ (128 : Int) ≤ (m : Int) := by omega
      have q2 : (m : Int) % 256 = (m : Int) := by omega
      have HNX : Hid (Lib.byteCells (l ++ [UInt8.ofNat m]) = Lib.byteCells l ++ [.int .u8 (m : Int)]) := Bn.snoc _ _ _ (Bn.toNat_lo hge)
      have HALL : Hid (Bn.num n = l ++ [UInt8.ofNat m]) := by
        show _ = _
        rw [HNUM.out, Bn.num_low (by omega)]
      have HSZ : Hid (w.heap.size ≤ (wr.alloc (.cells #[.int .u8 (m : Int)] 5)).heap.size) := by show _ ≤ _; simp; omega
      go_wp2_with (first | (at_builtin; refine wpList_append_own _ rfl _ _ 63 rfl w.heap.size 5 i0 (.int .u8 0) 1 1 Tryd.underlying63 hi hz0 hz1 hz2 rfl (by decide) _ _ _ rfl (HOW.out.alloc _) ⟨wr.heap.size, 0, none⟩ 1 1 [.int .u8 (m : Int)] rfl rfl (Bn.cell_new _ _ _) (by intro u hu; simp at hu; subst hu; rfl) HB63.out HB47.out HSZ.out ?_; intro v' w1 hown' hgrow hx; have R1 := hown'; rw [← HNX.out] at R1; obtain ⟨g, k, cap, str, hv, hconv, hstr⟩ := Bn.own_string (l := l ++ [UInt8.ofNat m]) (by rw [List.length_append]; exact R1) (by simp); have R2 : Hid (Below w.heap.size w w1) := (hnx.alloc (by omega) _).grown hgrow (by simp; omega) HBS.out; clear R1 hown' hgrow hnx hsz hx; subst hv))
      all_goals
        go_ret
        exact ⟨ret_str (by rw [hstr.out, HALL.out]), R2.out⟩
set_option maxHeartbeats 2000000 in
set_option maxRecDepth 10000 in
theorem rnumber26 (n : Nat) (hn : n < 18446744073709551616) (w : World) :
    Calls Tryd.prog 26 #[.int .u64 n] w fun e w' => e = .returned (.string ⟨(Bn.num n).toArray⟩) ∧ Below w.heap.size w w' := by
  obtain ⟨i0, hi, hz0, hz1, hz2⟩ := Go.info_parts Bn.info5
  have HO : Hid (w.ownsRow w.heap.size 5 1 (.slice none 0 0) 0 []) := ⟨rfl, Or.inl ⟨rfl, rfl⟩⟩
  go_enter Tryd.func26, Tryd.ntmps26
  go_wp2
  go_loopw [0, 3] (fun nv v wr => ∃ (m : Nat) (l : List UInt8), nv = .int .u64 m ∧ m < 18446744073709551616 ∧ Bn.num n = l ++ Bn.num m ∧ (m + 1) * 2 ^ l.length ≤ 18446744073709551616 ∧ wr.ownsRow w.heap.size 5 1 v l.length (Lib.byteCells l) ∧ Below w.heap.size w wr ∧ w.heap.size ≤ wr.heap.size) (fun nv _ _ => (intOf nv).toNat)
  case atStart => exact ⟨n, [], rfl, hn, rfl, by simp; omega, HO.out, Below.refl _ _, Nat.le_refl _⟩
  case round =>
    obtain ⟨m, l, rfl, hm, hnum, hpw, hown, hnx, hsz⟩ := hrel
    clear HO
    have HL : Hid (l.length ≤ 64) := Bn.len_le hpw
    have HB63 : Hid (l.length + 1 ≤ maxLen) := by have := HL.out; show _ ≤ _; unfold maxLen; omega
    have HB47 : Hid ((l.length + 1) * 1 ≤ 140737488355328) := by have := HL.out; show _ ≤ _; omega
    have HBS : Hid (∀ k, _ → _) := Bn.block_le hown
    have HOW : Hid (wr.ownsRow _ _ _ _ _ _) := hown
    have HPW : Hid ((m + 1) * 2 ^ l.length ≤ 18446744073709551616) := hpw
    have HNUM : Hid (Bn.num n = l ++ Bn.num m) := hnum
    clear hown hpw hnum
    by_cases hge : 128 ≤ m
    · have q1 : (128 : Int) ≤ (m : Int) := by omega
      have HNX : Hid (Lib.byteCells (l ++ [UInt8.ofNat (m % 128 + 128)]) = Lib.byteCells l ++ [.int .u8 ((m : Int) % 128 + 128)]) := Bn.snoc _ _ _ (Bn.toNat_hi m)
      have hq0 : ((m : Int) % 128 + 128) % 18446744073709551616 = (m : Int) % 128 + 128 := by omega
      have hq1 : ((m : Int) % 128 + 128) % 256 = (m : Int) % 128 + 128 := by omega
      go_wp2_with (first | (at_builtin; refine wpList_append_own _ rfl _ _ 63 rfl w.heap.size 5 i0 (.int .u8 0) 1 1 Tryd.underlying63 hi hz0 hz1 hz2 rfl (by decide) _ _ _ rfl (HOW.out.alloc _) ⟨wr.heap.size, 0, none⟩ 1 1 [.int .u8 ((m : Int) % 128 + 128)] rfl rfl (Bn.cell_new _ _ _) ?c2 ?c3 ?c4 ?c5 ?_))
      case c2 => intro u hu; simp at hu; subst hu; rfl
      case c3 => exact HB63.out
      case c4 => exact HB47.out
      case c5 => simp; omega
      · intro v' w1 hown' hgrow _
        have R1 : Hid (w1.ownsRow w.heap.size 5 1 v' (l ++ [UInt8.ofNat (m % 128 + 128)]).length (Lib.byteCells (l ++ [UInt8.ofNat (m % 128 + 128)]))) := by
          rw [HNX.out, List.length_append]
          exact hown'
        have R2 : Hid (Below w.heap.size w w1) := (hnx.alloc (by omega) _).grown hgrow (by simp; omega) HBS.out
        have R3 : Hid (w.heap.size ≤ w1.heap.size) := by
          have := hgrow.size
          simp at this
          show _ ≤ _
          omega
        have R4 : Hid (Bn.num n = (l ++ [UInt8.ofNat (m % 128 + 128)]) ++ Bn.num (m / 128)) := by
          show _ = _
          rw [HNUM.out, Bn.num_high hge]; simp
        have R5 : Hid ((m / 128 + 1) * 2 ^ (l ++ [UInt8.ofNat (m % 128 + 128)]).length ≤ 18446744073709551616) := by
          rw [List.length_append]; exact Bn.len_next hge HPW.out
        clear hown' hgrow hnx hsz
        obtain ⟨q, hq⟩ : ∃ q, q = m / 128 := ⟨_, rfl⟩
        have hqm : q < m := by omega
        rw [← hq] at R4 R5
        have q2 : (m : Int) / 128 = (q : Int) := by omega
        clear hq
        go_wp2
        go_roundw
        case rel => exact ⟨q, _, rfl, by omega, R4.out, R5.out, R1.out, R2.out, R3.out⟩
        case measure => simp [intOf]; omega
    · have q1 : ¬ (128 : Int) ≤ (m : Int) := by omega
      have q2 : (m : Int) % 256 = (m : Int) := by omega
      have HNX : Hid (Lib.byteCells (l ++ [UInt8.ofNat m]) = Lib.byteCells l ++ [.int .u8 (m : Int)]) := Bn.snoc _ _ _ (Bn.toNat_lo hge)
      have HALL : Hid (Bn.num n = l ++ [UInt8.ofNat m]) := by
        show _ = _
        rw [HNUM.out, Bn.num_low (by omega)]
      have HSZ : Hid (w.heap.size ≤ (wr.alloc (.cells #[.int .u8 (m : Int)] 5)).heap.size) := by show _ ≤ _; simp; omega
      go_wp2_with (first | (at_builtin; refine wpList_append_own _ rfl _ _ 63 rfl w.heap.size 5 i0 (.int .u8 0) 1 1 Tryd.underlying63 hi hz0 hz1 hz2 rfl (by decide) _ _ _ rfl (HOW.out.alloc _) ⟨wr.heap.size, 0, none⟩ 1 1 [.int .u8 (m : Int)] rfl rfl (Bn.cell_new _ _ _) (by intro u hu; simp at hu; subst hu; rfl) HB63.out HB47.out HSZ.out ?_; intro v' w1 hown' hgrow hx; have R1 := hown'; rw [← HNX.out] at R1; obtain ⟨g, k, cap, str, hv, hconv, hstr⟩ := Bn.own_string (l := l ++ [UInt8.ofNat m]) (by rw [List.length_append]; exact R1) (by simp); have R2 : Hid (Below w.heap.size w w1) := (hnx.alloc (by omega) _).grown hgrow (by simp; omega) HBS.out; clear R1 hown' hgrow hnx hsz hx; subst hv))
      all_goals
        go_ret
        exact ⟨ret_str (by rw [hstr.out, HALL.out]), R2.out⟩
end Go.Proofs.YtbogggnnmbjlfaaDoor
