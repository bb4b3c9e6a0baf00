/- What sha.appendNumber lays behind a slice that the caller owns: the lowest bytes of a number, the highest one first. -/
import Derived.Test.YtoldfepeldbcpaaDoorShChange
import Derived.OwnWalk
namespace Go.Proofs.YtoldfepeldbcpaaDoor
open Go.RowKit
theorem info5 : (Tryd.prog.info? 5).map (fun i => (i.zero, i.size, i.bytes)) = some (some (.int .u8 0), 1, 1) := by kernel_rfl
theorem own_block_le {w : World} {base n : Nat} {v : Value} {xs : List Value} (h : w.ownsRow base 5 1 v n xs) : ∀ k, v.ownBlock = some k → base ≤ k := by
  intro k hk
  rcases h.2 with ⟨rfl, _⟩ | ⟨g, cap, cur, rfl, hg, _⟩
  · simp [Value.ownBlock] at hk
  · simp [Value.ownBlock] at hk; omega
theorem cell_new (w : World) (u : Value) (t : TypeId) (j : Nat) (x : Value) (hj : [u][j]? = some x) : (w.alloc (.cells #[u] t)).cell? ((⟨w.heap.size, 0, none⟩ : Addr).add j) = some x := by
  match j, hj with
  | 0, hj => simp at hj; subst hj; simp [Addr.add]
set_option maxHeartbeats 1000000 in
theorem append26 (base : Nat) (v : Value) (l : List UInt8) (n many : Nat) (hm : many ≤ 8) (_hn : n < 18446744073709551616) (hl : l.length ≤ 4294967296) (w : World) (hB : base ≤ w.heap.size)
    (ho : w.ownsRow base 5 1 v l.length (Lib.byteCells l)) :
    Calls Tryd.prog 51 #[v, .int .u64 n, .int .i64 many] w fun e w' => ∃ v', e = .returned v' ∧ w'.ownsRow base 5 1 v' (l ++ Sh.bytesOf n many).length (Lib.byteCells (l ++ Sh.bytesOf n many)) ∧ Below base w w' := by
  obtain ⟨i0, hi, hz0, hz1, hz2⟩ := info_parts info5
  go_enter Tryd.func51, Tryd.ntmps51
  go_wp2
  go_loopw [0, 9] (fun v i wr => ∃ k : Nat, k ≤ many ∧ i = .int .i64 k ∧ wr.ownsRow base 5 1 v (l.length + k) (Lib.byteCells (l ++ (List.range k).map (Sh.nb n many))) ∧ Below base w wr) (fun _ i _ => many - (intOf i).toNat)
  case atStart => exact ⟨0, by omega, rfl, by simpa using ho, Below.refl _ _⟩
  case round =>
    obtain ⟨k, hk, rfl, hown, hnx⟩ := hrel
    by_cases hlt : k < many
    · have q1 : (0 : Int) ≤ (many : Int) - 1 - k := by omega
      have q2 : (k : Int) < (many : Int) := by omega
      have hbs := own_block_le hown
      have hsz := hnx.size
      have HO : Hid (wr.ownsRow _ _ _ _ _ _) := hown
      have HBS : Hid (∀ k, _ → _) := hbs
      clear ho hown hbs
      go_wp2_with (first | (at_builtin; refine wpList_append_own _ rfl _ _ 96 rfl base 5 i0 (.int .u8 0) 1 1 Tryd.underlying96 hi hz0 hz1 hz2 rfl (by decide) _ _ _ rfl (HO.out.alloc _) ⟨wr.heap.size, 0, none⟩ 1 1 [.int .u8 ((n : Int) / 2 ^ (8 * (many - 1 - k)) % 256)] rfl rfl (cell_new _ _ _) ?c2 ?c3 ?c4 ?c5 ?_))
      case c2 => intro u hu; simp at hu; subst hu; rfl
      case c3 => unfold maxLen; omega
      case c4 => omega
      case c5 => simp; omega
      · intro v' w1 hown' hgrow _
        have R1 : w1.ownsRow base 5 1 v' (l.length + (k + 1)) (Lib.byteCells (l ++ (List.range (k + 1)).map (Sh.nb n many))) := by
          have e : Lib.byteCells (l ++ (List.range (k + 1)).map (Sh.nb n many)) = Lib.byteCells (l ++ (List.range k).map (Sh.nb n many)) ++ [.int .u8 ((n : Int) / 2 ^ (8 * (many - 1 - k)) % 256)] := by
            rw [List.range_succ, List.map_append, ← List.append_assoc, ← Sh.nb_eq]
            simp [Lib.byteCells]
          rw [e]
          exact hown'
        have R2 : Below base w w1 := (hnx.alloc (by omega) _).grown hgrow (by simp; omega) HBS.out
        have H1 : Hid (w1.ownsRow _ _ _ _ _ _) := R1
        have H2 : Hid (Below base w w1) := R2
        clear hown' hgrow R1 R2 hnx
        go_wp2
        go_roundw
        case rel => exact ⟨k + 1, by omega, by go_num, H1.out, H2.out⟩
        case measure => simp [intOf]; omega
    · have hk8 : k = many := by omega
      subst hk8
      go_wp2
      go_ret
      refine ⟨_, rfl, ?_, hnx⟩
      have e : (l ++ Sh.bytesOf n k).length = l.length + k := by simp [Sh.bytesOf]
      rw [e]
      exact hown
end Go.Proofs.YtoldfepeldbcpaaDoor
