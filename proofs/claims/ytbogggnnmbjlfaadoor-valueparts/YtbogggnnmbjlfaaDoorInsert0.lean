/- slices.Insert of one field into no fields, walked. -/
import Derived.Test.YtbogggnnmbjlfaaDoorFind
import Derived.OwnWalk
import Derived.ArgAppend
namespace Go.Proofs.YtbogggnnmbjlfaaDoor
open Go.RowKit
open Vl (V)
theorem row7_add {w : World} {g : Nat} {v0 v1 v2 v3 v4 v5 v6 : Value} (h : Row7 w g v0 v1 v2 v3 v4 v5 v6) : ∀ (j : Nat) (u : Value), [v0, v1, v2, v3, v4, v5, v6][j]? = some u → w.cell? ((⟨g, 0, none⟩ : Addr).add j) = some u := by
  intro j u hu
  rw [Addr.add_lit, cell_of_row _ _ _ _ _ _ h.2, Nat.zero_add, ← hu]
  simp
set_option maxHeartbeats 4000000 in
set_option maxRecDepth 100000 in
theorem insert39_nil (m : ByteArray) (k : Nat) (b : Bool) (n : Int) (s : ByteArray) (ao : Option Addr) (ll lc : Nat) (fo : Option Addr) (fl fc : Nat) (g : Nat) (w : World)
    (hr : Row7 w g (.string m) (.int .u8 (k : Int)) (.bool b) (.int .i64 n) (.string s) (.slice ao ll lc) (.slice fo fl fc)) :
    Calls Tryd.prog 37 #[.slice none 0 0, .int .i64 0, .slice (some ⟨g, 0, none⟩) 1 1] w fun e w' => ∃ v', e = .returned v' ∧ w'.ownsRow w.heap.size 39 7 v' 1 [.string m, .int .u8 (k : Int), .bool b, .int .i64 n, .string s, .slice ao ll lc, .slice fo fl fc] ∧ w.grownBy w' none := by
  obtain ⟨i0, hi, hz0, hz1, hz2⟩ := info_parts info44'
  have hadd : Hid (∀ (j : Nat) (u : Value), [.string m, .int .u8 (k : Int), .bool b, .int .i64 n, .string s, .slice ao ll lc, .slice fo fl fc][j]? = some u → w.cell? ((⟨g, 0, none⟩ : Addr).add j) = some u) := row7_add hr
  clear hr
  go_enter Tryd.func37, Tryd.ntmps37
  go_wp2_with (first | (at_builtin; refine wpList_append_grows _ rfl _ _ 24 rfl 39 i0 _ 7 96 Tryd.underlying24 hi hz0 hz1 hz2 rfl (by decide) none 0 0 [] rfl (fun _ => ⟨rfl, rfl⟩) rfl (fun _ h => by cases h) ⟨g, 0, none⟩ 1 1 _ rfl rfl hadd.out ?c1 (by decide) ?c2 (by decide) ?_))
  case c1 =>
    intro u hu
    simp only [List.mem_cons, List.not_mem_nil, or_false] at hu
    rcases hu with rfl | rfl | rfl | rfl | rfl | rfl | rfl <;> rfl
  case c2 => unfold maxLen; omega
  · intro v' w1 hown hgrow
    have HO : Hid (w1.ownsRow w.heap.size 39 7 v' 1 [.string m, .int .u8 (k : Int), .bool b, .int .i64 n, .string s, .slice ao ll lc, .slice fo fl fc]) := hown
    have HG : Hid (w.grownBy w1 none) := hgrow
    clear hown hgrow
    go_wp2
    exact ⟨rfl, _, results_tmp (by rfl) _ _ _, v', rfl, HO.out, HG.out⟩
end Go.Proofs.YtbogggnnmbjlfaaDoor
