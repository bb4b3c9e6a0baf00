/- Two states with the same parts are equal, as the program compares them. -/
import Derived.Test.YtojeoiiobpdccaaDoorAdd
import Derived.ChangeKeysEq
namespace Go.Proofs.YtojeoiiobpdccaaDoor
open Go.RowKit
theorem cells25 : Tryd.prog.cellsOf 25 = 1 := by kernel_rfl
theorem part25_0 (x0 x1 x2 x3 x4 x5 x6 x7 : Value) (wx : World) : (part 25 #[x0, x1, x2, x3, x4, x5, x6, x7] (0 * 1)).run Tryd.prog wx = .ok x0 wx := by kernel_rfl
theorem part25_1 (x0 x1 x2 x3 x4 x5 x6 x7 : Value) (wx : World) : (part 25 #[x0, x1, x2, x3, x4, x5, x6, x7] (1 * 1)).run Tryd.prog wx = .ok x1 wx := by kernel_rfl
theorem part25_2 (x0 x1 x2 x3 x4 x5 x6 x7 : Value) (wx : World) : (part 25 #[x0, x1, x2, x3, x4, x5, x6, x7] (2 * 1)).run Tryd.prog wx = .ok x2 wx := by kernel_rfl
theorem part25_3 (x0 x1 x2 x3 x4 x5 x6 x7 : Value) (wx : World) : (part 25 #[x0, x1, x2, x3, x4, x5, x6, x7] (3 * 1)).run Tryd.prog wx = .ok x3 wx := by kernel_rfl
theorem part25_4 (x0 x1 x2 x3 x4 x5 x6 x7 : Value) (wx : World) : (part 25 #[x0, x1, x2, x3, x4, x5, x6, x7] (4 * 1)).run Tryd.prog wx = .ok x4 wx := by kernel_rfl
theorem part25_5 (x0 x1 x2 x3 x4 x5 x6 x7 : Value) (wx : World) : (part 25 #[x0, x1, x2, x3, x4, x5, x6, x7] (5 * 1)).run Tryd.prog wx = .ok x5 wx := by kernel_rfl
theorem part25_6 (x0 x1 x2 x3 x4 x5 x6 x7 : Value) (wx : World) : (part 25 #[x0, x1, x2, x3, x4, x5, x6, x7] (6 * 1)).run Tryd.prog wx = .ok x6 wx := by kernel_rfl
theorem part25_7 (x0 x1 x2 x3 x4 x5 x6 x7 : Value) (wx : World) : (part 25 #[x0, x1, x2, x3, x4, x5, x6, x7] (7 * 1)).run Tryd.prog wx = .ok x7 wx := by kernel_rfl
theorem int25 (a : Int) (wx : World) : (Op.equalIn 9998 25 (.int .u32 a) (.int .u32 a)).run Tryd.prog wx = .ok true wx := by
  rw [run_equalIn_int wx 9997 25 .u32 .u32 a a Tryd.underlying25]
  simp
theorem eq26 (a b c d e f g h : Int) (wx : World) : (Op.equalIn 9999 26 (.agg #[.int .u32 a, .int .u32 b, .int .u32 c, .int .u32 d, .int .u32 e, .int .u32 f, .int .u32 g, .int .u32 h]) (.agg #[.int .u32 a, .int .u32 b, .int .u32 c, .int .u32 d, .int .u32 e, .int .u32 f, .int .u32 g, .int .u32 h])).run Tryd.prog wx = .ok true wx := by
  obtain ⟨i, hi⟩ : ∃ i, Tryd.prog.info? 25 = some i := by
    have := info25
    cases h : Tryd.prog.info? 25 with
    | none => simp [h] at this
    | some i => exact ⟨i, rfl⟩
  rw [run_equalIn_array wx 9998 _ _ Tryd.underlying26 hi, cells25, show List.range 8 = [0, 1, 2, 3, 4, 5, 6, 7] from rfl]
  simp only [Op.eqItems, Sem.run_bind, part25_0, part25_1, part25_2, part25_3, part25_4, part25_5, part25_6, part25_7, int25, Result.andThen_ok, Bool.not_true, Bool.false_eq_true, if_false, Sem.run_pure]
end Go.Proofs.YtojeoiiobpdccaaDoor
