/- The law ShaStates for every state and every text that a machine holds. -/
import Derived.Test.YtojeoiiobpdccaaDoorStatesW
namespace Go.Proofs.YtojeoiiobpdccaaDoor
open Go.RowKit
theorem states4_all (t : ByteArray) (s : Sh.S8) (hs : s.ok) (c : Nat) (r : ByteArray) (ht : t.size ≤ 140737488351232) (hc : c < 18446744073709551616) (hr : r.size ≤ maxLen) (w : World) (hK : HasK w) :
    Calls Tryd.prog 4 #[.agg #[.int .u32 s.a, .int .u32 s.b, .int .u32 s.c, .int .u32 s.d, .int .u32 s.e, .int .u32 s.f, .int .u32 s.g, .int .u32 s.h, .int .u64 c, .string r], .string t] w fun e w' => e = .returned (.bool true) ∧ Below w.heap.size w w' := by
  unfold maxLen at hr
  cases h : Sh.rightB c r.size with
  | false => exact states4 t s Z8 c 0 r ⟨#[]⟩ ⟨#[]⟩ 6 6 (fun W _ => add13_no s c r t hc hr h W) (fun W => add14_no s c r t hc hr h W) (fun W _ => end15_no s c r hc hr h W) (fun W => end16_no s c r hc hr h W) w hK
  | true =>
    obtain ⟨hc1, hr1⟩ := right_of h
    obtain ⟨d, hd⟩ : ∃ d : ByteArray, d = ⟨(Sh.fin s r.data.toList c).toArray⟩ := ⟨_, rfl⟩
    have E15 : ∀ W, HasK W → Calls Tryd.prog 15 #[.agg #[.int .u32 s.a, .int .u32 s.b, .int .u32 s.c, .int .u32 s.d, .int .u32 s.e, .int .u32 s.f, .int .u32 s.g, .int .u32 s.h, .int .u64 c, .string r]] W fun e w' => e = .returned (.tuple #[.string d, .int .i64 0]) ∧ Below W.heap.size W w' := fun W hW => by
      rw [hd]; exact end15_yes s hs c r hc1 (by omega) h W hW
    have E16 := fun W => end16_yes s hs c r hc1 (by omega) h d hd W
    by_cases h1 : c + t.size < 1152921504606846976
    · obtain ⟨y, hy⟩ : ∃ y, y = Sh.chgAll s (r.data.toList ++ t.data.toList) := ⟨_, rfl⟩
      obtain ⟨ry, hry⟩ : ∃ ry : ByteArray, ry = ⟨(Sh.restOf (r.data.toList ++ t.data.toList)).toArray⟩ := ⟨_, rfl⟩
      exact states4 t s y c (c + t.size) r ry d 0 0 (fun W hW => add13_yes s y hs c (c + t.size) r t ry hc1 (by omega) (by omega) h rfl h1 hy hry W hW)
        (fun W => add14_yes s y hs c (c + t.size) r t ry hc1 (by omega) (by omega) h rfl h1 hy hry W) E15 E16 w hK
    · exact states4 t s Z8 c 0 r ⟨#[]⟩ d 2 0 (fun W _ => add13_range s c r t hc1 hr (by omega) h (by omega) W) (fun W => add14_range s c r t hc1 hr (by omega) h (by omega) W) E15 E16 w hK
end Go.Proofs.YtojeoiiobpdccaaDoor
