/- The law ShaGrows for every state and every two texts that a machine holds. -/
import Derived.Test.YtojeoiiobpdccaaDoorGrowsW
import Derived.Test.YtojeoiiobpdccaaDoorPieces
namespace Go.Proofs.YtojeoiiobpdccaaDoor
open Go.RowKit
/-- no words -/
def Z8 : Sh.S8 := ⟨0, 0, 0, 0, 0, 0, 0, 0⟩
theorem Z8_ok : Z8.ok := ⟨by decide, by decide, by decide, by decide, by decide, by decide, by decide, by decide⟩
theorem add_zero (b : ByteArray) (hb : b.size ≤ 140737488351232) : ∃ (z : Sh.S8) (cz : Nat) (rz : ByteArray), ∀ W, HasK W →
    Calls Tryd.prog 13 #[.agg #[.int .u32 Z8.a, .int .u32 Z8.b, .int .u32 Z8.c, .int .u32 Z8.d, .int .u32 Z8.e, .int .u32 Z8.f, .int .u32 Z8.g, .int .u32 Z8.h, .int .u64 (0 : Nat), .string ⟨#[]⟩], .string b] W
      fun e w' => e = .returned (.tuple #[.agg #[.int .u32 z.a, .int .u32 z.b, .int .u32 z.c, .int .u32 z.d, .int .u32 z.e, .int .u32 z.f, .int .u32 z.g, .int .u32 z.h, .int .u64 cz, .string rz], .int .i64 0]) ∧ Below W.heap.size W w' :=
  ⟨_, 0 + b.size, _, fun W hW => add13_yes Z8 _ Z8_ok 0 (0 + b.size) ⟨#[]⟩ b _ (by omega) (by decide) (by omega) rfl rfl (by omega) rfl rfl W hW⟩
theorem right_of {c : Nat} {r : ByteArray} (h : Sh.rightB c r.size = true) : c < 1152921504606846976 ∧ r.size = c % 64 := by
  simpa only [Sh.rightB, Bool.and_eq_true, decide_eq_true_eq, beq_iff_eq] using h
theorem right_mk {c n : Nat} (h1 : c < 1152921504606846976) (h2 : n = c % 64) : Sh.rightB c n = true := by
  simp [Sh.rightB, h1, h2]
theorem size_mk (l : List UInt8) : (⟨l.toArray⟩ : ByteArray).size = l.length := by rw [Lib.size_eq]
theorem size_app (a b : ByteArray) : (a ++ b).size = a.size + b.size := by rw [Lib.size_eq, Lib.size_eq a, Lib.size_eq b]; simp
theorem data_app (a b : ByteArray) : (a ++ b).data.toList = a.data.toList ++ b.data.toList := by simp
theorem last_eq (x : ByteArray) (q : ByteArray) (hq : q = ⟨(Sh.restOf x.data.toList).toArray⟩) : x.extract (x.size - q.size) x.size = q := by
  have hqs : q.size = x.size % 64 := by rw [hq, size_mk, Sh.rest_length, ← Lib.size_eq]
  have e : (x.data.toList.drop (x.size - q.size)).take (x.size - (x.size - q.size)) = Sh.restOf x.data.toList := by
    rw [List.take_of_length_le (by rw [List.length_drop, ← Lib.size_eq]; omega), hqs, Sh.restOf, ← Lib.size_eq]
  rw [Lib.extract_eq, e, ← hq]
theorem grows7 (a b : ByteArray) (s : Sh.S8) (hs : s.ok) (c : Nat) (r : ByteArray) (ha : a.size ≤ 140737488351232) (hb : b.size ≤ 140737488351232) (hc : c < 18446744073709551616) (hr : r.size ≤ maxLen) (w : World) (hK : HasK w) :
    Calls Tryd.prog 7 #[.agg #[.int .u32 s.a, .int .u32 s.b, .int .u32 s.c, .int .u32 s.d, .int .u32 s.e, .int .u32 s.f, .int .u32 s.g, .int .u32 s.h, .int .u64 c, .string r], .string a, .string b] w fun e w' => e = .returned (.bool true) ∧ Below w.heap.size w w' := by
  have hab := size_app a b
  have hadd : ∀ W, (Op.stringOp .add a b).run Tryd.prog W = .ok (.string (a ++ b)) W := fun W => run_string_add_sum W a b (by omega)
  obtain ⟨z, cz, rz, hz⟩ := add_zero b hb
  unfold maxLen at hr
  cases h : Sh.rightB c r.size with
  | false => exact grows7_first a b (a ++ b) s Z8 z Z8 c 0 cz 0 r ⟨#[]⟩ rz ⟨#[]⟩ 6 0 6 rfl rfl hadd (fun W _ => add13_no s c r a hc hr h W) hz (fun W _ => add13_no s c r (a ++ b) hc hr h W) w hK
  | true =>
    obtain ⟨hc1, hr1⟩ := right_of h
    by_cases h1 : c + a.size < 1152921504606846976
    · obtain ⟨y, hy⟩ : ∃ y, y = Sh.chgAll s (r.data.toList ++ a.data.toList) := ⟨_, rfl⟩
      obtain ⟨ry, hry⟩ : ∃ ry : ByteArray, ry = ⟨(Sh.restOf (r.data.toList ++ a.data.toList)).toArray⟩ := ⟨_, rfl⟩
      have hyo : y.ok := by rw [hy]; exact Sh.chg_ok hs _ _
      have hrys : ry.size = (c + a.size) % 64 := by
        rw [hry, size_mk, Sh.rest_length, List.length_append, ← Lib.size_eq, ← Lib.size_eq]; omega
      have C1 := fun W hW => add13_yes s y hs c (c + a.size) r a ry hc1 (by omega) (by omega) h rfl h1 hy hry W hW
      by_cases h2 : c + a.size + b.size < 1152921504606846976
      · obtain ⟨v, hv⟩ : ∃ v, v = Sh.chgAll y (ry.data.toList ++ b.data.toList) := ⟨_, rfl⟩
        obtain ⟨rv, hrv⟩ : ∃ rv : ByteArray, rv = ⟨(Sh.restOf (ry.data.toList ++ b.data.toList)).toArray⟩ := ⟨_, rfl⟩
        have C2 := fun W hW => add13_yes y v hyo (c + a.size) (c + a.size + b.size) ry b rv h1 (by omega) (by omega) (right_mk h1 hrys) rfl h2 hv hrv W hW
        have hv' : v = Sh.chgAll s (r.data.toList ++ (a ++ b).data.toList) := by
          rw [hv, hy, hry, data_app, ← List.append_assoc]
          exact Sh.chg_grows _ _ _
        have hrv' : rv = ⟨(Sh.restOf (r.data.toList ++ (a ++ b).data.toList)).toArray⟩ := by
          rw [hrv, hry, data_app, ← List.append_assoc]
          show (⟨(Sh.restOf (Sh.restOf (r.data.toList ++ a.data.toList) ++ b.data.toList)).toArray⟩ : ByteArray) = _
          rw [Sh.rest_grows]
        have C3 := fun W hW => add13_yes s v hs c (c + a.size + b.size) r (a ++ b) rv hc1 (by omega) (by omega) h (show c + a.size + b.size = c + (a ++ b).size by omega) h2 hv' hrv' W hW
        have hrab : ((r ++ a) ++ b).data.toList = r.data.toList ++ (a ++ b).data.toList := by simp
        have hs1 := size_app r a
        have hs2 := size_app (r ++ a) b
        have hrvs : rv.size = ((r ++ a) ++ b).size % 64 := by
          rw [hrv', size_mk, Sh.rest_length, ← hrab, ← Lib.size_eq]
        refine grows7_ok a b (a ++ b) (r ++ a) ((r ++ a) ++ b) s y v c (c + a.size) (c + a.size + b.size) r ry rv (by omega) (by omega) ?_ (fun W => run_string_add_sum W r a (by omega)) (fun W => run_string_add_sum W (r ++ a) b (by omega)) hadd C1 C2 C3 w hK
        exact last_eq _ _ (by rw [hrab]; exact hrv')
      · have hbig : 1152921504606846976 ≤ c + a.size + b.size := by omega
        have C2 := fun W (_ : HasK W) => add13_range y (c + a.size) ry b h1 (by omega) (by omega) (right_mk h1 hrys) hbig W
        have C3 := fun W (_ : HasK W) => add13_range s c r (a ++ b) hc1 hr (by omega) h (by omega) W
        exact grows7_second a b (a ++ b) s y Z8 Z8 c (c + a.size) 0 0 r ry ⟨#[]⟩ ⟨#[]⟩ 2 2 rfl rfl hadd C1 C2 C3 w hK
    · have C1 := fun W (_ : HasK W) => add13_range s c r a hc1 hr (by omega) h (by omega) W
      have C3 := fun W (_ : HasK W) => add13_range s c r (a ++ b) hc1 hr (by omega) h (by omega) W
      exact grows7_first a b (a ++ b) s Z8 z Z8 c 0 cz 0 r ⟨#[]⟩ rz ⟨#[]⟩ 2 0 2 rfl rfl hadd C1 hz C3 w hK
end Go.Proofs.YtojeoiiobpdccaaDoor
