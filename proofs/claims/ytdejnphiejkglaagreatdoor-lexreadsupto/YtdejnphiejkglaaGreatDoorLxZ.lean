/- Tokens that are shown, with blanks between, are read as they were: in plain mathematics. -/
import Derived.Test.YtdejnphiejkglaaGreatDoorLxJo
namespace Go.Proofs.YtdejnphiejkglaaGreatDoor
open Go.RowKit
namespace Lx
/-- a token as it is handed in -/
structure At where
  kind : Nat
  text : Bs
  n : Int
  at' : Int
def blank (x : UInt8) : Prop := x = 32 ∨ x = 9 ∨ x = 10 ∨ x = 13
theorem bl_full {b : Bs} (h : ∀ x ∈ b, blank x) : bl b = b.length := by
  induction b with
  | nil => rfl
  | cons x b ih => rw [bl, if_pos (show x = 32 ∨ x = 9 ∨ x = 10 ∨ x = 13 from h x (by simp)), ih (fun y hy => h y (by simp [hy]))]; rfl
theorem lx_over {b : Bs} (h : ∀ x ∈ b, blank x) (n : Nat) (s : Bs) (a : Nat) : lx n (b ++ s) a = lx n s (a + b.length) := by
  have e : bl (b ++ s) = b.length + bl s := bl_all s (by rw [bl_full h]; simp)
  rw [lx_blank n (b ++ s), lx_blank n s, e, List.drop_append]
  rw [List.drop_of_length_le (by omega)]
  simp [Nat.add_assoc]
/-- the text so far, and its tokens -/
def BT (b txt : Bs) (ts : List Tk) : Prop := (txt = [] ∧ ts = []) ∨ ∃ p, txt = p ++ 32 :: b ∧ Toks p 0 ts
theorem shw_lex {k : Nat} {t : Bs} {n : Int} {s : Bs} (h : shw k t n = some s) : lex s = ⟨[⟨k, t, n, 0⟩], 0, 0⟩ := by
  rw [shw] at h
  split at h
  · cases h
  · split at h
    · rename_i h2; cases h; exact h2
    · cases h
theorem shw_len {k : Nat} {t : Bs} {n : Int} {s : Bs} (h : shw k t n = some s) : s.length ≤ 16384 := by
  have h1 := shw_lex h
  exact (lex_toks (by rw [h1])).1
theorem BT.next {b txt : Bs} {ts : List Tk} (hb : ∀ x ∈ b, blank x) (h : BT b txt ts) {k : Nat} {t : Bs} {n : Int} {s : Bs} (hs : shw k t n = some s) : BT b (txt ++ (s ++ 32 :: b)) (ts ++ [⟨k, t, n, txt.length⟩]) := by
  have h1 := shw_lex hs
  have h2 := lex_toks (l := s) (by rw [h1])
  rw [h1] at h2
  refine Or.inr ⟨txt ++ s, by simp, ?_⟩
  rcases h with ⟨rfl, rfl⟩ | ⟨p, rfl, hp⟩
  · exact h2.2
  · have e : p ++ 32 :: b ++ s = p ++ 32 :: (b ++ s) := by simp
    rw [e]
    have h3 := lx_app (b ++ s) hp ((p ++ 32 :: (b ++ s)).length + 1) (Nat.lt_succ_self _)
    have h4 := lx_shift (s.length + 1) s 0 ((p ++ 32 :: b).length)
    have h5 : lx (s.length + 1) s 0 = ⟨[⟨k, t, n, 0⟩], 0, 0⟩ := lx_of_toks h2.2 _ (Nat.lt_succ_self _)
    rw [h5] at h4
    have h6 : lx ((b ++ s).length + 1) (b ++ s) (0 + p.length + 1) = lx (s.length + 1) s (0 + (p ++ 32 :: b).length) := by
      rw [lx_over hb]
      have : 0 + p.length + 1 + b.length = 0 + (p ++ 32 :: b).length := by simp; omega
      rw [this]
      exact lx_fuel _ _ _ _ (by simp; omega) (Nat.lt_succ_self _)
    rw [h6, h4] at h3
    have h7 := toks_of_lx _ _ 0 (Nat.lt_succ_self (p ++ 32 :: (b ++ s)).length) (by rw [h3]; rfl)
    rw [h3] at h7
    simpa [join, sh] using h7
theorem BT.lex {b txt : Bs} {ts : List Tk} (hb : ∀ x ∈ b, blank x) (h : BT b txt ts) (hl : txt.length ≤ 16384) : lex txt = ⟨ts, 0, 0⟩ := by
  rcases h with ⟨rfl, rfl⟩ | ⟨p, rfl, hp⟩
  · rfl
  · have h3 := lx_app b hp ((p ++ 32 :: b).length + 1) (Nat.lt_succ_self _)
    have h4 : lx (b.length + 1) b (0 + p.length + 1) = ⟨[], 0, 0⟩ := by
      have := lx_over hb (b.length + 1) [] (0 + p.length + 1)
      rw [List.append_nil] at this
      rw [this]
      rfl
    rw [Lx.lex, if_neg (by omega), h3, h4]
    simp [join]
theorem BT.len {b txt : Bs} {ts : List Tk} (h : BT b txt ts) : ts.length ≤ txt.length := by
  rcases h with ⟨rfl, rfl⟩ | ⟨p, rfl, hp⟩
  · simp
  · have := toks_len hp
    rw [List.length_append]
    omega
theorem cat4 (t s b : Bs) : (bs t ++ (bs s ++ { data := #[32] } ++ bs b) : ByteArray) = bs (t ++ (s ++ 32 :: b)) := by
  apply ByteArray.ext
  simp [bs, ByteArray.data_append]
end Lx
/-- tokens that are handed in -/
def TA (W : World) (H : Nat) (v : Value) (l : List Lx.At) : Prop := ∃ a c, v = .slice a l.length c ∧ (0 < l.length → ∃ g o, a = some ⟨g, o, none⟩ ∧ g < H ∧ ∀ (i : Nat) (t : Lx.At), l[i]? = some t → (-9223372036854775808 ≤ t.n ∧ t.n ≤ 9223372036854775807) ∧ W.cell? ⟨g, o + i * 4, none⟩ = some (.int .u8 (t.kind : Int)) ∧ W.cell? ⟨g, o + i * 4 + 1, none⟩ = some (.string (Lx.bs t.text)) ∧ W.cell? ⟨g, o + i * 4 + 2, none⟩ = some (.int .i64 t.n) ∧ W.cell? ⟨g, o + i * 4 + 3, none⟩ = some (.int .i64 t.at'))
theorem TA.call {W W' : World} {H : Nat} {v : Value} {l : List Lx.At} (h : TA W H v l) (hb : Below H W W') : TA W' H v l := by
  obtain ⟨a, c, e, h1⟩ := h
  refine ⟨a, c, e, fun hp => ?_⟩
  obtain ⟨g, o, e2, hg, hc⟩ := h1 hp
  refine ⟨g, o, e2, hg, fun i t ht => ?_⟩
  obtain ⟨h2, h3, h4, h5, h6⟩ := hc i t ht
  exact ⟨h2, (hb.cell (p := ⟨g, _, none⟩) hg).trans h3, (hb.cell (p := ⟨g, _, none⟩) hg).trans h4, (hb.cell (p := ⟨g, _, none⟩) hg).trans h5, (hb.cell (p := ⟨g, _, none⟩) hg).trans h6⟩
end Go.Proofs.YtdejnphiejkglaaGreatDoor
