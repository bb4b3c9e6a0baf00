/- Texts appended to a row of the call's own; what growths and paths show. -/
import Derived.Test.YtoldfepeldbcpaaDoorMkW
import Derived.Test.YtoldfepeldbcpaaDoorMkY
import Derived.Test.YtoldfepeldbcpaaDoorMkS
import Derived.Test.YtoldfepeldbcpaaDoorMkZs
import Derived.Deep.Upon
namespace Go.Proofs.YtoldfepeldbcpaaDoor
open Go.RowKit
namespace Mk
theorem hasNo_not {w : List Bool} (h : hasNo w = false) : ∀ b ∈ w, b = true := by
  intro b hb
  cases b
  · have : hasNo w = true := List.contains_iff_mem.2 hb
    rw [h] at this; cases this
  · rfl
theorem growth_length (l : List Bs) (m : Nat) : (growth l m).length = if hasNo (tw e2 m l.length) then (tw e2 m l.length).length + 1 else (tw e2 m l.length).length := by
  unfold growth
  split <;> simp [aside_length]
/-- each growth shows that its tree grew -/
theorem grew_growth (l : List Bs) (m : Nat) (h1 : 1 ≤ m) (h2 : m < l.length) : grewZ (root (l.take m)) (root l) m l.length (growth l m) = true := by
  have h32 : all32 (growth l m) = true := all32_mk (growth_32 l m)
  have hl := growth_length l m
  have hw := was_sub l.length l m rfl h1 (by omega)
  have hc := climb_sub (tw e2 m l.length) l (fits_tw _ _ _)
  unfold grewZ
  cases hh : hasNo (tw e2 m l.length)
  · rw [hh] at hl
    have hg : growth l m = (aside l (tw e2 m l.length)).reverse := by unfold growth; rw [hh]; rfl
    have hs := sub_elder l.length l m rfl h1 (by omega) (hasNo_not hh)
    rw [hs] at hw hc
    rw [if_neg (by simp), h32, hl, if_neg (by simp), hg, hw, hc]
    simp
  · rw [hh] at hl
    have hg : growth l m = root (sub l (tw e2 m l.length)) :: (aside l (tw e2 m l.length)).reverse := by unfold growth; rw [hh]; rfl
    rw [if_pos rfl, h32, hl, if_pos rfl, hg]
    show (_ && true && (was (root (sub l (tw e2 m l.length))) _ (aside l (tw e2 m l.length)).reverse == _ && climb (root (sub l (tw e2 m l.length))) _ (aside l (tw e2 m l.length)).reverse == _)) = true
    rw [hw, hc]
    simp
/-- so many digests, or it shows nothing -/
theorem grew_length {old r : Bs} {m n : Nat} {g : List Bs} (h : g.length ≠ if hasNo (tw e2 m n) then (tw e2 m n).length + 1 else (tw e2 m n).length) : grewZ old r m n g = false := by
  unfold grewZ
  cases hh : hasNo (tw e2 m n)
  · rw [hh, if_neg (by simp)] at h
    rw [if_neg (by simp)]
    have : ((g.length : Int) == ((tw e2 m n).length : Int)) = false := by rw [beq_eq_false_iff_ne]; omega
    rw [this]; rfl
  · rw [hh, if_pos rfl] at h
    rw [if_pos rfl]
    have : ((g.length : Int) == ((tw e2 m n).length : Int) + 1) = false := by rw [beq_eq_false_iff_ne]; omega
    rw [this]; rfl
theorem shows_one (s : Bs) : showsZ (root [s]) s 0 1 [] = true := by
  have := shows_path (l := [s]) (i := 0) rfl (by simp)
  rw [path_one (by simp)] at this
  exact this
end Mk
theorem append_nothing (ao : Option Addr) (cap : Nat) (W : World) (b : Option Addr) (n c : Nat) (hnc : n ≤ c) (ty : TypeId) : (Builtin.append_ #[22, 22] ty #[.slice b n c, .slice ao 0 cap]).run Tryd.prog W = .ok (.slice b n c) W := by
  obtain ⟨i0, hi, hz0, hz1, hz2⟩ := info_parts info9
  refine run_append_nothing W 22 22 ty 9 i0 Tryd.underlying22 hi _ n c hnc _ ⟨Or.inl ⟨9, Tryd.underlying22⟩, fun w' => ?_, ?_, ?_, by simp, fun u hu => by cases hu⟩
  · simp [Builtin.lenOf]
  · cases ao <;> simp [Builtin.firstCells, loadCells, loadCellsFrom]
  · cases ao <;> simp [Builtin.firstCells, loadCells, loadCellsFrom]
/-- texts that lie anywhere, appended to a row of the call's own -/
theorem wp_append_sl {o : Oper} {a : Act} {w : World} {K : Act → World → Prop} {Q : Exit → Act → World → Prop} (s x : Operand)
    (ho : o.op = .call { callee := .builtin .append, args := #[s, x], argTypes := #[22, 22] }) (base : Nat) (v : Value) (n : Nat) (don : List (List UInt8)) (hs : a.eval s = v) (hown : w.ownsRow base 9 1 v n (scs don))
    (xa : Option Addr) (m c : Nat) (H : Nat) (l : List (List UInt8)) (hx : a.eval x = .slice xa m c) (hS : Sl w H (.slice xa m c) l) (h63 : n + m ≤ 1048576) (hbase : base ≤ w.heap.size)
    (h : ∀ v' w', w'.ownsRow base 9 1 v' (n + m) (scs (don ++ l)) → Below base w w' → K (a.put o.dst v') w') : o.wp Tryd.prog a w K Q := by
  obtain ⟨i0, hi, hz0, hz1, hz2⟩ := info_parts info9
  rcases Nat.eq_zero_or_pos l.length with h0 | h0
  · have hl : l = [] := List.eq_nil_of_length_eq_zero h0
    subst hl
    have hm : m = 0 := hS.len
    subst hm
    obtain ⟨b, k, hv, hbk⟩ : ∃ b k, v = .slice b n k ∧ n ≤ k := by
      rcases hown.2 with ⟨e, e0⟩ | ⟨g, cap, cur, e, _, _, e4, _⟩
      · subst e0; exact ⟨_, _, e, Nat.le_refl _⟩
      · exact ⟨_, _, e, e4⟩
    have hrun := append_nothing xa c w b n k hbk o.type
    have hk := h v w (by simpa using hown) (Below.refl _ _)
    subst hv
    unfold Oper.wp execOp
    simp only [ho, resolve, invoke, builtin, Sem.run_bind, Sem.run_pure, Result.andThen_ok, List.map_toArray, List.map_cons, List.map_nil, hs, hx, hrun]
    exact hk
  · obtain ⟨b, off, rfl, hm, hb, hc⟩ := hS.at h0
    subst hm
    refine wp_append_own (P := Tryd.prog) w s x 22 ho base 9 i0 (.string ⟨#[]⟩) 1 16 Tryd.underlying22 hi hz0 hz1 hz2 rfl (by decide) v n (scs don) hs hown ⟨b, off, none⟩ l.length c (scs l) hx (by rw [scs_length]; omega) ?_ ?_ (by unfold maxLen; omega) (by omega) hbase ?_
    · intro j u hj
      simp only [scs, List.getElem?_map, Option.map_eq_some_iff] at hj
      obtain ⟨y, hy, rfl⟩ := hj
      have := hc j y hy
      rw [Go.WideShapes.add_plain]; exact this
    · intro u hu
      obtain ⟨y, _, rfl⟩ := List.mem_map.1 hu
      rfl
    · intro v' w' h1 h2 _
      exact h v' w' (by have e : scs (don ++ l) = scs don ++ scs l := by simp [scs]
                        rw [e]; exact h1) ((Below.refl base w).grown h2 hbase (own_le hown))
theorem wpList_append_sl {ops : Array Oper} {rest : List Oper} {o : Oper} {a : Act} {w : World} {Q : Exit → Act → World → Prop} (hgd : o.guard = none) (s x : Operand)
    (ho : o.op = .call { callee := .builtin .append, args := #[s, x], argTypes := #[22, 22] }) (base : Nat) (v : Value) (n : Nat) (don : List (List UInt8)) (hs : a.eval s = v) (hown : w.ownsRow base 9 1 v n (scs don))
    (xa : Option Addr) (m c : Nat) (H : Nat) (l : List (List UInt8)) (hx : a.eval x = .slice xa m c) (hS : Sl w H (.slice xa m c) l) (h63 : n + m ≤ 1048576) (hbase : base ≤ w.heap.size)
    (h : ∀ v' w', w'.ownsRow base 9 1 v' (n + m) (scs (don ++ l)) → Below base w w' → wpList Tryd.prog ops Q rest (a.put o.dst v') w') : wpList Tryd.prog ops Q (o :: rest) a w :=
  wpList_plain hgd fun _ hK => wp_append_sl s x ho base v n don hs hown xa m c H l hx hS h63 hbase fun v' w' h1 h2 => hK _ _ (h v' w' h1 h2)
end Go.Proofs.YtoldfepeldbcpaaDoor
