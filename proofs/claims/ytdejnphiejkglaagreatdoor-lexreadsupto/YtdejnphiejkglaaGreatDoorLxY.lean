/- Tokens appended to tokens; two texts with a blank between. -/
import Derived.Test.YtdejnphiejkglaaGreatDoorLxX
import Derived.Deep.Upon
import Derived.Deep.AppendLies
namespace Go.Proofs.YtdejnphiejkglaaGreatDoor
open Go.RowKit
theorem toks_nothing (ao : Option Addr) (cap : Nat) (W : World) (b : Option Addr) (n c : Nat) (hnc : n ≤ c) (ty : TypeId) : (Builtin.append_ #[25, 25] ty #[.slice b n c, .slice ao 0 cap]).run Tryz.prog W = .ok (.slice b n c) W := by
  obtain ⟨i0, hi, hz0, hz1, hz2⟩ := info_parts infoTok3
  refine run_append_nothing W 25 25 ty 24 i0 Tryz.underlying25 hi _ n c hnc _ ⟨Or.inl ⟨24, Tryz.underlying25⟩, fun w' => ?_, ?_, ?_, by simp, fun u hu => by cases hu⟩
  · simp [Builtin.lenOf]
  · cases ao <;> simp [Builtin.firstCells, loadCells, loadCellsFrom]
  · cases ao <;> simp [Builtin.firstCells, loadCells, loadCellsFrom]
theorem Lx.tcs_len (ts : List Lx.Tk) : (Lx.tcs ts).length = ts.length * 4 := by
  induction ts with
  | nil => rfl
  | cons t ts ih =>
    have : Lx.tcs (t :: ts) = [.int .u8 (t.kind : Int), .string (Lx.bs t.text), .int .i64 t.n, .int .i64 (t.at' : Int)] ++ Lx.tcs ts := by simp [Lx.tcs, Lx.tc]
    rw [this, List.length_append, ih]
    simp
    omega
theorem Lx.tcs_app (a b : List Lx.Tk) : Lx.tcs (a ++ b) = Lx.tcs a ++ Lx.tcs b := by simp [Lx.tcs]
theorem Lx.tcs_one (ts : List Lx.Tk) : ∀ u ∈ Lx.tcs ts, u.oneCell' = true := by
  intro u hu
  simp only [Lx.tcs, List.mem_flatMap] at hu
  obtain ⟨t, _, hu⟩ := hu
  simp [Lx.tc] at hu
  rcases hu with rfl | rfl | rfl | rfl <;> rfl
/-- tokens that lie anywhere, appended to a row of the call's own -/
theorem wp_append_tok {o : Oper} {a : Act} {w : World} {K : Act → World → Prop} {Q : Exit → Act → World → Prop} (s x : Operand)
    (ho : o.op = .call { callee := .builtin .append, args := #[s, x], argTypes := #[25, 25] }) (base : Nat) (v : Value) (n : Nat) (don : List Lx.Tk) (hs : a.eval s = v) (hown : w.ownsRow base 24 4 v n (Lx.tcs don))
    (xv : Value) (l : List Lx.Tk) (hx : a.eval x = xv) (hS : TR w xv l) (h63 : n + l.length ≤ 1048576) (hbase : base ≤ w.heap.size)
    (h : ∀ v' w', w'.ownsRow base 24 4 v' (n + l.length) (Lx.tcs (don ++ l)) → w.grownBy w' v.ownBlock → K (a.put o.dst v') w') : o.wp Tryz.prog a w K Q := by
  obtain ⟨i0, hi, hz0, hz1, hz2⟩ := info_parts infoTok3
  obtain ⟨xa, c, rfl, hS⟩ := hS
  rcases Nat.eq_zero_or_pos l.length with h0 | h0
  · have hl : l = [] := List.eq_nil_of_length_eq_zero h0
    subst hl
    obtain ⟨b, k, hv, hbk⟩ : ∃ b k, v = .slice b n k ∧ n ≤ k := by
      rcases hown.2 with ⟨e, e0⟩ | ⟨g, cap, cur, e, _, _, e4, _⟩
      · subst e0; exact ⟨_, _, e, Nat.le_refl _⟩
      · exact ⟨_, _, e, e4⟩
    have hrun := toks_nothing xa c w b n k hbk o.type
    have hk := h v w (by simpa using hown) ⟨rfl, rfl, rfl, Nat.le_refl _, fun _ _ _ => rfl⟩
    subst hv
    unfold Oper.wp execOp
    simp only [ho, resolve, invoke, builtin, Sem.run_bind, Sem.run_pure, Result.andThen_ok, List.map_toArray, List.map_cons, List.map_nil, hs, hx, List.length_nil, hrun]
    exact hk
  · obtain ⟨g, rfl, hg, hc⟩ := hS h0
    refine wp_append_lies (P := Tryz.prog) w s x 25 ho base 24 i0 _ 4 40 Tryz.underlying25 hi hz0 hz1 hz2 rfl (by decide) v n (Lx.tcs don) hs hown ⟨g, 0, none⟩ l.length c (Lx.tcs l) hx (Lx.tcs_len l) ?_ (Lx.tcs_one l) h0 (by unfold maxLen; omega) (by omega) hbase _ rfl ?_
    · intro j u hj
      rw [Go.WideShapes.add_plain, Nat.zero_add]
      exact hc j u hj
    · intro g2 cap w' h1 h2 _ _
      exact h _ w' (by rw [Lx.tcs_app]; exact h1) h2
theorem Lx.lex_app {a b : Lx.Bs} (hl : a.length + b.length < 16384) (h : (Lx.lex a).err = 0) : Lx.lex (a ++ 32 :: b) = Lx.join (Lx.lex a).toks ⟨(Lx.lex b).toks.map (Lx.sh (a.length + 1)), (Lx.lex b).err, if (Lx.lex b).err ≠ 0 then (Lx.lex b).pos + (a.length + 1) else 0⟩ := by
  have h1 := (Lx.lex_toks h).2
  have h2 := Lx.lx_app b h1 ((a ++ 32 :: b).length + 1) (Nat.lt_succ_self _)
  have h3 := Lx.lx_shift (b.length + 1) b 0 (a.length + 1)
  have e : 0 + a.length + 1 = 0 + (a.length + 1) := by omega
  have hb : Lx.lex b = Lx.lx (b.length + 1) b 0 := by rw [Lx.lex, if_neg (by omega)]
  rw [Lx.lex, if_neg (by simp; omega), h2, e, h3, ← hb]
/-- tokens, the first so many of them moved -/
def Lx.mv (c j : Nat) (ts : List Lx.Tk) : List Lx.Tk := (ts.take j).map (Lx.sh c) ++ ts.drop j
theorem Lx.mv_zero (c : Nat) (ts : List Lx.Tk) : Lx.mv c 0 ts = ts := by simp [Lx.mv]
theorem Lx.mv_all (c : Nat) (ts : List Lx.Tk) : Lx.mv c ts.length ts = ts.map (Lx.sh c) := by simp [Lx.mv]
theorem Lx.mv_len (c j : Nat) (ts : List Lx.Tk) : (Lx.mv c j ts).length = ts.length := by simp [Lx.mv]; omega
theorem Lx.mv_at {c j : Nat} {ts : List Lx.Tk} {t : Lx.Tk} (h : ts[j]? = some t) : (Lx.mv c j ts)[j]? = some t := by
  have hj := (List.getElem?_eq_some_iff.1 h).1
  rw [Lx.mv, List.getElem?_append_right (by simp; omega), List.getElem?_drop]
  rw [← h]
  congr 1
  simp
  omega
theorem Lx.mv_next {c j : Nat} {ts : List Lx.Tk} {t : Lx.Tk} (h : ts[j]? = some t) : Lx.mv c (j + 1) ts = (Lx.mv c j ts).set j (Lx.sh c t) := by
  have hj := (List.getElem?_eq_some_iff.1 h).1
  have he := (List.getElem?_eq_some_iff.1 h).2
  rw [Lx.mv, Lx.mv, List.set_append_right _ _ (by simp; omega)]
  have e1 : ts.drop j = t :: ts.drop (j + 1) := by rw [← he]; exact List.drop_eq_getElem_cons hj
  have e2 : ts.take (j + 1) = ts.take j ++ [t] := by rw [List.take_add_one, h]; rfl
  have e3 : j - (List.map (Lx.sh c) (ts.take j)).length = 0 := by simp; omega
  rw [e1, e2, e3]
  simp
theorem Lx.tcs_set (ts : List Lx.Tk) (j : Nat) (t : Lx.Tk) (p : Nat) (h : ts[j]? = some t) : Lx.tcs (ts.set j ⟨t.kind, t.text, t.n, p⟩) = (Lx.tcs ts).set (j * 4 + 3) (.int .i64 (p : Int)) := by
  induction ts generalizing j with
  | nil => simp at h
  | cons u ts ih =>
    have hc : ∀ (u : Lx.Tk) ts, Lx.tcs (u :: ts) = [.int .u8 (u.kind : Int), .string (Lx.bs u.text), .int .i64 u.n, .int .i64 (u.at' : Int)] ++ Lx.tcs ts := fun u ts => by simp [Lx.tcs, Lx.tc]
    cases j with
    | zero =>
      simp at h
      subst h
      rw [List.set_cons_zero, hc, hc]
      rfl
    | succ j =>
      rw [List.set_cons_succ, hc, hc, ih j (by simpa using h)]
      have : (j + 1) * 4 + 3 = (j * 4 + 3) + 4 := by omega
      rw [this]
      rfl
/-- a cell of a row of one's own, stored -/
theorem own_stored {W : World} {B n g cap j : Nat} {u : Value} {L : List Value} (h : W.ownsRow B 24 4 (.slice (some ⟨g, 0, none⟩) n cap) n L) : (W.setCell ⟨g, j, none⟩ u).ownsRow B 24 4 (.slice (some ⟨g, 0, none⟩) n cap) n (L.set j u) := by
  refine ⟨by rw [List.length_set]; exact h.1, ?_⟩
  rcases h.2 with ⟨h1, _⟩ | ⟨g2, cap2, cur, e, h2, h3, h4, h5, h6, h7⟩
  · cases h1
  · cases e
    refine Or.inr ⟨g, cap, cur.setIfInBounds j u, rfl, h2, heap_setCell_same W g j cur 24 u h3, h4, h5, by simpa using h6, ?_⟩
    rw [← h7, Array.toList_setIfInBounds, List.take_set]
theorem own_unfrozen {W : World} {B n g cap : Nat} {L : List Value} (h : W.ownsRow B 24 4 (.slice (some ⟨g, 0, none⟩) n cap) n L) (j : Nat) : W.frozen? ⟨g, j, none⟩ = false := by
  rcases h.2 with ⟨h1, _⟩ | ⟨g2, cap2, cur, e, h2, h3, h4, h5, h6, h7⟩
  · cases h1
  · cases e
    exact frozen_of_row W g j cur 24 h3
end Go.Proofs.YtdejnphiejkglaaGreatDoor
