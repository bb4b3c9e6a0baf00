/- Appending what lies anywhere, if anything: steps and items. -/
import Derived.Test.YtocnjmndiogdmaaGreatDoorPrXM
import Derived.Deep.Upon
import Derived.Deep.AppendLies
import Derived.Deep.RegionHeld3
import Derived.Lib.AppendZeros
namespace Go.Proofs.YtocnjmndiogdmaaGreatDoor
open Go.RowKit
namespace Ps
/-- where the cells of a slice lie -/
def SrcC (W : World) (xa : Option Addr) (news : List Value) : Prop := ∀ j u, news[j]? = some u → ∃ g o, xa = some ⟨g, o, none⟩ ∧ W.cell? ⟨g, o + j, none⟩ = some u
theorem SrcC.call {W W' : World} {xa : Option Addr} {l : List Value} (h : SrcC W xa l) (hb : Below W.heap.size W W') : SrcC W' xa l := fun j u hu => by
  obtain ⟨g, o, e, h1⟩ := h j u hu
  exact ⟨g, o, e, (hb.cell (p := ⟨g, o + j, none⟩) (block_lt_of_cell h1)).trans h1⟩
theorem own_block_le {W : World} {B size n : Nat} {t : TypeId} {v : Value} {L : List Value} (h : W.ownsRow B t size v n L) : ∀ k, v.ownBlock = some k → B ≤ k := by
  intro k hk
  rcases h.2 with ⟨e, _⟩ | ⟨g, cap, cur, e, hb, _⟩
  · rw [e] at hk; cases hk
  · rw [e] at hk; cases hk; exact hb
theorem append_none_any {t e : TypeId} {i : TypeInfo} (ht : Tryz.prog.underlying t = some (.slice e)) (hi : Tryz.prog.info? e = some i) (ao : Option Addr) (cap : Nat) (W : World) (b : Option Addr) (n c : Nat) (hnc : n ≤ c) (ty : TypeId) : (Builtin.append_ #[t, t] ty #[.slice b n c, .slice ao 0 cap]).run Tryz.prog W = .ok (.slice b n c) W := by
  refine run_append_nothing W t t ty e i ht hi _ n c hnc _ ⟨Or.inl ⟨e, ht⟩, fun w' => ?_, ?_, ?_, by simp, fun u hu => by cases hu⟩
  · simp [Builtin.lenOf]
  · cases ao <;> simp [Builtin.firstCells, loadCells, loadCellsFrom]
  · cases ao <;> simp [Builtin.firstCells, loadCells, loadCellsFrom]
theorem wp_append_any {o : Oper} {a : Act} {W : World} {K : Act → World → Prop} {Q : Exit → Act → World → Prop} (s x : Operand) (t : TypeId) (ho : o.op = .call { callee := .builtin .append, args := #[s, x], argTypes := #[t, t] })
    (base : Nat) (e : TypeId) (i : TypeInfo) (z : Value) (size bytes : Nat) (ht : Tryz.prog.underlying t = some (.slice e)) (hi : Tryz.prog.info? e = some i) (hz : i.zero = some z) (hsize : i.size = size) (hby : i.bytes = bytes) (hzs : z.cells.size = size) (hsz : 0 < size)
    (v : Value) (n : Nat) (xs : List Value) (hs : a.eval s = v) (hown : W.ownsRow base e size v n xs)
    (xa : Option Addr) (m c : Nat) (news : List Value) (hx : a.eval x = .slice xa m c) (hl : news.length = m * size) (hnews : SrcC W xa news) (h1 : ∀ u ∈ news, u.oneCell' = true)
    (h63 : n + m ≤ maxLen) (hbytes : (n + m) * bytes ≤ 140737488355328) (hbase : base ≤ W.heap.size)
    (h : ∀ b cap w', w'.ownsRow base e size (.slice b (n + m) cap) (n + m) (xs ++ news) → Below base W w' → (∀ k, k < W.heap.size → v.ownBlock ≠ some k → w'.heap[k]? = W.heap[k]?) → K (a.put o.dst (.slice b (n + m) cap)) w') : o.wp Tryz.prog a W K Q := by
  by_cases h0 : m = 0
  · subst h0
    have hn : news = [] := List.eq_nil_of_length_eq_zero (by rw [hl, Nat.zero_mul])
    subst hn
    obtain ⟨b, k, hv, hbk⟩ : ∃ b k, v = .slice b n k ∧ n ≤ k := by
      rcases hown.2 with ⟨e, e0⟩ | ⟨g, cap, cur, e, _, _, e4, _⟩
      · rw [e0]; exact ⟨_, _, e, Nat.le_refl _⟩
      · exact ⟨_, _, e, e4⟩
    have hrun := append_none_any ht hi xa c W b n k hbk o.type
    subst hv
    have hk := h b k W (by rw [List.append_nil]; exact hown) (Below.refl _ _) (fun _ _ _ => rfl)
    unfold Oper.wp execOp
    simp only [ho, resolve, invoke, builtin, Sem.run_bind, Sem.run_pure, Result.andThen_ok, List.map_toArray, List.map_cons, List.map_nil, hs, hx, hrun]
    exact hk
  · have hm : 0 < m := Nat.pos_of_ne_zero h0
    have hlen : 0 < news.length := by rw [hl]; exact Nat.mul_pos hm hsz
    obtain ⟨g, off, e0, _⟩ := hnews 0 _ (List.getElem?_eq_getElem hlen)
    subst e0
    refine wp_append_lies W s x t ho base e i z size bytes ht hi hz hsize hby hzs hsz v n xs hs hown ⟨g, off, none⟩ m c news hx hl (fun j u hu => ?_) h1 hm h63 hbytes hbase _ rfl ?_
    · obtain ⟨g', o', e1, h2⟩ := hnews j u hu
      cases e1
      rw [Addr.add_mid]
      exact h2
    · intro g cap w' ho' hg _ _
      exact h _ _ w' ho' ((Below.refl base W).grown hg hbase (own_block_le hown)) (fun k hk q => hg.block k hk (fun e => q e.symm))
theorem wpList_append_any {ops : Array Oper} {rest : List Oper} {o : Oper} {a : Act} {W : World} {Q : Exit → Act → World → Prop} (hgd : o.guard = none) (s x : Operand) (t : TypeId) (ho : o.op = .call { callee := .builtin .append, args := #[s, x], argTypes := #[t, t] })
    (base : Nat) (e : TypeId) (i : TypeInfo) (z : Value) (size bytes : Nat) (ht : Tryz.prog.underlying t = some (.slice e)) (hi : Tryz.prog.info? e = some i) (hz : i.zero = some z) (hsize : i.size = size) (hby : i.bytes = bytes) (hzs : z.cells.size = size) (hsz : 0 < size)
    (v : Value) (n : Nat) (xs : List Value) (hs : a.eval s = v) (hown : W.ownsRow base e size v n xs)
    (xa : Option Addr) (m c : Nat) (news : List Value) (hx : a.eval x = .slice xa m c) (hl : news.length = m * size) (hnews : SrcC W xa news) (h1 : ∀ u ∈ news, u.oneCell' = true)
    (h63 : n + m ≤ maxLen) (hbytes : (n + m) * bytes ≤ 140737488355328) (hbase : base ≤ W.heap.size)
    (h : ∀ b cap w', w'.ownsRow base e size (.slice b (n + m) cap) (n + m) (xs ++ news) → Below base W w' → (∀ k, k < W.heap.size → v.ownBlock ≠ some k → w'.heap[k]? = W.heap[k]?) → wpList Tryz.prog ops Q rest (a.put o.dst (.slice b (n + m) cap)) w') : wpList Tryz.prog ops Q (o :: rest) a W :=
  wpList_plain hgd fun _ hK => wp_append_any s x t ho base e i z size bytes ht hi hz hsize hby hzs hsz v n xs hs hown xa m c news hx hl hnews h1 h63 hbytes hbase fun b cap w' h2 h3 h4 => hK _ _ (h b cap w' h2 h3 h4)
theorem step_append_any {ops : Array Oper} {o : Oper} {a : Act} {W : World} {K : Act → World → Prop} {Q : Exit → Act → World → Prop} {E : Prop} (hgd : o.guard = none) (s x : Operand) (t : TypeId) (ho : o.op = .call { callee := .builtin .append, args := #[s, x], argTypes := #[t, t] })
    (base : Nat) (e : TypeId) (i : TypeInfo) (z : Value) (size bytes : Nat) (ht : Tryz.prog.underlying t = some (.slice e)) (hi : Tryz.prog.info? e = some i) (hz : i.zero = some z) (hsize : i.size = size) (hby : i.bytes = bytes) (hzs : z.cells.size = size) (hsz : 0 < size)
    (v : Value) (n : Nat) (xs : List Value) (hs : a.eval s = v) (hown : W.ownsRow base e size v n xs)
    (xa : Option Addr) (m c : Nat) (news : List Value) (hx : a.eval x = .slice xa m c) (hl : news.length = m * size) (hnews : SrcC W xa news) (h1 : ∀ u ∈ news, u.oneCell' = true)
    (h63 : n + m ≤ maxLen) (hbytes : (n + m) * bytes ≤ 140737488355328) (hbase : base ≤ W.heap.size)
    (h : ∀ b cap w', w'.ownsRow base e size (.slice b (n + m) cap) (n + m) (xs ++ news) → Below base W w' → (∀ k, k < W.heap.size → v.ownBlock ≠ some k → w'.heap[k]? = W.heap[k]?) → K (a.put o.dst (.slice b (n + m) cap)) w') :
    if Region.wanted o (yielded ops a.tmps) = true then Oper.wp Tryz.prog o a W K Q else E := by
  have hw : Region.wanted o (yielded ops a.tmps) = true := by simp [Region.wanted, hgd]
  rw [if_pos hw]
  exact wp_append_any s x t ho base e i z size bytes ht hi hz hsize hby hzs hsz v n xs hs hown xa m c news hx hl hnews h1 h63 hbytes hbase h
/-- an empty row -/
theorem own_none (W : World) (B : Nat) (hB : B ≤ W.heap.size) (t : TypeId) (size : Nat) : (W.alloc (.cells #[] t)).ownsRow B t size (.slice (some ⟨W.heap.size, 0, none⟩) 0 0) 0 [] :=
  ⟨by rw [Nat.zero_mul]; rfl, .inr ⟨_, 0, #[], rfl, hB, heap_alloc_new W _, Nat.le_refl _, by decide, by rw [Nat.zero_mul]; rfl, by rw [Nat.zero_mul]; rfl⟩⟩
theorem src_new (W : World) (C : Array Value) (t : TypeId) : SrcC (W.alloc (.cells C t)) (some ⟨W.heap.size, 0, none⟩) C.toList := fun j u hu => ⟨_, 0, rfl, by
  rw [Nat.zero_add, cell_of_row _ _ _ _ _ _ (heap_alloc_new W _), ← Array.getElem?_toList]
  exact hu⟩
theorem scs_len (l : List Sp) : (scs l).length = l.length * 3 := by
  induction l with
  | nil => rfl
  | cons p r ih =>
    rw [scs, List.flatMap_cons, List.length_append, List.length_cons]
    rw [scs] at ih
    rw [ih, show (sc p).toList.length = 3 from rfl]
    omega
theorem ics_len (l : List (It × Value)) : (ics l).length = l.length * 2 := by
  induction l with
  | nil => rfl
  | cons p r ih =>
    rw [ics, List.flatMap_cons, List.length_append, List.length_cons]
    rw [ics] at ih
    rw [ih]
    simp
    omega
theorem Sts.src {W : World} {a : Option Addr} {l : List Sp} (h : Sts W a l) : SrcC W a (scs l) := fun j u hu => by
  have hj : j < l.length * 3 := by have := (List.getElem?_eq_some_iff.1 hu).1; rwa [scs_len] at this
  obtain ⟨p, hp⟩ : ∃ p, l[j / 3]? = some p := ⟨_, List.getElem?_eq_getElem (by omega)⟩
  obtain ⟨g, o, e, c0, c1, c2⟩ := h _ p hp
  have hr := scs_at hp (j % 3) (by omega)
  rw [show j / 3 * 3 + j % 3 = j by omega, hu] at hr
  refine ⟨g, o, e, ?_⟩
  rcases (show j % 3 = 0 ∨ j % 3 = 1 ∨ j % 3 = 2 by omega) with q | q | q
  · rw [q] at hr
    cases hr
    rw [show o + j = o + j / 3 * 3 by omega]; exact c0
  · rw [q] at hr
    cases hr
    rw [show o + j = o + j / 3 * 3 + 1 by omega]; exact c1
  · rw [q] at hr
    cases hr
    rw [show o + j = o + j / 3 * 3 + 2 by omega]; exact c2
theorem scs_one (l : List Sp) : ∀ u ∈ scs l, u.oneCell' = true := fun u hu => by
  rw [scs] at hu
  obtain ⟨p, _, hp⟩ := List.mem_flatMap.1 hu
  have e : (sc p).toList = [.int .u8 (p.kind : Int), .string (Lx.bs p.text), .int .i64 p.n] := rfl
  rw [e] at hp
  simp at hp
  rcases hp with rfl | rfl | rfl <;> rfl
theorem own_sts {W : World} {B n c : Nat} {a : Option Addr} {l : List Sp} (h : W.ownsRow B 29 3 (.slice a n c) n (scs l)) : Sts W a l ∧ n = l.length ∧ n ≤ c ∧ c ≤ 9223372036854775807 := by
  have hn : n = l.length := by have := h.1; rw [scs_len] at this; omega
  obtain ⟨a', c', e, h1, h2, h3⟩ := own_at h
  cases e
  refine ⟨fun j p hp => ?_, hn, h1, Nat.le_trans h2 (by decide)⟩
  have g0 := h3 (j * 3 + 0) (.int .u8 (p.kind : Int)) (by rw [scs_at hp 0 (by decide)]; rfl)
  have g1 := h3 (j * 3 + 1) (.string (Lx.bs p.text)) (by rw [scs_at hp 1 (by decide)]; rfl)
  have g2 := h3 (j * 3 + 2) (.int .i64 p.n) (by rw [scs_at hp 2 (by decide)]; rfl)
  obtain ⟨g, rfl, _, k0⟩ := g0
  obtain ⟨g', e1, _, k1⟩ := g1
  cases e1
  obtain ⟨g', e1, _, k2⟩ := g2
  cases e1
  exact ⟨g, 0, rfl, by rw [Nat.zero_add]; exact k0, by rw [Nat.zero_add]; exact k1, by rw [Nat.zero_add]; exact k2⟩
/-- items with the slices of their expressions -/
def ItL (W : World) (L : List (It × Value)) : Prop := ∀ x ∈ L, ∃ ea ec, x.2 = .slice ea x.1.expr.length ec ∧ Sts W ea x.1.expr
theorem ItL.call {W W' : World} {L : List (It × Value)} (h : ItL W L) (hb : Below W.heap.size W W') : ItL W' L := fun x hx => by
  obtain ⟨ea, ec, e, hs⟩ := h x hx
  exact ⟨ea, ec, e, hs.call hb⟩
theorem ItL.more {W : World} {L M : List (It × Value)} (h : ItL W L) (hM : ItL W M) : ItL W (L ++ M) := fun x hx => (List.mem_append.1 hx).elim (h x) (hM x)
theorem gatherA {α : Type} {P : Nat → α → Prop} : ∀ (n : Nat), (∀ i, i < n → ∃ x, P i x) → ∃ l : List α, l.length = n ∧ ∀ i x, l[i]? = some x → P i x
  | 0, _ => ⟨[], rfl, fun i x h => by simp at h⟩
  | n + 1, h => by
    obtain ⟨l, hl, hp⟩ := gatherA n (fun i hi => h i (by omega))
    obtain ⟨x, hx⟩ := h n (by omega)
    refine ⟨l ++ [x], by simp [hl], fun i y hy => ?_⟩
    by_cases hi : i < n
    · rw [List.getElem?_append_left (by omega)] at hy
      exact hp i y hy
    · rw [List.getElem?_append_right (by omega), hl] at hy
      have : i - n = 0 := by
        have := (List.getElem?_eq_some_iff.1 hy).1
        simpa using this
      rw [this] at hy
      simp only [List.getElem?_cons_zero, Option.some.injEq] at hy
      rw [← hy, show i = n by omega]
      exact hx
theorem Itm.list {W : World} {a : Option Addr} {l : List It} (h : Itm W a l) : ∃ L : List (It × Value), L.map (·.1) = l ∧ ItL W L ∧ SrcC W a (ics L) := by
  obtain ⟨L, hL, hP⟩ := gatherA (P := fun j (x : It × Value) => l[j]? = some x.1 ∧ ∃ g o ea ec, a = some ⟨g, o, none⟩ ∧ W.cell? ⟨g, o + j * 2, none⟩ = some (.string (Lx.bs x.1.name)) ∧ W.cell? ⟨g, o + j * 2 + 1, none⟩ = some x.2 ∧ x.2 = .slice ea x.1.expr.length ec ∧ Sts W ea x.1.expr) l.length (fun j hj => by
    obtain ⟨g, o, ea, ec, e, c0, c1, hs⟩ := h j _ (List.getElem?_eq_getElem hj)
    exact ⟨(l[j], .slice ea l[j].expr.length ec), List.getElem?_eq_getElem hj, g, o, ea, ec, e, c0, c1, rfl, hs⟩)
  refine ⟨L, ?_, fun x hx => ?_, fun j u hu => ?_⟩
  · apply List.ext_getElem?
    intro j
    rw [List.getElem?_map]
    cases e : L[j]? with
    | none =>
      have : l.length ≤ j := by rw [← hL]; exact List.getElem?_eq_none_iff.1 e
      rw [List.getElem?_eq_none this]; rfl
    | some x => rw [(hP j x e).1]; rfl
  · obtain ⟨j, hj⟩ := List.getElem?_of_mem hx
    obtain ⟨_, g, o, ea, ec, _, _, _, e, hs⟩ := hP j x hj
    exact ⟨ea, ec, e, hs⟩
  · have hj : j < L.length * 2 := by have := (List.getElem?_eq_some_iff.1 hu).1; rwa [ics_len] at this
    obtain ⟨x, hx⟩ : ∃ x, L[j / 2]? = some x := ⟨_, List.getElem?_eq_getElem (by omega)⟩
    obtain ⟨_, g, o, ea, ec, e, c0, c1, _⟩ := hP _ x hx
    have hr := ics_at hx (j % 2) (by omega)
    rw [show j / 2 * 2 + j % 2 = j by omega, hu] at hr
    refine ⟨g, o, e, ?_⟩
    rcases (show j % 2 = 0 ∨ j % 2 = 1 by omega) with q | q
    · rw [q] at hr
      cases hr
      rw [show o + j = o + j / 2 * 2 by omega]; exact c0
    · rw [q] at hr
      cases hr
      rw [show o + j = o + j / 2 * 2 + 1 by omega]; exact c1
theorem ics_one {W : World} {L : List (It × Value)} (h : ItL W L) : ∀ u ∈ ics L, u.oneCell' = true := fun u hu => by
  rw [ics] at hu
  obtain ⟨x, hx, hp⟩ := List.mem_flatMap.1 hu
  obtain ⟨ea, ec, e, _⟩ := h x hx
  rw [e] at hp
  simp at hp
  rcases hp with rfl | rfl <;> rfl
theorem own_itm {W : World} {B n c : Nat} {a : Option Addr} {L : List (It × Value)} (h : W.ownsRow B 36 2 (.slice a n c) n (ics L)) (hE : ItL W L) : Itm W a (L.map (·.1)) := by
  obtain ⟨a', c', e, h1, h2, h3⟩ := own_at h
  cases e
  intro j i hi
  rw [List.getElem?_map] at hi
  cases hx : L[j]? with
  | none => rw [hx] at hi; cases hi
  | some x =>
    rw [hx] at hi
    cases hi
    have g0 := h3 (j * 2 + 0) (.string (Lx.bs x.1.name)) (by rw [ics_at hx 0 (by decide)]; rfl)
    have g1 := h3 (j * 2 + 1) x.2 (by rw [ics_at hx 1 (by decide)]; rfl)
    obtain ⟨g, rfl, _, k0⟩ := g0
    obtain ⟨g', e1, _, k1⟩ := g1
    cases e1
    obtain ⟨ea, ec, hv, hr⟩ := hE x (List.mem_of_getElem? hx)
    rw [hv] at k1
    exact ⟨g, 0, ea, ec, rfl, by rw [Nat.zero_add]; exact k0, by rw [Nat.zero_add]; exact k1, hr⟩
end Ps
end Go.Proofs.YtocnjmndiogdmaaGreatDoor
