/- Entries that lie anywhere, appended to a row of entries; what a range that is cut comes to. -/
import Derived.Test.YtkigenldiinioaaGreatDoorRfCM
import Derived.Deep.Upon
namespace Go.Proofs.YtkigenldiinioaaGreatDoor
open Go.RowKit
open Vl (V)
namespace Bt
theorem le_of {a p : V} (h : ¬ Vl.cmp p a < 0) : Vl.cmp a p ≤ 0 := by
  have := Vl.cmp_turn a p
  omega
/-- what lies at or above a key is not below a bound that the key is not below -/
theorem lb_at {lo : Option (Bool × V)} {a p : V} (h : ¬ Vl.cmp p a < 0) (ha : lb lo a = false) : lb lo p = false := by
  cases hq : lb lo p with
  | false => rfl
  | true =>
    rcases lo with _ | ⟨o, x⟩
    · cases hq
    · rw [lb, Bool.or_eq_true, Bool.and_eq_true, decide_eq_true_eq, decide_eq_true_eq] at hq
      have hap := le_of h
      have hpx : Vl.cmp p x ≤ 0 := by rcases hq with q | q <;> omega
      have t := Vl.tri_cmp a p x hap hpx
      have h1 : lb (some (o, x)) a = true := by
        rw [lb, Bool.or_eq_true, Bool.and_eq_true, decide_eq_true_eq, decide_eq_true_eq]
        rcases Int.lt_or_eq_of_le t.1 with q | q
        · exact .inl q
        · refine .inr ⟨q, ?_⟩
          rcases hq with q2 | q2
          · have := (t.2 q).2; omega
          · exact q2.2
      rw [h1] at ha
      cases ha
theorem ub_at {hi : Option (Bool × V)} {a p : V} (h : Vl.cmp p a < 0) (ha : ub hi a = false) : ub hi p = false := by
  cases hq : ub hi p with
  | false => rfl
  | true => rw [ub_mono h hq] at ha; cases ha
theorem parts_filter {lo hi : Option (Bool × V)} {a : V} (ha : inR lo hi a = true) : ∀ {L : KL}, L.Pairwise (fun p q => Vl.cmp p.1 q.1 < 0) → (L.filter fun p => inR lo hi p.1) = (L.filter fun p => inR lo (some (true, a)) p.1) ++ L.filter fun p => inR (some (false, a)) hi p.1
  | [], _ => rfl
  | p :: r, h => by
    obtain ⟨h1, h2⟩ := List.pairwise_cons.1 h
    have hl : lb lo a = false ∧ ub hi a = false := by
      rw [inR, Bool.and_eq_true] at ha
      simpa using ha
    have ih := parts_filter ha h2
    by_cases hp : Vl.cmp p.1 a < 0
    · have u := ub_at hp hl.2
      have e1 : inR lo hi p.1 = inR lo (some (true, a)) p.1 := by
        have : ub (some (true, a)) p.1 = false := by
          rw [ub, Bool.or_eq_false_iff, Bool.and_eq_false_iff, decide_eq_false_iff_not, decide_eq_false_iff_not]
          exact ⟨by omega, .inl (by omega)⟩
        rw [inR, inR, u, this]
      have e2 : inR (some (false, a)) hi p.1 = false := inR_lb (by rw [lb, Bool.or_eq_true, decide_eq_true_eq]; exact .inl hp)
      rw [List.filter_cons, List.filter_cons, List.filter_cons, e1, e2, ih]
      cases inR lo (some (true, a)) p.1 <;> simp
    · have hall : ∀ q ∈ p :: r, inR lo (some (true, a)) q.1 = false := fun q hq => by
        have hqa : ¬ Vl.cmp q.1 a < 0 := by
          rcases List.mem_cons.1 hq with e | e
          · rw [e]; exact hp
          · intro c
            exact hp (lt_trans (h1 q e) c)
        refine inR_ub ?_
        rw [ub, Bool.or_eq_true, Bool.and_eq_true, decide_eq_true_eq, decide_eq_true_eq]
        rcases Int.lt_trichotomy (Vl.cmp q.1 a) 0 with c | c | c
        · exact absurd c hqa
        · exact .inr ⟨c, rfl⟩
        · exact .inl c
      have e0 : ((p :: r).filter fun p => inR lo (some (true, a)) p.1) = [] := List.filter_eq_nil_iff.2 fun q hq => by rw [hall q hq]; simp
      rw [e0, List.nil_append]
      refine List.filter_congr fun q hq => ?_
      have hqa : ¬ Vl.cmp q.1 a < 0 := by
        rcases List.mem_cons.1 hq with e | e
        · rw [e]; exact hp
        · intro c
          exact hp (lt_trans (h1 q e) c)
      have l1 := lb_at hqa hl.1
      have l2 : lb (some (false, a)) q.1 = false := by
        rw [lb, Bool.or_eq_false_iff, Bool.and_eq_false_iff, decide_eq_false_iff_not]
        exact ⟨hqa, .inr rfl⟩
      rw [inR, inR, l1, l2]
end Bt
section
variable {w W W5 : World} {A : Nat → Prop} {L M : Bt.KL} {lv v' : Value}
theorem EntsA.cells {a : Option Addr} (h : EntsA w A a M) (hm : M ≠ []) : ∃ (g : Nat) (ds : List (List Value)), a = some ⟨g, 0, none⟩ ∧ ds.length = M.length ∧ (∀ (j : Nat) (p : V × List Nat) (c : List Value), M[j]? = some p → ds[j]? = some c → EntV w A p c) ∧ ∀ (j : Nat) (u : Value), ds.flatten[j]? = some u → w.cell? ((⟨g, 0, none⟩ : Addr).add j) = some u := by
  have h0 : ∀ i, i < M.length → ∃ c : List Value, (∃ g, a = some ⟨g, 0, none⟩ ∧ ∀ r u, c[r]? = some u → w.cell? ⟨g, i * 7 + r, none⟩ = some u) ∧ ∃ p, M[i]? = some p ∧ EntV w A p c := fun i hi => by
    obtain ⟨g, c, e, _, hE, hc⟩ := h i _ (List.getElem?_eq_getElem hi)
    exact ⟨c, ⟨g, e, hc⟩, _, List.getElem?_eq_getElem hi, hE⟩
  have gath : ∀ n, n ≤ M.length → ∃ ds : List (List Value), ds.length = n ∧ ∀ (i : Nat) c, ds[i]? = some c → (∃ g, a = some ⟨g, 0, none⟩ ∧ ∀ r u, c[r]? = some u → w.cell? ⟨g, i * 7 + r, none⟩ = some u) ∧ ∃ p, M[i]? = some p ∧ EntV w A p c := by
    intro n
    induction n with
    | zero => intro _; exact ⟨[], rfl, fun i c h => by simp at h⟩
    | succ n ih =>
      intro hn
      obtain ⟨ds, h1, h2⟩ := ih (by omega)
      obtain ⟨c, hc⟩ := h0 n (by omega)
      refine ⟨ds ++ [c], by simp [h1], fun i d hd => ?_⟩
      rcases Nat.lt_or_ge i n with q | q
      · rw [List.getElem?_append_left (by omega)] at hd; exact h2 i d hd
      · have : i = n := by
          have := (List.getElem?_eq_some_iff.1 hd).1
          simp at this
          omega
        subst this
        rw [List.getElem?_append_right (by omega), h1, Nat.sub_self] at hd
        simp at hd
        subst hd
        exact hc
  obtain ⟨ds, h1, h2⟩ := gath M.length (Nat.le_refl _)
  have hpos : 0 < M.length := List.length_pos_iff.2 hm
  obtain ⟨⟨g, hg, _⟩, _⟩ := h2 0 _ (List.getElem?_eq_getElem (by omega))
  have h7 : ∀ c ∈ ds, c.length = 7 := fun c hc => by
    obtain ⟨m, hm⟩ := List.getElem?_of_mem hc
    obtain ⟨_, _, _, hE⟩ := h2 m c hm
    exact hE.len
  refine ⟨g, ds, hg, h1, fun j p c hp hc => ?_, fun j u hu => ?_⟩
  · obtain ⟨_, q, hq, hE⟩ := h2 j c hc
    rw [hp] at hq
    cases hq
    exact hE
  · have hfl : ∀ {l : List (List Value)}, (∀ c ∈ l, c.length = 7) → l.flatten.length = l.length * 7 := by
      intro l
      induction l with
      | nil => intro _; rfl
      | cons x r ih => intro hh; rw [List.flatten_cons, List.length_append, hh x (by simp), ih fun c hc => hh c (by simp [hc]), List.length_cons]; omega
    have hj := (List.getElem?_eq_some_iff.1 hu).1
    rw [hfl h7] at hj
    have hd : j / 7 < ds.length := by omega
    obtain ⟨c, hc⟩ : ∃ c, ds[j / 7]? = some c := ⟨_, List.getElem?_eq_getElem hd⟩
    obtain ⟨⟨g2, hg2, hcell⟩, _⟩ := h2 _ c hc
    rw [hg] at hg2
    cases hg2
    have h8 := flat7 h7 hc (r := j % 7) (by omega)
    rw [show j / 7 * 7 + j % 7 = j by omega, hu] at h8
    have := hcell (j % 7) u h8.symm
    rw [show j / 7 * 7 + j % 7 = j by omega] at this
    rw [Addr.add_mid, Nat.zero_add]
    exact this
/-- more entries at once -/
theorem EO.many {cs ds : List (List Value)} (h : EO w A L lv W) (h1 : cs.length = L.length) (h2 : W.ownsRow w.heap.size 49 7 lv L.length cs.flatten) (h3 : ∀ (j : Nat) (p : V × List Nat) (c : List Value), L[j]? = some p → cs[j]? = some c → EntV W (OA A w.heap.size lv W) p c)
    (hd : ds.length = M.length) (hE : ∀ (j : Nat) (p : V × List Nat) (c : List Value), M[j]? = some p → ds[j]? = some c → EntV W A p c) (hg : W.grownBy W5 lv.ownBlock) (hv : v'.ownBlock = lv.ownBlock ∨ v'.ownBlock = some W.heap.size) (ho : W5.ownsRow w.heap.size 49 7 v' (L.length + M.length) (cs.flatten ++ ds.flatten)) : EO w A (L ++ M) v' W5 := by
  have s := h.below.size
  have s5 := hg.size
  have hown := EO.own_lt h2
  have mv : ∀ g, OA A w.heap.size lv W g → W5.heap[g]? = W.heap[g]? ∧ OA A w.heap.size v' W5 g := fun g hg' => by
    have hne : lv.ownBlock ≠ some g := by
      rcases hg' with q | q
      · intro e; have := h.lt g q; have := (hown g e).1; omega
      · exact q.2.2
    have hlt : g < W.heap.size := by
      rcases hg' with q | q
      · have := h.lt g q; omega
      · exact q.2.1
    refine ⟨hg.block g hlt fun e => hne e.symm, ?_⟩
    rcases hg' with q | q
    · exact .inl q
    · refine .inr ⟨q.1, by omega, ?_⟩
      rcases hv with q2 | q2
      · rw [q2]; exact q.2.2
      · rw [q2]; intro q3; injection q3 with q3; omega
  refine ⟨h.below.grown hg s (fun k e => (hown k e).1), h.lt, cs ++ ds, by simp [h1, hd], ?_, fun j f d hf hd' => ?_⟩
  · rw [List.flatten_append, List.length_append]
    exact ho
  · rcases Nat.lt_or_ge j L.length with q | q
    · rw [List.getElem?_append_left q] at hf
      rw [List.getElem?_append_left (by omega)] at hd'
      exact (h3 j f d hf hd').stays (fun g p => (mv g p).1) fun g p => (mv g p).2
    · rw [List.getElem?_append_right q] at hf
      rw [List.getElem?_append_right (by omega), h1] at hd'
      exact (hE _ f d hf hd').stays (fun g p => (mv g (.inl p)).1) fun g p => .inl p
theorem EntV.one {p : V × List Nat} {c : List Value} (h : EntV w A p c) : ∀ u ∈ c, u.oneCell' = true := by
  obtain ⟨k0, k1, k2, k3, k4, k5, pi, cap, rfl, hr, _⟩ := h
  obtain ⟨k, b, n, s, ao, ll, lc, fo, fl, fc, e⟩ := repA_form hr
  simp only [Value.agg.injEq, Array.mk.injEq, List.cons.injEq, and_true] at e
  obtain ⟨rfl, rfl, rfl, rfl, rfl, rfl⟩ := e
  intro u hu
  simp at hu
  rcases hu with rfl | rfl | rfl | rfl | rfl | rfl | rfl <;> rfl
theorem append_no_ents (ao : Option Addr) (cap : Nat) (W : World) (b : Option Addr) (n c : Nat) (hnc : n ≤ c) (ty : TypeId) : (Builtin.append_ #[22, 22] ty #[.slice b n c, .slice ao 0 cap]).run Tryz.prog W = .ok (.slice b n c) W := by
  obtain ⟨i0, hi, hz0, hz1, hz2⟩ := info_parts ent_info2
  refine run_append_nothing W 22 22 ty 49 i0 Tryz.underlying22 hi _ n c hnc _ ⟨Or.inl ⟨49, Tryz.underlying22⟩, fun w' => ?_, ?_, ?_, by simp, fun u hu => by cases hu⟩
  · simp [Builtin.lenOf]
  · cases ao <;> simp [Builtin.firstCells, loadCells, loadCellsFrom]
  · cases ao <;> simp [Builtin.firstCells, loadCells, loadCellsFrom]
/-- entries that lie anywhere, appended to a row of entries -/
theorem wpList_append_ents {ops : Array Oper} {rest : List Oper} {o : Oper} {a : Act} {Q : Exit → Act → World → Prop} (hgd : o.guard = none) (s x : Operand)
    (ho : o.op = .call { callee := .builtin .append, args := #[s, x], argTypes := #[22, 22] }) (hs : a.eval s = lv) (hE : EO w A L lv W) (xa : Option Addr) (m c : Nat) (hx : a.eval x = .slice xa m c) (hm : m = M.length) (hM : EntsA W A xa M) (h63 : L.length + m ≤ 1000000)
    (h : ∀ v' w', EO w A (L ++ M) v' w' → wpList Tryz.prog ops Q rest (a.put o.dst v') w') : wpList Tryz.prog ops Q (o :: rest) a W := by
  obtain ⟨cs, h1, h2, h3⟩ := hE.row
  by_cases h0 : M = []
  · refine wpList_plain hgd fun _ hK => ?_
    subst h0
    obtain rfl : m = 0 := hm
    obtain ⟨b, k, hv, hbk⟩ : ∃ b k, lv = .slice b L.length k ∧ L.length ≤ k := by
      rcases h2.2 with ⟨e, e0⟩ | ⟨g, cap, cur, e, _, _, e4, _⟩
      · rw [e0]; exact ⟨_, _, e, Nat.le_refl _⟩
      · exact ⟨_, _, e, e4⟩
    have hrun := append_no_ents xa c W b L.length k hbk o.type
    have hk := h lv W (by rw [List.append_nil]; exact hE)
    subst hv
    unfold Oper.wp execOp
    simp only [ho, resolve, invoke, builtin, Sem.run_bind, Sem.run_pure, Result.andThen_ok, List.map_toArray, List.map_cons, List.map_nil, hs, hx, hrun]
    exact hK _ _ hk
  · obtain ⟨i0, hi, hz0, hz1, hz2⟩ := info_parts ent_info2
    obtain ⟨g, ds, rfl, hd, hdE, hdc⟩ := hM.cells h0
    have hpos : 0 < M.length := List.length_pos_iff.2 h0
    have h7 : ∀ c ∈ ds, c.length = 7 := fun c hc => by
      obtain ⟨i, hi⟩ := List.getElem?_of_mem hc
      have hl := (List.getElem?_eq_some_iff.1 hi).1
      exact (hdE i _ c (List.getElem?_eq_getElem (by omega)) hi).len
    have hfl : ∀ {l : List (List Value)}, (∀ c ∈ l, c.length = 7) → l.flatten.length = l.length * 7 := by
      intro l
      induction l with
      | nil => intro _; rfl
      | cons x r ih => intro hh; rw [List.flatten_cons, List.length_append, hh x (by simp), ih fun c hc => hh c (by simp [hc]), List.length_cons]; omega
    refine wpList_append_lies W hgd s x 22 ho w.heap.size 49 i0 _ 7 104 Tryz.underlying22 hi hz0 hz1 hz2 rfl (by decide) lv L.length cs.flatten hs h2 ⟨g, 0, none⟩ m c ds.flatten hx (by rw [hfl h7, hd, hm]) hdc (fun u hu => ?_) (by omega) (by unfold maxLen; omega) (by omega) hE.below.size _ rfl ?_
    · obtain ⟨c, hc, huc⟩ := List.mem_flatten.1 hu
      obtain ⟨i, hi⟩ := List.getElem?_of_mem hc
      have hl := (List.getElem?_eq_some_iff.1 hi).1
      exact (hdE i _ c (List.getElem?_eq_getElem (by omega)) hi).one u huc
    · intro gg cap w' ho' hg hat _
      rw [hm] at ho'
      refine h _ w' ?_
      rw [hm]
      exact hE.many h1 h2 h3 hd hdE hg (hat.imp (fun q => by rw [q]; rfl) (fun q => by rw [q]; rfl)) ho'
/-- an empty row of one's own -/
theorem EO.empty (h : Below w.heap.size w W) (hA : ∀ g, A g → g < w.heap.size) : EO w A [] (.slice (some ⟨W.heap.size, 0, none⟩) 0 0) (W.alloc (.cells #[] 49)) :=
  ⟨h.trans ((below_new W _).mono h.size), hA, [], rfl, ⟨rfl, .inr ⟨W.heap.size, 0, #[], rfl, h.size, heap_alloc_new W _, Nat.le_refl _, by decide, rfl, rfl⟩⟩, fun j p c h => by simp at h⟩
/-- entries as they are read lie below -/
theorem EntsAt.a {a : Option Addr} (h : EntsAt w a M) (hK : ∀ (p : V × List Nat) v, Rep w w.heap.size p.1 v → RepA w (fun g => g < w.heap.size) p.1 v) : EntsA w (fun g => g < w.heap.size) a M := fun j p hp => by
  obtain ⟨g, k0, k1, k2, k3, k4, k5, pi, cap, h1, h2, ⟨c0, c1, c2, c3, c4, c5, c6⟩, h4, h5, h6⟩ := h j p hp
  refine ⟨g, _, h1, h2, ⟨k0, k1, k2, k3, k4, k5, pi, cap, rfl, hK p _ h4, h5⟩, fun r u hr => ?_⟩
  have hr7 : r < 7 := (List.getElem?_eq_some_iff.1 hr).1
  rcases (show r = 0 ∨ r = 1 ∨ r = 2 ∨ r = 3 ∨ r = 4 ∨ r = 5 ∨ r = 6 by omega) with rfl | rfl | rfl | rfl | rfl | rfl | rfl <;> (simp at hr; subst hr; assumption)
end
end Go.Proofs.YtkigenldiinioaaGreatDoor
