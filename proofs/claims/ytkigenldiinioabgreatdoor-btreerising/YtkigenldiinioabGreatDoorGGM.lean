/- Several texts, joined: BtS, BtT, BtY, BtV -/
import Derived.Test.YtkigenldiinioabGreatDoorBtRM
import Derived.Test.YtkigenldiinioabGreatDoorBtQM
import Derived.Test.YtkigenldiinioabGreatDoorBtXM
/- A tree that is changed: its memory, told apart from its keys'; what one more number, one more key make of it. -/
namespace Go.Proofs.YtkigenldiinioabGreatDoor
open Go.RowKit
open Vl (V)
namespace Bt
/-- one answer anew -/
def set {α : Type} (f : Nat → α) (e : Nat) (v : α) : Nat → α := fun y => if y = e then v else f y
theorem set_same {α : Type} (f : Nat → α) (e : Nat) (v : α) : set f e v e = v := if_pos rfl
theorem set_other {α : Type} {f : Nat → α} {e y : Nat} {v : α} (h : y ≠ e) : set f e v y = f y := if_neg h
/-- the blocks of nodes and of their rows -/
def blocks : T → List Nat
  | .nil => []
  | .node g r _ a b c d => g :: r :: (blocks a ++ blocks b ++ blocks c ++ blocks d)
/-- numbers, and one more -/
def nins (id : Nat) (l : List Nat) : List Nat := l.take (nspot id l) ++ id :: l.drop (nspot id l)
/-- keys, and one more -/
def kins (key : Nat → V) (e : Nat) (l : List Nat) : List Nat := l.take (spot key (key e) l) ++ e :: l.drop (spot key (key e) l)
theorem nins_length (id : Nat) (l : List Nat) : (nins id l).length = l.length + 1 := by
  simp only [nins, List.length_append, List.length_take, List.length_cons, List.length_drop]; omega
theorem nins_asc {id : Nat} {l : List Nat} (h : l.Pairwise (· < ·)) (hn : nhas id l = false) : (nins id l).Pairwise (· < ·) := by
  obtain ⟨hk, h12⟩ := nspot_cut (id := id) h
  have h1 : ∀ j x, j < nspot id l → l[j]? = some x → x < id := fun j x hj hx => by simpa using (h12 j x hx).2 hj
  have h2 : ∀ j x, nspot id l ≤ j → l[j]? = some x → ¬ x < id := fun j x hj hx q => by have := (h12 j x hx).1 (by simpa using q); omega
  have e := List.take_append_drop (nspot id l) l
  have h' := h
  rw [← e, List.pairwise_append] at h'
  obtain ⟨ha, hb, hab⟩ := h'
  have hlo : ∀ x ∈ l.take (nspot id l), x < id := fun x hx => by
    obtain ⟨j, hj⟩ := List.getElem?_of_mem hx
    have hlt : j < nspot id l := by
      have := (List.getElem?_eq_some_iff.1 hj).1
      rw [List.length_take] at this
      omega
    rw [List.getElem?_take_of_lt hlt] at hj
    exact h1 j x hlt hj
  have hhi : ∀ x ∈ l.drop (nspot id l), id < x := fun x hx => by
    obtain ⟨j, hj⟩ := List.getElem?_of_mem hx
    rw [List.getElem?_drop] at hj
    have h3 := h2 (nspot id l + j) x (by omega) hj
    have h4 : ¬ x < id := h3
    rcases Nat.lt_or_ge id x with q | q
    · exact q
    · exfalso
      have hx' : x = id := by omega
      have h0 : l[nspot id l]? = some id := by
        rcases Nat.eq_zero_or_pos j with h5 | h5
        · subst h5; rw [Nat.add_zero] at hj; rw [hj, hx']
        · have hl0 : nspot id l < l.length := by have := (List.getElem?_eq_some_iff.1 hj).1; omega
          have h6 : l[nspot id l] < x := by
            have h7 := List.pairwise_iff_getElem.1 h (nspot id l) (nspot id l + j) hl0 (List.getElem?_eq_some_iff.1 hj).1 (by omega)
            rw [(List.getElem?_eq_some_iff.1 hj).2] at h7
            exact h7
          have h8 := h2 (nspot id l) l[nspot id l] (Nat.le_refl _) (List.getElem?_eq_getElem hl0)
          have h9 : ¬ l[nspot id l] < id := h8
          omega
      rw [nhas, h0] at hn
      simp at hn
  rw [nins, List.pairwise_append]
  refine ⟨ha, List.pairwise_cons.2 ⟨hhi, hb⟩, fun x hx y hy => ?_⟩
  rcases List.mem_cons.1 hy with rfl | hy
  · exact hlo x hx
  · exact hab x hx y hy
theorem rises_nodup {key : Nat → V} {l : List Nat} (h : Rises key l) : l.Nodup := h.imp fun {a b} hab e => by
  subst e
  have := Vl.cmp_turn (key a) (key a)
  omega
theorem mem_kins {key : Nat → V} {e y : Nat} {l : List Nat} : y ∈ kins key e l ↔ y = e ∨ y ∈ l := by
  rw [kins, List.mem_append, List.mem_cons]
  have := List.take_append_drop (spot key (key e) l) l
  constructor
  · rintro (h | h | h)
    · exact .inr (List.mem_of_mem_take h)
    · exact .inl h
    · exact .inr (List.mem_of_mem_drop h)
  · rintro (h | h)
    · exact .inr (.inl h)
    · rw [← this, List.mem_append] at h
      rcases h with h | h
      · exact .inl h
      · exact .inr (.inr h)
theorem kins_length (key : Nat → V) (e : Nat) (l : List Nat) : (kins key e l).length = l.length + 1 := by
  simp only [kins, List.length_append, List.length_take, List.length_cons, List.length_drop]; omega
theorem kins_rises {key : Nat → V} {e : Nat} {l : List Nat} (h : Rises key l) (hn : at? key (key e) l = none) : Rises key (kins key e l) := by
  obtain ⟨hk, h12⟩ := spot_cut (x := key e) h
  have h1 : ∀ j x, j < spot key (key e) l → l[j]? = some x → Vl.cmp (key x) (key e) < 0 := fun j x hj hx => by simpa [ahead] using (h12 j x hx).2 hj
  have h2 : ∀ j x, spot key (key e) l ≤ j → l[j]? = some x → ¬ Vl.cmp (key x) (key e) < 0 := fun j x hj hx q => by have := (h12 j x hx).1 (by simpa [ahead] using q); omega
  have h' := h
  rw [← List.take_append_drop (spot key (key e) l) l, rises_app] at h'
  obtain ⟨ha, hb, hab⟩ := h'
  have hne : ∀ x ∈ l, Vl.cmp (key x) (key e) ≠ 0 := fun x hx q => by
    have h3 := List.find?_eq_none.1 hn x hx
    simp [q] at h3
  have hlo : ∀ x ∈ l.take (spot key (key e) l), Vl.cmp (key x) (key e) < 0 := fun x hx => by
    obtain ⟨j, hj⟩ := List.getElem?_of_mem hx
    have hlt : j < spot key (key e) l := by
      have := (List.getElem?_eq_some_iff.1 hj).1
      rw [List.length_take] at this
      omega
    rw [List.getElem?_take_of_lt hlt] at hj
    exact h1 j x hlt hj
  have hhi : ∀ x ∈ l.drop (spot key (key e) l), Vl.cmp (key e) (key x) < 0 := fun x hx => by
    have hm := List.mem_of_mem_drop hx
    obtain ⟨j, hj⟩ := List.getElem?_of_mem hx
    rw [List.getElem?_drop] at hj
    have h3 := h2 (spot key (key e) l + j) x (by omega) hj
    have h4 : ¬ Vl.cmp (key x) (key e) < 0 := h3
    have h5 := hne x hm
    have h6 := Vl.cmp_turn (key e) (key x)
    omega
  rw [kins, rises_app, rises_cons]
  refine ⟨ha, ⟨hhi, hb⟩, fun x hx y hy => ?_⟩
  rcases List.mem_cons.1 hy with rfl | hy
  · exact hlo x hx
  · exact hab x hx y hy
theorem kins_sum (f : Nat → Nat) (key : Nat → V) (e : Nat) (l : List Nat) : ((kins key e l).map f).sum = (l.map f).sum + f e := by
  rw [kins]
  conv => rhs; rw [← List.take_append_drop (spot key (key e) l) l]
  simp only [List.map_append, List.map_cons, List.sum_append, List.sum_cons]
  omega
theorem set_sum (f : Nat → Nat) (e : Nat) : ∀ (l : List Nat), l.Nodup → e ∈ l → (l.map (set f e (f e + 1))).sum = (l.map f).sum + 1
  | [], _, h => by cases h
  | x :: r, hn, h => by
    obtain ⟨n1, n2⟩ := List.nodup_cons.1 hn
    simp only [List.map_cons, List.sum_cons]
    by_cases q : x = e
    · subst q
      rw [set_same]
      have : r.map (set f x (f x + 1)) = r.map f := List.map_congr_left fun y hy => set_other fun e => n1 (e ▸ hy)
      rw [this]; omega
    · rw [set_other q, set_sum f e r n2 ((List.mem_cons.1 h).resolve_left fun q2 => q q2.symm)]; omega
end Bt
/-- nothing but blocks of a kind has turned -/
structure Kept (F : Nat → Prop) (w w' : World) : Prop where
  os : w'.os = w.os
  tape : w'.tape = w.tape
  output : w'.output = w.output
  size : w.heap.size ≤ w'.heap.size
  block : ∀ k, k < w.heap.size → ¬ F k → w'.heap[k]? = w.heap[k]?
theorem Kept.of_below {F : Nat → Prop} {w w' : World} (h : Below w.heap.size w w') : Kept F w w' := ⟨h.os, h.tape, h.output, h.size, fun k hk _ => h.block k hk⟩
theorem Kept.trans {F G : Nat → Prop} {a b c : World} (h : Kept F a b) (k : Kept G b c) (hG : ∀ g, g < a.heap.size → G g → F g) : Kept F a c :=
  ⟨k.os.trans h.os, k.tape.trans h.tape, k.output.trans h.output, Nat.le_trans h.size k.size, fun i hi hf => (k.block i (Nat.lt_of_lt_of_le hi h.size) fun q => hf (hG i hi q)).trans (h.block i hi hf)⟩
theorem Kept.below {F : Nat → Prop} {w w' : World} {n : Nat} (h : Kept F w w') (hF : ∀ g, F g → n ≤ g) (hn : n ≤ w.heap.size) : Below n w w' :=
  ⟨h.os, h.tape, h.output, h.size, fun k hk => h.block k (by omega) fun q => by have := hF k q; omega⟩
theorem owns_stays {w w' : World} {b ty k n : Nat} {v : Value} {L : List Value} (h : w.ownsRow b ty k v n L) (hb : ∀ g, v.ownBlock = some g → w'.heap[g]? = w.heap[g]?) : w'.ownsRow b ty k v n L := by
  refine ⟨h.1, ?_⟩
  rcases h.2 with h1 | ⟨g, cap, cur, rfl, h2, h3, h4⟩
  · exact .inl h1
  · exact .inr ⟨g, cap, cur, rfl, h2, (hb g rfl).trans h3, h4⟩
/-- an entry in memory: its key, its numbers, their row's block -/
def EA (w : World) (F : Nat → Prop) (k : V) (l : List Nat) (e i : Nat) : Prop :=
  ∃ c0 c1 c2 c3 c4 c5 cap, w.heap[e]? = some (.cells #[c0, c1, c2, c3, c4, c5, .slice (some ⟨i, 0, none⟩) l.length cap] 63 (0, 0)) ∧ RepA w (fun g => g < w.heap.size ∧ ¬ F g) k (.agg #[c0, c1, c2, c3, c4, c5]) ∧ IdsAt w (.slice (some ⟨i, 0, none⟩) l.length cap) l
theorem EA.ek {w : World} {F : Nat → Prop} {k : V} {l : List Nat} {e i : Nat} (h : EA w F k l e i) : EK w w.heap.size k e := by
  obtain ⟨c0, c1, c2, c3, c4, c5, cap, h1, h2, _⟩ := h
  exact ⟨lt_of_row h1, c0, c1, c2, c3, c4, c5, _, h1, repA_rep (fun g hg => hg.1) _ _ h2⟩
theorem EA.stays {w w' : World} {F G : Nat → Prop} {k : V} {l : List Nat} {e i : Nat} (h : EA w F k l e i) (he : w'.heap[e]? = w.heap[e]?) (hi : w'.heap[i]? = w.heap[i]?) (hk : ∀ g, g < w.heap.size → ¬ F g → w'.heap[g]? = w.heap[g]? ∧ g < w'.heap.size ∧ ¬ G g) : EA w' G k l e i := by
  obtain ⟨c0, c1, c2, c3, c4, c5, cap, h1, h2, h3⟩ := h
  refine ⟨c0, c1, c2, c3, c4, c5, cap, he.trans h1, repA_stays (fun g hg => (hk g hg.1 hg.2).1) (fun g hg => (hk g hg.1 hg.2).2) _ _ h2, owns_stays h3 fun g hg => ?_⟩
  obtain rfl : g = i := by injection hg with hg; exact hg.symm
  exact hi
/-- a tree that can be changed -/
structure TA (w : World) (F : Nat → Prop) (tb : Nat) (t : Bt.T) (key : Nat → V) (ids : Nat → List Nat) (ir : Nat → Nat) (n : Nat) : Prop where
  box : w.heap[tb]? = some (.cells #[Bt.ptr (Bt.top t), .int .i64 (n : Int)] 58 (0, 0))
  lt : ∀ g, F g → g < w.heap.size
  fbox : F tb
  nt : NT w t
  fnt : ∀ g ∈ Bt.blocks t, F g
  nd : (Bt.blocks t).Nodup
  ent : ∀ e ∈ Bt.flat t, F e ∧ F (ir e) ∧ EA w F (key e) (ids e) e (ir e)
  inj : ∀ e ∈ Bt.flat t, ∀ f ∈ Bt.flat t, ir e = ir f → e = f
  wf : Bt.wf t
  rises : Bt.Rises key (Bt.flat t)
  lev : Bt.levels t = Bt.fewest (Bt.flat t).length
  small : ∀ e ∈ Bt.flat t, Vl.small (key e)
  asc : ∀ e ∈ Bt.flat t, (ids e).Pairwise (· < ·) ∧ 1 ≤ (ids e).length
  sum : n = ((Bt.flat t).map fun e => (ids e).length).sum
  le : n ≤ 1024
theorem nt_stays {w w' : World} : ∀ {t : Bt.T}, NT w t → (∀ g ∈ Bt.blocks t, w'.heap[g]? = w.heap[g]?) → NT w' t
  | .nil, _, _ => trivial
  | .node g r es a b c d, h, hb => by
    obtain ⟨⟨cap, h1, h2⟩, ha, hbb, hc, hd⟩ := h
    refine ⟨⟨cap, (hb g (by simp [Bt.blocks])).trans h1, owns_stays h2 fun g' hg => ?_⟩, nt_stays ha fun x hx => hb x (by simp [Bt.blocks, hx]), nt_stays hbb fun x hx => hb x (by simp [Bt.blocks, hx]), nt_stays hc fun x hx => hb x (by simp [Bt.blocks, hx]), nt_stays hd fun x hx => hb x (by simp [Bt.blocks, hx])⟩
    obtain rfl : g' = r := by injection hg with hg; exact hg.symm
    exact hb g' (by simp [Bt.blocks])
theorem nt_lt {w : World} : ∀ {t : Bt.T}, NT w t → ∀ g ∈ Bt.blocks t, g < w.heap.size
  | .nil, _, _, h => by cases h
  | .node g r es a b c d, h, x, hx => by
    obtain ⟨⟨cap, h1, h2⟩, ha, hbb, hc, hd⟩ := h
    simp only [Bt.blocks, List.mem_cons, List.mem_append] at hx
    rcases hx with rfl | rfl | ((hx | hx) | hx) | hx
    · exact lt_of_row h1
    · rcases h2.2 with ⟨h3, _⟩ | ⟨g', cap', cur, h3, _, h4, _⟩
      · cases h3
      · cases h3; exact lt_of_row h4
    · exact nt_lt ha x hx
    · exact nt_lt hbb x hx
    · exact nt_lt hc x hx
    · exact nt_lt hd x hx
theorem rt_of {w : World} {key : Nat → V} : ∀ {t : Bt.T}, Bt.wf t → NT w t → (∀ e ∈ Bt.flat t, EK w w.heap.size (key e) e) → RT w w.heap.size key t
  | .nil, _, _, _ => trivial
  | .node g r es a b c d, hw, h, hk => by
    obtain ⟨s1, s2, s3, s4, s5⟩ := flat_entries hw
    have hl := nt_lt h
    obtain ⟨⟨cap, h1, h2⟩, ha, hbb, hc, hd⟩ := h
    obtain ⟨_, _, _, wa, wb, wc, wd⟩ := hw
    refine ⟨⟨hl g (by simp [Bt.blocks]), hl r (by simp [Bt.blocks]), ⟨cap, h1⟩, fun j e hj => ?_, fun e he => hk e (s1.subset he)⟩, rt_of wa ha fun e he => hk e (s2.subset he), rt_of wb hbb fun e he => hk e (s3.subset he), rt_of wc hc fun e he => hk e (s4.subset he), rt_of wd hd fun e he => hk e (s5.subset he)⟩
    rw [Nat.zero_add]
    rcases h2.2 with ⟨h, _⟩ | ⟨g', cap', cur', h, _, hcr', _, _, _, htk⟩
    · cases h
    · cases h
      refine cells_at hcr' j _ ?_
      have hlt := (List.getElem?_eq_some_iff.1 hj).1
      have : (es.map fun e => Bt.ptr (some e))[j]? = some (.pointer (some ⟨e, 0, none⟩)) := by rw [List.getElem?_map, hj]; rfl
      rw [← htk, List.getElem?_take_of_lt (by omega), Array.getElem?_toList] at this
      exact this
theorem TA.rt {w : World} {F : Nat → Prop} {tb : Nat} {t : Bt.T} {key : Nat → V} {ids : Nat → List Nat} {ir : Nat → Nat} {n : Nat} (h : TA w F tb t key ids ir n) : RT w w.heap.size key t := rt_of h.wf h.nt fun e he => (h.ent e he).2.2.ek
theorem TA.up {w : World} {F : Nat → Prop} {tb : Nat} {t : Bt.T} {key : Nat → V} {ids : Nat → List Nat} {ir : Nat → Nat} {n : Nat} (h : TA w F tb t key ids ir n) : Bt.up key t := Bt.up_of h.wf h.rises
theorem TA.stays {w w' : World} {F : Nat → Prop} {tb : Nat} {t : Bt.T} {key : Nat → V} {ids : Nat → List Nat} {ir : Nat → Nat} {n : Nat} (h : TA w F tb t key ids ir n) (hb : Below w.heap.size w w') : TA w' F tb t key ids ir n where
  box := (hb.block _ (lt_of_row h.box)).trans h.box
  lt := fun g hg => Nat.lt_of_lt_of_le (h.lt g hg) hb.size
  fbox := h.fbox
  nt := nt_stays h.nt fun g hg => hb.block g (h.lt g (h.fnt g hg))
  fnt := h.fnt
  nd := h.nd
  ent := fun e he => ⟨(h.ent e he).1, (h.ent e he).2.1, (h.ent e he).2.2.stays (hb.block _ (h.lt _ (h.ent e he).1)) (hb.block _ (h.lt _ (h.ent e he).2.1)) fun g hg hf => ⟨hb.block g hg, Nat.lt_of_lt_of_le hg hb.size, hf⟩⟩
  inj := h.inj
  wf := h.wf
  rises := h.rises
  lev := h.lev
  small := h.small
  asc := h.asc
  sum := h.sum
  le := h.le
theorem Bt.mem_le_sum {x : Nat} : ∀ {l : List Nat}, x ∈ l → x ≤ l.sum
  | [], h => by cases h
  | y :: r, h => by
    rw [List.sum_cons]
    rcases List.mem_cons.1 h with rfl | h
    · omega
    · have := Bt.mem_le_sum h; omega
/-- the numbers of a key are few -/
theorem TA.few {w : World} {F : Nat → Prop} {tb : Nat} {t : Bt.T} {key : Nat → V} {ids : Nat → List Nat} {ir : Nat → Nat} {n : Nat} (h : TA w F tb t key ids ir n) {e : Nat} (he : e ∈ Bt.flat t) : (ids e).length ≤ n := by
  rw [h.sum]
  exact Bt.mem_le_sum (List.mem_map.2 ⟨e, he, rfl⟩)
theorem Bt.le_sum {f : Nat → Nat} : ∀ {l : List Nat}, (∀ e ∈ l, 1 ≤ f e) → l.length ≤ (l.map f).sum
  | [], _ => Nat.zero_le _
  | x :: r, h => by
    have := Bt.le_sum (f := f) (l := r) fun e he => h e (by simp [he])
    have := h x (by simp)
    simp only [List.length_cons, List.map_cons, List.sum_cons]
    omega
theorem TA.keys {w : World} {F : Nat → Prop} {tb : Nat} {t : Bt.T} {key : Nat → V} {ids : Nat → List Nat} {ir : Nat → Nat} {n : Nat} (h : TA w F tb t key ids ir n) : (Bt.flat t).length ≤ n := by
  rw [h.sum]
  exact Bt.le_sum (f := fun e => (ids e).length) fun e he => (h.asc e he).2
end Go.Proofs.YtkigenldiinioabGreatDoor
/- One more number of a key that a tree has: walked. -/
namespace Go.Proofs.YtkigenldiinioabGreatDoor
open Go.RowKit
open Vl (V)
attribute [local go_sem ↓] Go.wp_at_zero Go.wp_at_succ
/-- a block's type -/
def Typ (w : World) (g ty : Nat) : Prop := ∃ cs fr, w.heap[g]? = some (.cells cs ty fr)
theorem Typ.ne {w : World} {g h a b : Nat} (hg : Typ w g a) (hh : Typ w h b) (hab : a ≠ b) : g ≠ h := fun e => by
  subst e
  obtain ⟨cs, fr, h1⟩ := hg
  obtain ⟨cs', fr', h2⟩ := hh
  rw [h1] at h2
  simp only [Option.some.injEq, Obj.cells.injEq] at h2
  exact hab h2.2.1
theorem nt_typ {w : World} : ∀ {t : Bt.T}, NT w t → ∀ g ∈ Bt.blocks t, Typ w g 87 ∨ Typ w g 60
  | .nil, _, _, h => by cases h
  | .node g r es a b c d, h, x, hx => by
    obtain ⟨⟨cap, h1, h2⟩, ha, hbb, hc, hd⟩ := h
    simp only [Bt.blocks, List.mem_cons, List.mem_append] at hx
    rcases hx with rfl | rfl | ((hx | hx) | hx) | hx
    · exact .inl ⟨_, _, h1⟩
    · rcases h2.2 with ⟨h3, _⟩ | ⟨g', cap', cur, h3, _, h4, _⟩
      · cases h3
      · cases h3; exact .inr ⟨_, _, h4⟩
    · exact nt_typ ha x hx
    · exact nt_typ hbb x hx
    · exact nt_typ hc x hx
    · exact nt_typ hd x hx
theorem EA.typ {w : World} {F : Nat → Prop} {k : V} {l : List Nat} {e i : Nat} (h : EA w F k l e i) : Typ w e 63 ∧ Typ w i 45 := by
  obtain ⟨c0, c1, c2, c3, c4, c5, cap, h1, _, h2⟩ := h
  refine ⟨⟨_, _, h1⟩, ?_⟩
  rcases h2.2 with ⟨h3, _⟩ | ⟨g', cap', cur, h3, _, h4, _⟩
  · cases h3
  · cases h3; exact ⟨_, _, h4⟩
/-- a tree's own blocks -/
def OB (tb : Nat) (t : Bt.T) (ir : Nat → Nat) (g : Nat) : Prop := g = tb ∨ g ∈ Bt.blocks t ∨ ∃ e ∈ Bt.flat t, g = e ∨ g = ir e
theorem Kept.mono {F G : Nat → Prop} {w w' : World} (h : Kept F w w') (hG : ∀ g, F g → G g) : Kept G w w' := ⟨h.os, h.tape, h.output, h.size, fun k hk q => h.block k hk fun q2 => q (hG k q2)⟩
section
variable {w : World} {F : Nat → Prop} {tb : Nat} {t : Bt.T} {key : Nat → V} {ids : Nat → List Nat} {ir : Nat → Nat} {n : Nat}
theorem TA.tbt (h : TA w F tb t key ids ir n) : Typ w tb 58 := ⟨_, _, h.box⟩
theorem TA.tb_ne (h : TA w F tb t key ids ir n) {e : Nat} (he : e ∈ Bt.flat t) : tb ≠ e ∧ tb ≠ ir e :=
  ⟨h.tbt.ne (h.ent e he).2.2.typ.1 (by decide), h.tbt.ne (h.ent e he).2.2.typ.2 (by decide)⟩
theorem TA.e_ne (h : TA w F tb t key ids ir n) {e f : Nat} (he : e ∈ Bt.flat t) (hf : f ∈ Bt.flat t) : e ≠ ir f :=
  (h.ent e he).2.2.typ.1.ne (h.ent f hf).2.2.typ.2 (by decide)
theorem TA.blk_ne (h : TA w F tb t key ids ir n) {g : Nat} (hg : g ∈ Bt.blocks t) : g ≠ tb ∧ ∀ e ∈ Bt.flat t, g ≠ e ∧ g ≠ ir e := by
  rcases nt_typ h.nt g hg with q | q
  · exact ⟨q.ne h.tbt (by decide), fun e he => ⟨q.ne (h.ent e he).2.2.typ.1 (by decide), q.ne (h.ent e he).2.2.typ.2 (by decide)⟩⟩
  · exact ⟨q.ne h.tbt (by decide), fun e he => ⟨q.ne (h.ent e he).2.2.typ.1 (by decide), q.ne (h.ent e he).2.2.typ.2 (by decide)⟩⟩
theorem TA.ob (h : TA w F tb t key ids ir n) {g : Nat} (hg : OB tb t ir g) : F g := by
  rcases hg with q | q | ⟨e, he, q | q⟩
  · rw [q]; exact h.fbox
  · exact h.fnt g q
  · rw [q]; exact (h.ent e he).1
  · rw [q]; exact (h.ent e he).2.1
/-- one more number -/
theorem TA.more (h : TA w F tb t key ids ir n) {e id : Nat} (he : e ∈ Bt.flat t) (hn : n < 1024) (hh : Bt.nhas id (ids e) = false) {w5 : World} {i' cap' : Nat} (hk : Kept (fun g => g = ir e) w w5) (hi : i' = ir e ∨ w.heap.size ≤ i') (hr : IdsAt w5 (.slice (some ⟨i', 0, none⟩) (Bt.nins id (ids e)).length cap') (Bt.nins id (ids e))) {w7 : World} (hw7 : w7 = (w5.setCell ⟨e, 6, none⟩ (.slice (some ⟨i', 0, none⟩) (Bt.nins id (ids e)).length cap')).setCell ⟨tb, 1, none⟩ (.int .i64 ((n + 1 : Nat) : Int))) :
    Kept (OB tb t ir) w w7 ∧ TA w7 (fun g => F g ∨ (w.heap.size ≤ g ∧ g < w7.heap.size)) tb t key (Bt.set ids e (Bt.nins id (ids e))) (Bt.set ir e i') (n + 1) ∧ ∀ g, OB tb t (Bt.set ir e i') g → OB tb t ir g ∨ w.heap.size ≤ g := by
  obtain ⟨fe, fi, c0, c1, c2, c3, c4, c5, cap, h1, h2, h3⟩ := h.ent e he
  have ne1 := h.tb_ne he
  have ne2 := h.e_ne he he
  have b5 := (hk.block e (h.lt e fe) ne2).trans h1
  have t5 := (hk.block tb (h.lt tb h.fbox) ne1.2).trans h.box
  have e6 := heap_setCell_same w5 e 6 _ 63 (.slice (some ⟨i', 0, none⟩) (Bt.nins id (ids e)).length cap') b5
  have t6 : (w5.setCell ⟨e, 6, none⟩ (.slice (some ⟨i', 0, none⟩) (Bt.nins id (ids e)).length cap')).heap[tb]? = some (.cells #[Bt.ptr (Bt.top t), .int .i64 (n : Int)] 58 (0, 0)) := by rw [heap_setCell_other _ _ _ _ ne1.1]; exact t5
  have t7 := heap_setCell_same _ tb 1 _ 58 (.int .i64 ((n + 1 : Nat) : Int)) t6
  rw [← hw7] at t7
  have hs : w7.heap.size = w5.heap.size := by rw [hw7]; simp
  have hoth : ∀ k, k ≠ e → k ≠ tb → w7.heap[k]? = w5.heap[k]? := fun k q1 q2 => by
    rw [hw7, heap_setCell_other _ _ _ _ q2, heap_setCell_other _ _ _ _ q1]
  have e7 : w7.heap[e]? = some (.cells #[c0, c1, c2, c3, c4, c5, .slice (some ⟨i', 0, none⟩) (Bt.nins id (ids e)).length cap'] 63 (0, 0)) := by rw [hw7, heap_setCell_other _ _ _ _ (fun q => ne1.1 q.symm)]; exact e6
  have hsz : w.heap.size ≤ w7.heap.size := by rw [hs]; exact hk.size
  have hil : i' < w7.heap.size := by
    rw [hs]
    rcases hr.2 with ⟨h4, _⟩ | ⟨g', cap2, cur, h4, _, h5, _⟩
    · cases h4
    · cases h4; exact lt_of_row h5
  have hkey : ∀ g, g < w.heap.size → ¬ F g → w7.heap[g]? = w.heap[g]? := fun g hg hf =>
    (hoth g (fun q => hf (q ▸ fe)) (fun q => hf (q ▸ h.fbox))).trans (hk.block g hg fun q => hf (q ▸ fi))
  have hkp : Kept (OB tb t ir) w w7 := ⟨by rw [hw7]; exact hk.os, by rw [hw7]; exact hk.tape, by rw [hw7]; exact hk.output, hsz, fun g hg hf => (hoth g (fun q => hf (.inr (.inr ⟨e, he, .inl q⟩))) (fun q => hf (.inl q))).trans (hk.block g hg fun q => hf (.inr (.inr ⟨e, he, .inr q⟩)))⟩
  have hine : i' ≠ e ∧ i' ≠ tb := by
    rcases hi with q | q
    · rw [q]; exact ⟨fun q => ne2 q.symm, fun q => ne1.2 q.symm⟩
    · have := h.lt e fe; have := h.lt tb h.fbox; omega
  refine ⟨hkp, ?_, fun g hg => ?_⟩
  rotate_left
  · rcases hg with q | q | ⟨f, hf, q⟩
    · exact .inl (.inl q)
    · exact .inl (.inr (.inl q))
    · by_cases q2 : f = e
      · rcases q with q | q
        · exact .inl (.inr (.inr ⟨f, hf, .inl q⟩))
        · rw [q2, Bt.set_same] at q
          rcases hi with q3 | q3
          · exact .inl (.inr (.inr ⟨e, he, .inr (by rw [q, q3])⟩))
          · exact .inr (by omega)
      · rw [Bt.set_other q2] at q
        exact .inl (.inr (.inr ⟨f, hf, q⟩))
  exact {
    box := t7
    lt := fun g hg => by
      rcases hg with q | q
      · exact Nat.lt_of_lt_of_le (h.lt g q) hsz
      · exact q.2
    fbox := .inl h.fbox
    nt := nt_stays h.nt fun g hg => by
      obtain ⟨q1, q2⟩ := h.blk_ne hg
      exact (hoth g (q2 e he).1 q1).trans (hk.block g (h.lt g (h.fnt g hg)) (q2 e he).2)
    fnt := fun g hg => .inl (h.fnt g hg)
    nd := h.nd
    ent := fun f hf => by
      by_cases q : f = e
      · subst q
        rw [Bt.set_same, Bt.set_same]
        have k1 : F i' ∨ (w.heap.size ≤ i' ∧ i' < w7.heap.size) := by
          rcases hi with q | q
          · rw [q]; exact .inl fi
          · exact .inr ⟨q, hil⟩
        have k2 : RepA w7 (fun g => g < w7.heap.size ∧ ¬ (F g ∨ (w.heap.size ≤ g ∧ g < w7.heap.size))) (key f) (.agg #[c0, c1, c2, c3, c4, c5]) := by
          refine repA_stays (fun g hg => hkey g hg.1 hg.2) (fun g hg => ⟨Nat.lt_of_lt_of_le hg.1 hsz, fun q => ?_⟩) _ _ h2
          rcases q with q | q
          · exact hg.2 q
          · have := hg.1; omega
        have k3 : IdsAt w7 (.slice (some ⟨i', 0, none⟩) (Bt.nins id (ids f)).length cap') (Bt.nins id (ids f)) := by
          refine owns_stays hr fun g hg => ?_
          obtain rfl : g = i' := by injection hg with hg; exact hg.symm
          exact hoth g hine.1 hine.2
        exact ⟨.inl fe, k1, c0, c1, c2, c3, c4, c5, cap', e7, k2, k3⟩
      · rw [Bt.set_other q, Bt.set_other q]
        obtain ⟨ff, fif, hE⟩ := h.ent f hf
        refine ⟨.inl ff, .inl fif, hE.stays ?_ ?_ fun g hg hF => ⟨hkey g hg hF, Nat.lt_of_lt_of_le hg hsz, fun q => ?_⟩⟩
        · exact (hoth f q (fun q => (h.tb_ne hf).1 q.symm)).trans (hk.block f (h.lt f ff) (h.e_ne hf he))
        · exact (hoth (ir f) (fun q => h.e_ne he hf q.symm) (fun q => (h.tb_ne hf).2 q.symm)).trans (hk.block _ (h.lt _ fif) fun q2 => q (h.inj f hf e he q2))
        · rcases q with q | q
          · exact hF q
          · omega
    inj := fun f hf g hg q => by
      have lt1 := h.lt _ (h.ent f hf).2.1
      have lt2 := h.lt _ (h.ent g hg).2.1
      by_cases q1 : f = e
      · by_cases q2 : g = e
        · rw [q1, q2]
        · rw [q1, Bt.set_same, Bt.set_other q2] at q
          rcases hi with q3 | q3
          · rw [q1]; exact h.inj e he g hg (by rw [← q3]; exact q)
          · omega
      · by_cases q2 : g = e
        · rw [q2, Bt.set_same, Bt.set_other q1] at q
          rcases hi with q3 | q3
          · rw [q2]; exact h.inj f hf e he (by rw [← q3]; exact q)
          · omega
        · rw [Bt.set_other q1, Bt.set_other q2] at q
          exact h.inj f hf g hg q
    wf := h.wf
    rises := h.rises
    lev := h.lev
    small := h.small
    asc := fun f hf => by
      by_cases q : f = e
      · subst q
        rw [Bt.set_same]
        exact ⟨Bt.nins_asc (h.asc f hf).1 hh, by rw [Bt.nins_length]; omega⟩
      · rw [Bt.set_other q]; exact h.asc f hf
    sum := by
      have e1 : ((Bt.flat t).map fun x => (Bt.set ids e (Bt.nins id (ids e)) x).length) = (Bt.flat t).map (Bt.set (fun x => (ids x).length) e ((ids e).length + 1)) := List.map_congr_left fun x _ => by
        by_cases q : x = e
        · subst q; rw [Bt.set_same, Bt.set_same, Bt.nins_length]
        · rw [Bt.set_other q, Bt.set_other q]
      rw [e1, Bt.set_sum (fun x => (ids x).length) e _ (Bt.rises_nodup h.rises) he, ← h.sum]
    le := by omega }
/-- a key that a tree has -/
theorem TA.at_has (h : TA w F tb t key ids ir n) (hU : Bn.HasU w) {x : V} {v : Value} (hv : Rep w w.heap.size x v) (hx : Bt.kerr x = 0) (W : World) (hW : Below w.heap.size w W) :
    Calls Tryz.prog 23 #[.pointer (some ⟨tb, 0, none⟩), v] W fun ex w' => ex = .returned (.tuple #[Bt.ptr (Bt.at? key x (Bt.flat t)), .int .i64 0]) ∧ Below W.heap.size W w' := by
  refine (at_c tb _ t w.heap.size key x v W (hU.stays hW) hW.size ((hW.block _ (lt_of_row h.box)).trans h.box) (RT.stays hW h.rt) h.up (rep_stays hW (Nat.le_refl _) _ _ hv)).mono ?_
  rintro ex w' ⟨rfl, hb⟩
  refine ⟨?_, hb⟩
  rw [if_pos hx, hx, Bt.look_flat h.wf h.rises]
  rfl
theorem TA.place (h : TA w F tb t key ids ir n) {e : Nat} (he : e ∈ Bt.flat t) (id : Nat) (W : World) (hW : Below w.heap.size w W) :
    Calls Tryz.prog 25 #[.pointer (some ⟨e, 0, none⟩), .int .u64 (id : Int)] W fun ex w' => ex = .returned (.tuple #[.int .i64 (Bt.nspot id (ids e) : Int), .bool (Bt.nhas id (ids e))]) ∧ Below W.heap.size W w' := by
  obtain ⟨fe, fi, c0, c1, c2, c3, c4, c5, cap, h1, h2, h3⟩ := h.ent e he
  have := h.few he
  have := h.le
  exact eplace_c e id (ir e) (ids e).length cap (ids e) c0 c1 c2 c3 c4 c5 W ((hW.block _ (h.lt e fe)).trans h1) (owns_stays h3 fun g hg => by
    obtain rfl : g = ir e := by injection hg with hg; exact hg.symm
    exact hW.block _ (h.lt _ fi)) (by omega) (h.asc e he).1
theorem Bt.at_mem {key : Nat → V} {x : V} {l : List Nat} {e : Nat} (h : Bt.at? key x l = some e) : e ∈ l := List.mem_of_find?_eq_some h
set_option maxHeartbeats 1000000 in
theorem put_twice (h : TA w F tb t key ids ir n) (hU : Bn.HasU w) {x : V} {v : Value} (hv : Rep w w.heap.size x v) (hx : Bt.kerr x = 0) {e id : Nat} (he : Bt.at? key x (Bt.flat t) = some e) (hh : Bt.nhas id (ids e) = true) :
    Calls Tryz.prog 12 #[.pointer (some ⟨tb, 0, none⟩), v, .int .u64 (id : Int)] w fun ex w' => ex = .returned (.int .i64 18) ∧ Below w.heap.size w w' := by
  have CA : Hid (∀ W, Below w.heap.size w W → Calls Tryz.prog 23 #[.pointer (some ⟨tb, 0, none⟩), v] W fun ex w' => ex = .returned (.tuple #[.pointer (some ⟨e, 0, none⟩), .int .i64 0]) ∧ Below W.heap.size W w') := fun W hW => by
    have := h.at_has hU hv hx W hW
    rw [he] at this
    exact this
  have CP : Hid (∀ W, Below w.heap.size w W → Calls Tryz.prog 25 #[.pointer (some ⟨e, 0, none⟩), .int .u64 (id : Int)] W fun ex w' => ex = .returned (.tuple #[.int .i64 (Bt.nspot id (ids e) : Int), .bool true]) ∧ Below W.heap.size W w') := fun W hW => by
    have := h.place (Bt.at_mem he) id W hW
    rw [hh] at this
    exact this
  obtain ⟨d0, d1, d2, d3, d4, d5, rfl⟩ := repV_box hv
  obtain ⟨i, hi⟩ : ∃ i, i = Bt.nspot id (ids e) := ⟨_, rfl⟩
  rw [← hi] at CP
  clear h hU hv hx he hh hi
  go_enter Tryz.func12, Tryz.ntmps12
  go_wp2_with (first | (go_at_call 23; refine (CA.out _ (below_new _ _)).mono ?_; rintro ex w2 ⟨rfl, hb⟩; have HB2 : Hid (Below w.heap.size w w2) := (below_new _ _).trans (hb.mono (by simp)); clear hb) | (go_at_call 25; refine (CP.out _ HB2.out).mono ?_; rintro ex w3 ⟨rfl, hb⟩; have HB3 : Hid (Below w.heap.size w w3) := HB2.out.trans (hb.mono HB2.out.size); clear hb))
  go_ret
  exact ⟨rfl, HB3.out⟩
/-- Drop of a number that a key has not -/
theorem drop_unknown (h : TA w F tb t key ids ir n) (hU : Bn.HasU w) {x : V} {v : Value} (hv : Rep w w.heap.size x v) (hx : Bt.kerr x = 0) {id : Nat} (he : Bt.at? key x (Bt.flat t) = none) :
    Calls Tryz.prog 16 #[.pointer (some ⟨tb, 0, none⟩), v, .int .u64 (id : Int)] w fun ex w' => ex = .returned (.int .i64 7) ∧ Below w.heap.size w w' := by
  have CA : Hid (∀ W, Below w.heap.size w W → Calls Tryz.prog 23 #[.pointer (some ⟨tb, 0, none⟩), v] W fun ex w' => ex = .returned (.tuple #[.pointer none, .int .i64 0]) ∧ Below W.heap.size W w') := fun W hW => by
    have := h.at_has hU hv hx W hW
    rw [he] at this
    exact this
  have CP : Hid (∀ W, Calls Tryz.prog 25 #[.pointer none, .int .u64 (id : Int)] W fun ex w' => ex = .returned (.tuple #[.int .i64 0, .bool false]) ∧ Below W.heap.size W w') := fun W => eplace_nil id W
  obtain ⟨d0, d1, d2, d3, d4, d5, rfl⟩ := repV_box hv
  clear h hU hv hx he
  go_enter Tryz.func16, Tryz.ntmps16
  go_wp2_with (first | (go_at_call 23; refine (CA.out _ (below_new _ _)).mono ?_; rintro ex w2 ⟨rfl, hb⟩; have HB2 : Hid (Below w.heap.size w w2) := (below_new _ _).trans (hb.mono (by simp)); clear hb) | (go_at_call 25; refine (CP.out _).mono ?_; rintro ex w3 ⟨rfl, hb⟩; have HB3 : Hid (Below w.heap.size w w3) := HB2.out.trans (hb.mono HB2.out.size); clear hb))
  go_ret
  exact ⟨rfl, HB3.out⟩
end
end Go.Proofs.YtkigenldiinioabGreatDoor
/- Put of one more number of a key that a tree has: walked. -/
namespace Go.Proofs.YtkigenldiinioabGreatDoor
open Go.RowKit
open Vl (V)
attribute [local go_sem ↓] Go.wp_at_zero Go.wp_at_succ
/-- numbers as cells -/
def Bt.nums (l : List Nat) : List Value := l.map fun (x : Nat) => Value.int .u64 (x : Int)
theorem nums_one {l : List Nat} : ∀ u ∈ Bt.nums l, u.oneCell' = true := fun u hu => by
  rw [Bt.nums, List.mem_map] at hu
  obtain ⟨e, _, rfl⟩ := hu
  rfl
/-- one more number in a row, in whatever world -/
theorem insN_c {w W : World} {i0 cap id : Nat} {l : List Nat} (hI : IdsAt w (.slice (some ⟨i0, 0, none⟩) l.length cap) l) (hl : l.length ≤ 1000000) (hW : Below w.heap.size w W) :
    Calls Tryz.prog 29 #[.slice (some ⟨i0, 0, none⟩) l.length cap, .int .i64 (Bt.nspot id l : Int), .slice (some ⟨W.heap.size, 0, none⟩) 1 1] (W.alloc (.cells #[.int .u64 (id : Int)] 45)) fun ex w' => ∃ i' cap', ex = .returned (.slice (some ⟨i', 0, none⟩) (l.length + 1) cap') ∧ Kept (fun g => g = i0) w w' ∧ (i' = i0 ∨ w.heap.size ≤ i') ∧ IdsAt w' (.slice (some ⟨i', 0, none⟩) (Bt.nins id l).length cap') (Bt.nins id l) := by
  obtain ⟨X, hX⟩ : ∃ X, X = W.alloc (.cells #[.int .u64 (id : Int)] 45) := ⟨_, rfl⟩
  have bX : Below w.heap.size w X := by rw [hX]; exact hW.alloc hW.size _
  have sX : X.heap.size = W.heap.size + 1 := by rw [hX]; simp
  rw [← hX]
  obtain ⟨hn, hg, hc⟩ := ids_cells hI
  have hoX : X.ownsRow 0 45 1 (.slice (some ⟨i0, 0, none⟩) l.length cap) l.length (Bt.nums l) := owns_stays hI fun g q => by
    obtain rfl : g = i0 := by injection q with q; exact q.symm
    exact bX.block g hg
  have hi : Bt.nspot id l ≤ l.length := (List.takeWhile_sublist _).length_le
  refine (insU_c l.length (Bt.nspot id l) W.heap.size (Bt.nums l) (.int .u64 (id : Int)) _ X hoX hi hl (by rw [hX]; exact heap_alloc_new W _) (fun q => absurd (Option.some.inj (show some i0 = some W.heap.size from q)) (by have := hW.size; omega)) nums_one rfl).mono ?_
  rintro ex w' ⟨v', rfl, o1, g1, at1⟩
  have e1 : (Bt.nums l).take (Bt.nspot id l) ++ Value.int .u64 (id : Int) :: (Bt.nums l).drop (Bt.nspot id l) = Bt.nums (Bt.nins id l) := by simp [Bt.nums, Bt.nins]
  rw [e1] at o1
  obtain ⟨r', cap', rfl⟩ := ownsRow_succ o1
  refine ⟨r', cap', rfl, ⟨g1.os.trans bX.os, g1.tape.trans bX.tape, g1.output.trans bX.output, Nat.le_trans bX.size g1.size, fun k hk hm => ?_⟩, ?_, ?_⟩
  · exact (g1.block k (Nat.lt_of_lt_of_le hk bX.size) (fun q => hm (Option.some.inj (show some k = some i0 from q)))).trans (bX.block k hk)
  · rcases at1 with q | q
    · left; exact Option.some.inj (show some r' = some i0 from q)
    · right
      have q2 := Option.some.inj (show some r' = some X.heap.size from q)
      have := bX.size
      omega
  · rw [IdsAt, Bt.nins_length]
    exact o1
section
variable {w : World} {F : Nat → Prop} {tb : Nat} {t : Bt.T} {key : Nat → V} {ids : Nat → List Nat} {ir : Nat → Nat} {n : Nat}
set_option maxHeartbeats 4000000 in
set_option maxRecDepth 100000 in
theorem put_more (h : TA w F tb t key ids ir n) (hU : Bn.HasU w) {x : V} {v : Value} (hv : Rep w w.heap.size x v) (hx : Bt.kerr x = 0) {e id : Nat} (he : Bt.at? key x (Bt.flat t) = some e) (hh : Bt.nhas id (ids e) = false) (hn : n < 1024) :
    Calls Tryz.prog 12 #[.pointer (some ⟨tb, 0, none⟩), v, .int .u64 (id : Int)] w fun ex w' => ex = .returned (.int .i64 0) ∧ ∃ i', Kept (OB tb t ir) w w' ∧ TA w' (fun g => F g ∨ (w.heap.size ≤ g ∧ g < w'.heap.size)) tb t key (Bt.set ids e (Bt.nins id (ids e))) (Bt.set ir e i') (n + 1) ∧ ∀ g, OB tb t (Bt.set ir e i') g → OB tb t ir g ∨ w.heap.size ≤ g := by
  have hm := Bt.at_mem he
  obtain ⟨i, hi⟩ : ∃ i, i = Bt.nspot id (ids e) := ⟨_, rfl⟩
  have CA : Hid (∀ W, Below w.heap.size w W → Calls Tryz.prog 23 #[.pointer (some ⟨tb, 0, none⟩), v] W fun ex w' => ex = .returned (.tuple #[.pointer (some ⟨e, 0, none⟩), .int .i64 0]) ∧ Below W.heap.size W w') := fun W hW => by
    have := h.at_has hU hv hx W hW
    rw [he] at this
    exact this
  have CP : Hid (∀ W, Below w.heap.size w W → Calls Tryz.prog 25 #[.pointer (some ⟨e, 0, none⟩), .int .u64 (id : Int)] W fun ex w' => ex = .returned (.tuple #[.int .i64 (i : Int), .bool false]) ∧ Below W.heap.size W w') := fun W hW => by
    have := h.place hm id W hW
    rw [hh, ← hi] at this
    exact this
  obtain ⟨fe, fi, c0, c1, c2, c3, c4, c5, cap, h1, h2, h3⟩ := h.ent e hm
  obtain ⟨l, hl⟩ : ∃ l, l = ids e := ⟨_, rfl⟩
  obtain ⟨ln, hln⟩ : ∃ ln, ln = l.length := ⟨_, rfl⟩
  have hfew : l.length ≤ 1000000 := by rw [hl]; have := h.few hm; have := h.le; omega
  have HT : Hid (∀ W, Below w.heap.size w W → W.cell? ⟨tb, 1, none⟩ = some (.int .i64 (n : Int)) ∧ W.cell? ⟨e, 6, none⟩ = some (.slice (some ⟨ir e, 0, none⟩) ln cap)) := fun W hW => ⟨cells_at ((hW.block _ (lt_of_row h.box)).trans h.box) 1 _ rfl, by rw [hln, hl]; exact cells_at ((hW.block _ (lt_of_row h1)).trans h1) 6 _ rfl⟩
  have CJ : Hid (∀ W, Below w.heap.size w W → Calls Tryz.prog 29 #[.slice (some ⟨ir e, 0, none⟩) ln cap, .int .i64 (i : Int), .slice (some ⟨W.heap.size, 0, none⟩) 1 1] (W.alloc (.cells #[.int .u64 (id : Int)] 45)) fun ex w' => ∃ i' cap', ex = .returned (.slice (some ⟨i', 0, none⟩) (ln + 1) cap') ∧ Hid (Kept (fun g => g = ir e) w w' ∧ (i' = ir e ∨ w.heap.size ≤ i') ∧ IdsAt w' (.slice (some ⟨i', 0, none⟩) (Bt.nins id l).length cap') (Bt.nins id l))) := fun W hW => by
    rw [← hl] at h3 hi
    rw [hln, hi]
    exact insN_c h3 hfew hW
  have HE : Hid (∀ W i' cap', Kept (fun g => g = ir e) w W ∧ (i' = ir e ∨ w.heap.size ≤ i') ∧ IdsAt W (.slice (some ⟨i', 0, none⟩) (Bt.nins id l).length cap') (Bt.nins id l) → W.heap[e]? = some (.cells #[c0, c1, c2, c3, c4, c5, .slice (some ⟨ir e, 0, none⟩) ln cap] 63 (0, 0)) ∧ (W.setCell ⟨e, 6, none⟩ (.slice (some ⟨i', 0, none⟩) (ln + 1) cap')).heap[tb]? = some (.cells #[Bt.ptr (Bt.top t), .int .i64 (n : Int)] 58 (0, 0)) ∧ Kept (OB tb t ir) w ((W.setCell ⟨e, 6, none⟩ (.slice (some ⟨i', 0, none⟩) (ln + 1) cap')).setCell ⟨tb, 1, none⟩ (.int .i64 ((n + 1 : Nat) : Int))) ∧ TA ((W.setCell ⟨e, 6, none⟩ (.slice (some ⟨i', 0, none⟩) (ln + 1) cap')).setCell ⟨tb, 1, none⟩ (.int .i64 ((n + 1 : Nat) : Int))) (fun g => F g ∨ (w.heap.size ≤ g ∧ g < ((W.setCell ⟨e, 6, none⟩ (.slice (some ⟨i', 0, none⟩) (ln + 1) cap')).setCell ⟨tb, 1, none⟩ (.int .i64 ((n + 1 : Nat) : Int))).heap.size)) tb t key (Bt.set ids e (Bt.nins id (ids e))) (Bt.set ir e i') (n + 1) ∧ ∀ g, OB tb t (Bt.set ir e i') g → OB tb t ir g ∨ w.heap.size ≤ g) := fun W i' cap' ⟨k1, k2, k3⟩ => by
    have e1 : ln + 1 = (Bt.nins id (ids e)).length := by rw [Bt.nins_length, hln, hl]
    rw [hl] at k3
    refine ⟨?_, ?_, ?_⟩
    · rw [hln, hl]; exact (k1.block e (h.lt e fe) (h.e_ne hm hm)).trans h1
    · rw [heap_setCell_other _ _ _ _ (h.tb_ne hm).1]
      exact (k1.block tb (h.lt tb h.fbox) (h.tb_ne hm).2).trans h.box
    · rw [e1]
      exact h.more hm hn hh k1 k2 k3 rfl
  obtain ⟨d0, d1, d2, d3, d4, d5, rfl⟩ := repV_box hv
  have qn : ¬ ((1024 : Int) ≤ (n : Int)) := by omega
  have qd : decide ((1024 : Int) ≤ (n : Int)) = false := decide_eq_false qn
  obtain ⟨n1, hn1⟩ : ∃ n1, n1 = n + 1 := ⟨_, rfl⟩
  obtain ⟨v1, v2⟩ : IntKind.i64.wrap ((n : Int) + 1) = (n1 : Int) ∧ wrap64 ((n : Int) + 1) = (n1 : Int) := Bt.wr (by omega) (by omega)
  have HN1 : Hid (n1 = n + 1) := hn1
  clear h hU hv hx he hh hi hm hn hl hln hfew fe fi h1 h2 h3 hn1
  go_enter Tryz.func12, Tryz.ntmps12
  go_upto_region 7 with (first | (go_at_call 23; refine (CA.out _ (below_new _ _)).mono ?_; rintro ex w2 ⟨rfl, hb⟩; have HB2 : Hid (Below w.heap.size w w2) := (below_new _ _).trans (hb.mono (by simp)); clear hb) | (go_at_call 25; refine (CP.out _ HB2.out).mono ?_; rintro ex w3 ⟨rfl, hb⟩; have HB3 : Hid (Below w.heap.size w w3) := HB2.out.trans (hb.mono HB2.out.size); clear hb))
  obtain ⟨t1, t2⟩ := HT.out w3 HB3.out
  clear CA CP HT
  go_upto_region 13 with (go_at_call 29; refine (CJ.out _ HB3.out).mono ?_; rintro ex w5 ⟨i', cap', rfl, HV⟩; clear t1 t2; have u6 := cells_at (HE.out w5 i' cap' HV.out).1 6 _ rfl; have fz := row_freeV (HE.out w5 i' cap' HV.out).1)
  obtain ⟨w6, hw6⟩ : ∃ w6, w6 = w5.setCell ⟨e, 6, none⟩ (.slice (some ⟨i', 0, none⟩) (ln + 1) cap') := ⟨_, rfl⟩
  have HF := HE.out w5 i' cap' HV.out
  rw [← hw6] at HF ⊢
  have HF2 : Hid (Kept (OB tb t ir) w (w6.setCell ⟨tb, 1, none⟩ (.int .i64 ((n + 1 : Nat) : Int))) ∧ TA (w6.setCell ⟨tb, 1, none⟩ (.int .i64 ((n + 1 : Nat) : Int))) (fun g => F g ∨ (w.heap.size ≤ g ∧ g < (w6.setCell ⟨tb, 1, none⟩ (.int .i64 ((n + 1 : Nat) : Int))).heap.size)) tb t key (Bt.set ids e (Bt.nins id (ids e))) (Bt.set ir e i') (n + 1) ∧ ∀ g, OB tb t (Bt.set ir e i') g → OB tb t ir g ∨ w.heap.size ≤ g) := HF.2.2
  have y1 := cells_at HF.2.1 1 _ rfl
  have fy := row_freeV HF.2.1
  clear HF HE CJ HV hw6 u6 fz
  go_wp2
  clear v1 v2
  go_ret
  rw [HN1.out]
  exact ⟨rfl, i', HF2.out⟩
end
end Go.Proofs.YtkigenldiinioabGreatDoor
/- A tree with one more key: what it comes to; what node.with has to do; where there is room it does. -/
namespace Go.Proofs.YtkigenldiinioabGreatDoor
open Go.RowKit
open Vl (V)
/-- what node.with makes -/
def WithOK (t : Bt.T) : Prop := ∀ (key : Nat → V) (W : World) (e : Nat), NT W t → Bt.wf t → Bt.Rises key (Bt.flat t) → (∀ x ∈ Bt.flat t, EK W W.heap.size (key x) x) → EK W W.heap.size (key e) e → Bt.at? key (key e) (Bt.flat t) = none → (Bt.flat t).length < 1024 → (Bt.blocks t).Nodup → Bt.levels t = Bt.fewest (Bt.flat t).length →
  Calls Tryz.prog 26 #[Bt.ptr (Bt.top t), .pointer (some ⟨e, 0, none⟩), .int .i64 (Bt.fewest ((Bt.flat t).length + 1) : Int)] W fun ex w' => ∃ t', ex = .returned (Bt.ptr (Bt.top t')) ∧ Only (Bt.blocks t) W w' ∧ NT w' t' ∧ Bt.wf t' ∧ Bt.flat t' = Bt.kins key e (Bt.flat t) ∧ Bt.levels t' = Bt.fewest ((Bt.flat t).length + 1) ∧ (Bt.blocks t').Nodup ∧ ∀ g ∈ Bt.blocks t', g ∈ Bt.blocks t ∨ W.heap.size ≤ g
theorem node_nd {w : World} {g r : Nat} {es : List Nat} (h : NT w (.node g r es .nil .nil .nil .nil)) : (Bt.blocks (.node g r es .nil .nil .nil .nil)).Nodup := by
  obtain ⟨⟨cap, h1, h2⟩, _⟩ := h
  have hne : g ≠ r := by
    rcases h2.2 with ⟨h3, _⟩ | ⟨g', cap', cur, h3, _, h4, _⟩
    · cases h3
    · cases h3
      exact Typ.ne (w := w) ⟨_, _, h1⟩ ⟨_, _, h4⟩ (by decide : (87 : Nat) ≠ 60)
  simp [Bt.blocks, hne]
theorem withOK_nil : WithOK .nil := fun key W e _ _ _ _ _ _ _ _ _ => by
  refine (with_nil e _ W).mono ?_
  rintro ex w' ⟨g, r, rfl, hb, hN, hg, hr⟩
  refine ⟨.node g r [e] .nil .nil .nil .nil, rfl, ⟨hb.os, hb.tape, hb.output, hb.size, fun k hk _ => hb.block k hk⟩, hN, ⟨by simp, by simp, fun _ => ⟨rfl, rfl, rfl, rfl⟩, trivial, trivial, trivial, trivial⟩, ?_, ?_, node_nd hN, fun x hx => ?_⟩
  · rw [Bt.flat_one _ _ _ (by simp)]
    simp [Bt.flat, Bt.kins]
  · simp only [Bt.levels, Bt.flat, List.length_nil]
    rw [Bt.fewest_pos (by omega), show (0 + 1) / 4 = 0 from rfl, Bt.fewest_zero]
    rfl
  · simp only [Bt.blocks, List.append_nil, List.mem_cons, List.not_mem_nil, or_false] at hx
    rcases hx with rfl | rfl
    · exact .inr hg
    · exact .inr hr
theorem withOK_few {g r : Nat} {es : List Nat} (h3 : es.length < 3) : WithOK (.node g r es .nil .nil .nil .nil) := fun key W e hN hw hr hk he _ _ _ _ => by
  have h1 : 1 ≤ es.length := hw.1
  have hf : Bt.flat (.node g r es .nil .nil .nil .nil) = es := Bt.flat_one _ _ _ (by omega)
  rw [hf] at hr hk ⊢
  refine (with_few g r e _ W.heap.size es key W hN h1 h3 hk he hr (Nat.le_refl _)).mono ?_
  rintro ex w' ⟨r', rfl, ho, hN', hr'⟩
  have hl : (Bt.kins key e es).length < 4 := by rw [Bt.kins_length]; omega
  refine ⟨.node g r' (Bt.kins key e es) .nil .nil .nil .nil, rfl, ho, hN', ⟨by rw [Bt.kins_length]; omega, by omega, fun _ => ⟨rfl, rfl, rfl, rfl⟩, trivial, trivial, trivial, trivial⟩, Bt.flat_one _ _ _ hl, ?_, node_nd hN', fun x hx => ?_⟩
  · simp only [Bt.levels]
    rw [Bt.fewest_pos (by omega), show (es.length + 1) / 4 = 0 by omega, Bt.fewest_zero]
    rfl
  · simp only [Bt.blocks, List.append_nil, List.mem_cons, List.not_mem_nil, or_false] at hx ⊢
    rcases hx with rfl | rfl
    · exact .inl (.inl rfl)
    · rcases hr' with q | q
      · exact .inl (.inr q)
      · exact .inr q
theorem count_t (t : Bt.T) (W : World) (h : NT W t) : Calls Tryz.prog 28 #[Bt.ptr (Bt.top t)] W fun e w' => e = .returned (.int .i64 ((Bt.flat t).length : Int)) ∧ w' = W := by
  cases t with
  | nil => exact count_nil W
  | node g r es a b c d =>
    obtain ⟨⟨cap, h1, _⟩, _⟩ := h
    exact count_node g _ _ _ _ _ _ W h1
theorem Bt.at_congr {key key' : Nat → V} {x : V} {l : List Nat} (h : ∀ e ∈ l, key' e = key e) : Bt.at? key' x l = Bt.at? key x l := by
  induction l with
  | nil => rfl
  | cons y r ih => rw [Bt.at_cons, Bt.at_cons, h y (by simp), ih fun e he => h e (by simp [he])]
theorem Bt.rises_congr {key key' : Nat → V} {l : List Nat} (h : ∀ e ∈ l, key' e = key e) (hr : Bt.Rises key l) : Bt.Rises key' l := hr.imp_of_mem fun {a b} ha hb hab => by rw [h a ha, h b hb]; exact hab
section
variable {w : World} {F : Nat → Prop} {tb : Nat} {t : Bt.T} {key : Nat → V} {ids : Nat → List Nat} {ir : Nat → Nat} {n : Nat}
/-- one more key -/
theorem TA.grew (h : TA w F tb t key ids ir n) {w3 w8 : World} (h3 : Below w.heap.size w w3) {x : V} {c0 c1 c2 c3 c4 c5 : Value} (hx : RepA w3 (fun g => w.heap.size ≤ g ∧ g < w3.heap.size) x (.agg #[c0, c1, c2, c3, c4, c5])) (hsm : Vl.small x) {e id : Nat} (he : e = w3.heap.size)
    (k8 : Kept (fun g => g ∈ Bt.blocks t ∨ g = tb) w3 w8) {t' : Bt.T} (box : w8.heap[tb]? = some (.cells #[Bt.ptr (Bt.top t'), .int .i64 ((n + 1 : Nat) : Int)] 58 (0, 0))) (nt' : NT w8 t') (sub : ∀ g ∈ Bt.blocks t', g ∈ Bt.blocks t ∨ w3.heap.size ≤ g) (nd' : (Bt.blocks t').Nodup) (wf' : Bt.wf t') (fl' : Bt.flat t' = Bt.kins (Bt.set key e x) e (Bt.flat t)) (lev' : Bt.levels t' = Bt.fewest ((Bt.flat t).length + 1))
    {i' cap' : Nat} (he8 : w8.heap[e]? = some (.cells #[c0, c1, c2, c3, c4, c5, .slice (some ⟨i', 0, none⟩) 1 cap'] 63 (0, 0))) (hi' : w3.heap.size ≤ i') (hrow : IdsAt w8 (.slice (some ⟨i', 0, none⟩) 1 cap') [id]) (hn : n < 1024) (hat : Bt.at? key x (Bt.flat t) = none) :
    Kept (OB tb t ir) w w8 ∧ TA w8 (fun g => F g ∨ (w3.heap.size ≤ g ∧ g < w8.heap.size)) tb t' (Bt.set key e x) (Bt.set ids e [id]) (Bt.set ir e i') (n + 1) ∧ ∀ g, OB tb t' (Bt.set ir e i') g → OB tb t ir g ∨ w.heap.size ≤ g := by
  have s3 := h3.size
  have s8 := k8.size
  have hnew : ∀ f ∈ Bt.flat t, f ≠ e := fun f hf q => by have := h.lt f (h.ent f hf).1; omega
  have hmem : ∀ f, f ∈ Bt.flat t' ↔ f = e ∨ f ∈ Bt.flat t := fun f => by rw [fl']; exact Bt.mem_kins
  have blk : ∀ k, k < w3.heap.size → k ∉ Bt.blocks t → k ≠ tb → w8.heap[k]? = w3.heap[k]? := fun k hk q1 q2 => k8.block k hk fun q => q.elim q1 q2
  have hkey : ∀ g, g < w.heap.size → ¬ F g → w8.heap[g]? = w.heap[g]? := fun g hg hf =>
    (blk g (by omega) (fun q => hf (h.fnt g q)) (fun q => hf (q ▸ h.fbox))).trans (h3.block g hg)
  have hii : i' < w8.heap.size := by
    rcases hrow.2 with ⟨h4, _⟩ | ⟨g', cap2, cur, h4, _, h5, _⟩
    · cases h4
    · cases h4; exact lt_of_row h5
  have hee : e < w8.heap.size := lt_of_row he8
  have key_old : ∀ f ∈ Bt.flat t, Bt.set key e x f = key f := fun f hf => Bt.set_other (hnew f hf)
  refine ⟨⟨k8.os.trans h3.os, k8.tape.trans h3.tape, k8.output.trans h3.output, by omega, fun g hg hf => (blk g (by omega) (fun q => hf (.inr (.inl q))) (fun q => hf (.inl q))).trans (h3.block g hg)⟩, ?_, fun g hg => ?_⟩
  rotate_left
  · rcases hg with q | q | ⟨f, hf, q⟩
    · exact .inl (.inl q)
    · rcases sub g q with q2 | q2
      · exact .inl (.inr (.inl q2))
      · exact .inr (by omega)
    · rcases (hmem f).1 hf with q2 | q2
      · rcases q with q | q
        · exact .inr (by omega)
        · rw [q2, Bt.set_same] at q
          exact .inr (by omega)
      · rw [Bt.set_other (hnew f q2)] at q
        exact .inl (.inr (.inr ⟨f, q2, q⟩))
  exact {
    box := box
    lt := fun g hg => by
      rcases hg with q | q
      · have := h.lt g q; omega
      · exact q.2
    fbox := .inl h.fbox
    nt := nt'
    fnt := fun g hg => by
      rcases sub g hg with q | q
      · exact .inl (h.fnt g q)
      · exact .inr ⟨q, nt_lt nt' g hg⟩
    nd := nd'
    ent := fun f hf => by
      rcases (hmem f).1 hf with q | q
      · rw [q, Bt.set_same, Bt.set_same, Bt.set_same]
        have k2 : RepA w8 (fun g => g < w8.heap.size ∧ ¬ (F g ∨ (w3.heap.size ≤ g ∧ g < w8.heap.size))) x (.agg #[c0, c1, c2, c3, c4, c5]) := by
          refine repA_stays (fun g hg => ?_) (fun g hg => ⟨by have := hg.2; omega, fun q => ?_⟩) _ _ hx
          · refine blk g hg.2 (fun q => ?_) (fun q => ?_)
            · have := h.lt g (h.fnt g q); have := hg.1; omega
            · have := h.lt tb h.fbox; have := hg.1; omega
          · rcases q with q | q
            · have := h.lt g q; have := hg.1; omega
            · have := hg.2; omega
        exact ⟨.inr ⟨by omega, hee⟩, .inr ⟨hi', hii⟩, c0, c1, c2, c3, c4, c5, cap', he8, k2, hrow⟩
      · rw [Bt.set_other (hnew f q), Bt.set_other (hnew f q), Bt.set_other (hnew f q)]
        obtain ⟨ff, fi, hE⟩ := h.ent f q
        have l1 := h.lt f ff
        have l2 := h.lt _ fi
        refine ⟨.inl ff, .inl fi, hE.stays ?_ ?_ fun g hg hF => ⟨hkey g hg hF, by omega, fun q => ?_⟩⟩
        · exact (blk f (by omega) (fun q2 => ((h.blk_ne q2).2 f q).1 rfl) (fun q2 => (h.tb_ne q).1 q2.symm)).trans (h3.block f l1)
        · exact (blk (ir f) (by omega) (fun q2 => ((h.blk_ne q2).2 f q).2 rfl) (fun q2 => (h.tb_ne q).2 q2.symm)).trans (h3.block _ l2)
        · rcases q with q | q
          · exact hF q
          · omega
    inj := fun f hf g hg q => by
      rcases (hmem f).1 hf with q1 | q1
      · rcases (hmem g).1 hg with q2 | q2
        · rw [q1, q2]
        · rw [q1, Bt.set_same, Bt.set_other (hnew g q2)] at q
          have := h.lt _ (h.ent g q2).2.1
          omega
      · rcases (hmem g).1 hg with q2 | q2
        · rw [q2, Bt.set_same, Bt.set_other (hnew f q1)] at q
          have := h.lt _ (h.ent f q1).2.1
          omega
        · rw [Bt.set_other (hnew f q1), Bt.set_other (hnew g q2)] at q
          exact h.inj f q1 g q2 q
    wf := wf'
    rises := by
      rw [fl']
      refine Bt.kins_rises (Bt.rises_congr key_old h.rises) ?_
      rw [Bt.set_same, Bt.at_congr key_old]
      exact hat
    lev := by rw [lev', fl', Bt.kins_length]
    small := fun f hf => by
      rcases (hmem f).1 hf with q | q
      · rw [q, Bt.set_same]; exact hsm
      · rw [key_old f q]; exact h.small f q
    asc := fun f hf => by
      rcases (hmem f).1 hf with q | q
      · rw [q, Bt.set_same]; exact ⟨by simp, by simp⟩
      · rw [Bt.set_other (hnew f q)]; exact h.asc f q
    sum := by
      rw [fl', Bt.kins_sum (fun y => (Bt.set ids e [id] y).length), Bt.set_same]
      have e1 : ((Bt.flat t).map fun y => (Bt.set ids e [id] y).length) = (Bt.flat t).map fun y => (ids y).length := List.map_congr_left fun y hy => by rw [Bt.set_other (hnew y hy)]
      rw [e1, ← h.sum]
      rfl
    le := by omega }
end
end Go.Proofs.YtkigenldiinioabGreatDoor
