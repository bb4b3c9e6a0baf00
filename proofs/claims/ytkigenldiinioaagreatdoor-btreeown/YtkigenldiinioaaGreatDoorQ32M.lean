/- Several texts, joined: BtFm, BKc, CpLc -/
import Derived.Test.YtkigenldiinioaaGreatDoorQ27M
import Derived.Test.YtkigenldiinioaaGreatDoorBtDcM
import Derived.Test.YtkigenldiinioaaGreatDoorQ12M
import Derived.Deep.AppendLies
import Derived.Laws.ResultCell
/- Lists of keys with their numbers: what is put, what is dropped, what is found. -/
namespace Go.Proofs.YtkigenldiinioaaGreatDoor
open Vl (V)
namespace Vl
mutual
/-- what is right is small -/
theorem check_small {u : ByteArray → Bool} : ∀ (t : V) (d : Nat), check u d t = 0 → small t
  | ⟨k, b, n, s, l, f⟩, d, h => by
    rw [check] at h
    by_cases h1 : alone u d ⟨k, b, n, s, l, f⟩ = 0
    · rw [if_neg (by simpa using h1)] at h
      by_cases h2 : checkL u (d + 1) l = 0
      · rw [if_neg (by simpa using h2)] at h
        rw [alone] at h1
        by_cases c1 : 7 ≤ k ∨ strange ⟨k, b, n, s, l, f⟩ = true
        · rw [if_pos c1] at h1; cases h1
        rw [if_neg c1] at h1
        by_cases c2 : 1024 < s.size
        · rw [if_pos c2] at h1; cases h1
        rw [if_neg c2] at h1
        by_cases c3 : k = 3 ∧ u s = false
        · rw [if_pos c3] at h1; cases h1
        rw [if_neg c3] at h1
        by_cases c4 : 64 < l.length ∨ 64 < f.length
        · rw [if_pos c4] at h1; cases h1
        rw [small]
        exact ⟨by omega, by omega, by omega, checkL_small l (d + 1) h2, checkF_small f (d + 1) none h⟩
      · rw [if_pos h2] at h; exact absurd h h2
    · rw [if_pos h1] at h; exact absurd h h1
theorem checkL_small {u : ByteArray → Bool} : ∀ (l : List V) (d : Nat), checkL u d l = 0 → smallL l
  | [], _, _ => by rw [smallL]; trivial
  | x :: r, d, h => by
    rw [checkL] at h
    by_cases c : check u d x = 0
    · rw [if_neg (by simpa using c)] at h
      rw [smallL]
      exact ⟨check_small x d c, checkL_small r d h⟩
    · rw [if_pos c] at h; exact absurd h c
theorem checkF_small {u : ByteArray → Bool} : ∀ (l : List (ByteArray × V)) (d : Nat) (p : Option ByteArray), checkF u d p l = 0 → smallF l
  | [], _, _, _ => by rw [smallF]; trivial
  | (m, x) :: r, d, p, h => by
    rw [checkF] at h
    by_cases c0 : nameErr u m = 0
    · rw [if_neg (by simpa using c0)] at h
      by_cases c1 : notUp m p = true
      · rw [if_pos c1] at h; cases h
      rw [if_neg c1] at h
      by_cases c : check u d x = 0
      · rw [if_neg (by simpa using c)] at h
        rw [smallF]
        refine ⟨?_, check_small x d c, checkF_small r d (some m) h⟩
        rw [nameErr] at c0
        by_cases c2 : m.size = 0 ∨ 1024 < m.size
        · rw [if_pos c2] at c0; cases c0
        · omega
      · rw [if_pos c] at h; exact absurd h c
    · rw [if_pos c0] at h; exact absurd h c0
end
end Vl
namespace Bt
abbrev KL := List (V × List Nat)
/-- what there is of a key -/
def lat (x : V) (L : KL) : Option (V × List Nat) := L.find? fun p => decide (Vl.cmp p.1 x = 0)
def lids (x : V) (L : KL) : List Nat := match lat x L with | some p => p.2 | none => []
def lhas (x : V) (id : Nat) (L : KL) : Bool := nhas id (lids x L)
/-- other numbers at a key -/
def lon (x : V) (f : List Nat → List Nat) (L : KL) : KL := L.map fun p => if Vl.cmp p.1 x = 0 then (p.1, f p.2) else p
def nrem (id : Nat) (l : List Nat) : List Nat := l.filter fun y => decide (y ≠ id)
def lput (x : V) (id : Nat) (L : KL) : KL := if (lat x L).isSome = true then lon x (nins id) L else lnew x id L
def ldrop (x : V) (id : Nat) (L : KL) : KL := (lon x (nrem id) L).filter fun p => decide (0 < p.2.length)
def perr (x : V) (id : Nat) (L : KL) : Nat := if kerr x ≠ 0 then kerr x else if lhas x id L = true then 18 else if 1024 ≤ lsum L then 8 else 0
def derr (x : V) (id : Nat) (L : KL) : Nat := if kerr x ≠ 0 then kerr x else if lhas x id L = true then 0 else 7
/-- keys that rise, each with numbers that rise -/
structure LW (L : KL) : Prop where
  rises : L.Pairwise fun p q => Vl.cmp p.1 q.1 < 0
  asc : ∀ p ∈ L, p.2.Pairwise (· < ·) ∧ 1 ≤ p.2.length
  le : lsum L ≤ 1024
theorem LW.nil : LW [] := ⟨List.Pairwise.nil, fun p h => (by cases h), by decide⟩
theorem LW.few {L : KL} (h : LW L) {p : V × List Nat} (hp : p ∈ L) : p.2.length ≤ 1024 := by
  have := mem_le_sum (List.mem_map.2 ⟨p, hp, rfl⟩ : p.2.length ∈ L.map fun p => p.2.length)
  have h2 := h.le
  rw [lsum] at h2
  omega
theorem LW.len {L : KL} (h : LW L) : L.length ≤ 1024 := by
  have h1 : ∀ (l : KL), (∀ p ∈ l, 1 ≤ p.2.length) → l.length ≤ lsum l := by
    intro l
    induction l with
    | nil => intro _; exact Nat.zero_le _
    | cons a r ih =>
      intro hh
      have i1 := ih fun p hp => hh p (by simp [hp])
      have i2 := hh a (by simp)
      rw [lsum] at i1 ⊢
      rw [List.map_cons, List.sum_cons, List.length_cons]
      omega
  have := h1 L fun p hp => (h.asc p hp).2
  have := h.le
  omega
theorem nhas_mem {id : Nat} {l : List Nat} (h : l.Pairwise (· < ·)) : nhas id l = true ↔ id ∈ l := by
  obtain ⟨hk, h12⟩ := nspot_cut (id := id) h
  constructor
  · intro q
    exact List.mem_of_getElem? (nspot_at q)
  · intro q
    obtain ⟨j, hj⟩ := List.getElem?_of_mem q
    have hjl := (List.getElem?_eq_some_iff.1 hj).1
    have h1 : ¬ j < nspot id l := fun c => by
      have := (h12 j id hj).2 c
      simp at this
    have hl0 : nspot id l < l.length := by omega
    have h2 : ¬ l[nspot id l] < id := fun c => by
      have := (h12 (nspot id l) _ (List.getElem?_eq_getElem hl0)).1 (by simpa using c)
      omega
    have h3 : j = nspot id l := by
      rcases Nat.lt_or_ge (nspot id l) j with c | c
      · have h7 := List.pairwise_iff_getElem.1 h (nspot id l) j hl0 hjl c
        rw [(List.getElem?_eq_some_iff.1 hj).2] at h7
        exact absurd h7 h2
      · omega
    rw [nhas, decide_eq_true_eq, ← h3]
    exact hj
theorem less_filter {l : List Nat} {i e : Nat} (hn : l.Nodup) (h : l[i]? = some e) : less l i = l.filter fun y => decide (y ≠ e) := by
  have hlt := (List.getElem?_eq_some_iff.1 h).1
  have hy := (List.getElem?_eq_some_iff.1 h).2
  have e1 : l = l.take i ++ e :: l.drop (i + 1) := by
    rw [← hy, ← List.drop_eq_getElem_cons hlt, List.take_append_drop]
  have hn' := hn
  rw [e1, List.nodup_append] at hn'
  obtain ⟨n1, n2, n3⟩ := hn'
  obtain ⟨n4, _⟩ := List.nodup_cons.1 n2
  conv => rhs; rw [e1]
  rw [List.filter_append, List.filter_cons_of_neg (by simp), less]
  congr 1
  · exact (List.filter_eq_self.2 fun a ha => by
      have := n3 a ha e (by simp)
      simpa using this).symm
  · exact (List.filter_eq_self.2 fun a ha => by
      have : a ≠ e := fun q => n4 (q ▸ ha)
      simpa using this).symm
theorem nrem_less {id : Nat} {l : List Nat} (h : l.Pairwise (· < ·)) (hh : nhas id l = true) : less l (nspot id l) = nrem id l :=
  less_filter (h.imp fun {a b} hab e => by omega) (nspot_at hh)
section
variable {key : Nat → V} {ids : Nat → List Nat} {x : V} {l : List Nat}
theorem lat_cont : lat x (l.map fun e => (key e, ids e)) = (at? key x l).map fun e => (key e, ids e) := by
  rw [lat, at?, List.find?_map]
  rfl
theorem at_zero {e : Nat} (h : at? key x l = some e) : Vl.cmp (key e) x = 0 := by
  have := List.find?_some h
  simpa using this
theorem at_only {e f : Nat} (hr : Rises key l) (he : at? key x l = some e) (hf : f ∈ l) : Vl.cmp (key f) x = 0 ↔ f = e := by
  constructor
  · intro q
    have := at_unique hr hf q
    rw [he] at this
    exact (Option.some.inj this).symm
  · intro q
    rw [q]
    exact at_zero he
theorem lon_cont {e : Nat} {g : List Nat → List Nat} (hr : Rises key l) (he : at? key x l = some e) : (l.map fun f => (key f, set ids e (g (ids e)) f)) = lon x g (l.map fun e => (key e, ids e)) := by
  rw [lon, List.map_map]
  refine List.map_congr_left fun f hf => ?_
  show _ = if Vl.cmp (key f) x = 0 then (key f, g (ids f)) else (key f, ids f)
  by_cases q : f = e
  · rw [if_pos ((at_only hr he hf).2 q), q, set_same]
  · rw [if_neg (fun c => q ((at_only hr he hf).1 c)), set_other q]
theorem drop_cont {e id : Nat} (hr : Rises key l) (he : at? key x l = some e) (hid : nrem id (ids e) = []) (ho : ∀ f ∈ l, 1 ≤ (ids f).length) : ((kdel key x l).map fun f => (key f, ids f)) = ldrop x id (l.map fun e => (key e, ids e)) := by
  have hn := rises_nodup hr
  rw [kdel, less_filter hn (spot_at hr he), ldrop, lon, List.map_map, List.filter_map]
  have e1 : ∀ f ∈ l, ((fun p : V × List Nat => decide (0 < p.2.length)) ∘ ((fun p : V × List Nat => if Vl.cmp p.1 x = 0 then (p.1, nrem id p.2) else p) ∘ fun e => (key e, ids e))) f = decide (f ≠ e) := fun f hf => by
    show decide (0 < (if Vl.cmp (key f) x = 0 then (key f, nrem id (ids f)) else (key f, ids f)).2.length) = _
    by_cases q : f = e
    · rw [if_pos ((at_only hr he hf).2 q), q, hid]; simp
    · rw [if_neg (fun c => q ((at_only hr he hf).1 c))]
      have := ho f hf
      simp only [q, ne_eq, not_false_eq_true, decide_true, decide_eq_true_eq]
      omega
  rw [List.filter_congr e1]
  refine List.map_congr_left fun f hf => ?_
  obtain ⟨hf1, hf2⟩ := List.mem_filter.1 hf
  have q : f ≠ e := by simpa using hf2
  show _ = if Vl.cmp (key f) x = 0 then (key f, nrem id (ids f)) else (key f, ids f)
  rw [if_neg (fun c => q ((at_only hr he hf1).1 c))]
theorem drop_on {e id : Nat} (hr : Rises key l) (he : at? key x l = some e) (hid : 1 ≤ (nrem id (ids e)).length) (ho : ∀ f ∈ l, 1 ≤ (ids f).length) : lon x (nrem id) (l.map fun e => (key e, ids e)) = ldrop x id (l.map fun e => (key e, ids e)) := by
  rw [ldrop, List.filter_eq_self.2]
  intro p hp
  rw [lon, List.map_map] at hp
  obtain ⟨f, hf, rfl⟩ := List.mem_map.1 hp
  show decide (0 < (if Vl.cmp (key f) x = 0 then (key f, nrem id (ids f)) else (key f, ids f)).2.length) = true
  by_cases q : f = e
  · rw [if_pos ((at_only hr he hf).2 q), q]
    simp only [decide_eq_true_eq]
    omega
  · rw [if_neg (fun c => q ((at_only hr he hf).1 c))]
    have := ho f hf
    simp only [decide_eq_true_eq]
    omega
end
/-- lists as they are asked from -/
theorem lids_none {x : V} {L : KL} (h : lat x L = none) : lids x L = [] := by rw [lids, h]
theorem lids_some {x : V} {L : KL} {p : V × List Nat} (h : lat x L = some p) : lids x L = p.2 := by rw [lids, h]
theorem nhas_nil (id : Nat) : nhas id [] = false := rfl
end Bt
section
variable {w : World} {F O : Nat → Prop} {tb : Nat} {L : Bt.KL}
theorem TSt.lw (h : TSt w F O tb L) : Bt.LW L := by
  obtain ⟨t, key, ids, ir, n, hT, hL, ho⟩ := h
  have hs := (TSt.sum (O := O) hT hL ho.2).1
  refine ⟨?_, fun p hp => ?_, by rw [← hs]; exact hT.le⟩
  · rw [hL, Bt.cont, List.pairwise_map]
    exact hT.rises
  · rw [hL, Bt.cont, List.mem_map] at hp
    obtain ⟨e, he, rfl⟩ := hp
    exact hT.asc e he
theorem TSt.smalls (h : TSt w F O tb L) : ∀ p ∈ L, Vl.small p.1 := fun p hp => by
  obtain ⟨t, key, ids, ir, n, hT, hL, ho⟩ := h
  rw [hL, Bt.cont, List.mem_map] at hp
  obtain ⟨e, he, rfl⟩ := hp
  exact hT.small e he
end
end Go.Proofs.YtkigenldiinioaaGreatDoor
/- Rows of six cells, parts that are appended one by one, a text cloned: what bin's texts want of the texts of value, without their walks. -/
namespace Go.Proofs.YtkigenldiinioaaGreatDoor
open Go.RowKit
open Vl (V)
/-- the cells of values, six each -/
def EL (W : World) (A : Nat → Prop) : List V → List Value → Prop
  | [], cs => cs = []
  | x :: r, cs => ∃ c0 c1 c2 c3 c4 c5 cs', cs = c0 :: c1 :: c2 :: c3 :: c4 :: c5 :: cs' ∧ RepA W A x (.agg #[c0, c1, c2, c3, c4, c5]) ∧ EL W A r cs'
/-- the cells of fields, seven each -/
def EF (W : World) (A : Nat → Prop) : List (ByteArray × V) → List Value → Prop
  | [], cs => cs = []
  | (m, x) :: r, cs => ∃ c0 c1 c2 c3 c4 c5 cs', cs = .string m :: c0 :: c1 :: c2 :: c3 :: c4 :: c5 :: cs' ∧ m.size ≤ maxLen ∧ RepA W A x (.agg #[c0, c1, c2, c3, c4, c5]) ∧ EF W A r cs'
section
variable {W W' : World} {A B : Nat → Prop}
theorem EL.stays (hb : ∀ g, A g → W'.heap[g]? = W.heap[g]?) (hK : ∀ g, A g → B g) : ∀ (l : List V) (cs : List Value), EL W A l cs → EL W' B l cs
  | [], _, h => h
  | x :: r, cs, h => by
    obtain ⟨c0, c1, c2, c3, c4, c5, cs', e, h1, h2⟩ := h
    exact ⟨c0, c1, c2, c3, c4, c5, cs', e, repA_stays hb hK x _ h1, EL.stays hb hK r cs' h2⟩
theorem EF.stays (hb : ∀ g, A g → W'.heap[g]? = W.heap[g]?) (hK : ∀ g, A g → B g) : ∀ (l : List (ByteArray × V)) (cs : List Value), EF W A l cs → EF W' B l cs
  | [], _, h => h
  | (m, x) :: r, cs, h => by
    obtain ⟨c0, c1, c2, c3, c4, c5, cs', e, h0, h1, h2⟩ := h
    exact ⟨c0, c1, c2, c3, c4, c5, cs', e, h0, repA_stays hb hK x _ h1, EF.stays hb hK r cs' h2⟩
theorem EL.snoc {x : V} {c0 c1 c2 c3 c4 c5 : Value} (hx : RepA W A x (.agg #[c0, c1, c2, c3, c4, c5])) : ∀ (l : List V) (cs : List Value), EL W A l cs → EL W A (l ++ [x]) (cs ++ [c0, c1, c2, c3, c4, c5])
  | [], cs, h => by
    have h' : cs = [] := h
    subst h'
    exact ⟨c0, c1, c2, c3, c4, c5, [], rfl, hx, rfl⟩
  | y :: r, cs, h => by
    obtain ⟨d0, d1, d2, d3, d4, d5, cs', rfl, h1, h2⟩ := h
    exact ⟨d0, d1, d2, d3, d4, d5, cs' ++ [c0, c1, c2, c3, c4, c5], rfl, h1, EL.snoc hx r cs' h2⟩
theorem EF.snoc {m : ByteArray} (hm : m.size ≤ maxLen) {x : V} {c0 c1 c2 c3 c4 c5 : Value} (hx : RepA W A x (.agg #[c0, c1, c2, c3, c4, c5])) : ∀ (l : List (ByteArray × V)) (cs : List Value), EF W A l cs → EF W A (l ++ [(m, x)]) (cs ++ [.string m, c0, c1, c2, c3, c4, c5])
  | [], cs, h => by
    have h' : cs = [] := h
    subst h'
    exact ⟨c0, c1, c2, c3, c4, c5, [], rfl, hm, hx, rfl⟩
  | (n, y) :: r, cs, h => by
    obtain ⟨d0, d1, d2, d3, d4, d5, cs', rfl, h0, h1, h2⟩ := h
    exact ⟨d0, d1, d2, d3, d4, d5, cs' ++ [.string m, c0, c1, c2, c3, c4, c5], rfl, h0, h1, EF.snoc hm hx r cs' h2⟩
/-- they lie where their cells do -/
theorem EL.lies {g : Nat} : ∀ (l : List V) (cs : List Value) (o : Nat), EL W A l cs → (∀ j u, cs[j]? = some u → W.cell? ⟨g, o + j, none⟩ = some u) → RepLA W A g o l
  | [], _, _, _, _ => by rw [RepLA]; trivial
  | x :: r, cs, o, h, hc => by
    obtain ⟨c0, c1, c2, c3, c4, c5, cs', rfl, h1, h2⟩ := h
    rw [RepLA]
    refine ⟨⟨c0, c1, c2, c3, c4, c5, ⟨hc 0 _ rfl, hc 1 _ rfl, hc 2 _ rfl, hc 3 _ rfl, hc 4 _ rfl, hc 5 _ rfl⟩, h1⟩, EL.lies r cs' (o + 6) h2 fun j u hu => ?_⟩
    have := hc (j + 6) u (by simpa using hu)
    rwa [show o + (j + 6) = o + 6 + j by omega] at this
theorem EF.lies {g : Nat} : ∀ (l : List (ByteArray × V)) (cs : List Value) (o : Nat), EF W A l cs → (∀ j u, cs[j]? = some u → W.cell? ⟨g, o + j, none⟩ = some u) → RepFA W A g o l
  | [], _, _, _, _ => by rw [RepFA]; trivial
  | (m, x) :: r, cs, o, h, hc => by
    obtain ⟨c0, c1, c2, c3, c4, c5, cs', rfl, h0, h1, h2⟩ := h
    rw [RepFA]
    refine ⟨⟨hc 0 _ rfl, h0, c0, c1, c2, c3, c4, c5, ⟨hc 1 _ rfl, hc 2 _ rfl, hc 3 _ rfl, hc 4 _ rfl, hc 5 _ rfl, hc 6 _ rfl⟩, h1⟩, EF.lies r cs' (o + 7) h2 fun j u hu => ?_⟩
    have := hc (j + 7) u (by simpa using hu)
    rwa [show o + (j + 7) = o + 7 + j by omega] at this
/-- the cells of a row that is owned -/
theorem own_row {W : World} {B n size : Nat} {t : TypeId} {v : Value} {L : List Value} (hn : 0 < n) (h : W.ownsRow B t size v n L) : ∃ g cap, v = .slice (some ⟨g, 0, none⟩) n cap ∧ B ≤ g ∧ g < W.heap.size ∧ v.ownBlock = some g ∧ ∀ (j : Nat) (u : Value), L[j]? = some u → W.cell? ⟨g, j, none⟩ = some u := by
  have hL := h.1
  rcases h.2 with ⟨_, h1⟩ | ⟨g, cap, cur, rfl, hb, hrow, _, _, _, htk⟩
  · omega
  · refine ⟨g, cap, rfl, hb, (Array.getElem?_eq_some_iff.1 hrow).1, rfl, fun j u hu => ?_⟩
    rw [cell_of_row _ _ _ _ _ _ hrow]
    have hj : j < n * size := by have := (List.getElem?_eq_some_iff.1 hu).1; omega
    rw [← htk, List.getElem?_take_of_lt (by omega), Array.getElem?_toList] at hu
    exact hu
end
theorem own_free {W : World} {B n size g m c : Nat} {t : TypeId} {L : List Value} (h : W.ownsRow B t size (.slice (some ⟨g, 0, none⟩) m c) n L) (r : Nat) : W.frozen? ⟨g, r, none⟩ = false := by
  rcases h.2 with ⟨e, _⟩ | ⟨g', cap, cur, e, _, hrow, _⟩
  · cases e
  · cases e
    exact row_freeV hrow r
theorem own_call {W W' : World} {B n size : Nat} {t : TypeId} {v : Value} {L : List Value} (h : W.ownsRow B t size v n L) (hb : Below W.heap.size W W') : W'.ownsRow B t size v n L := by
  refine ⟨h.1, ?_⟩
  rcases h.2 with h1 | ⟨g, cap, cur, e, h2, h3, h4⟩
  · exact Or.inl h1
  · exact Or.inr ⟨g, cap, cur, e, h2, (hb.block g (Array.getElem?_eq_some_iff.1 h3).1).trans h3, h4⟩
theorem own_set {W : World} {B n size p o : Nat} {u : Value} {t : TypeId} {v : Value} {L : List Value} (h : W.ownsRow B t size v n L) (hp : some p ≠ v.ownBlock) : (W.setCell ⟨p, o, none⟩ u).ownsRow B t size v n L := by
  refine ⟨h.1, ?_⟩
  rcases h.2 with h1 | ⟨g, cap, cur, rfl, h2, h3, h4⟩
  · exact Or.inl h1
  · exact Or.inr ⟨g, cap, cur, rfl, h2, (heap_setCell_other _ _ _ _ (fun e => hp (by rw [e]; rfl))).trans h3, h4⟩
theorem results_row_tmpV {P : Program} {fn : Func} {p u : Tmp} {ty : TypeId} (h : fn.results = #[.cell p ty, .tmp u]) (tmps : Array Value) (w : World) (g : Nat) (t : TypeId) (cs : Array Value) (fr : Nat × Nat) (d : TypeDesc)
    (hp : tmps.getD p undef = .pointer (some ⟨g, 0, none⟩)) (hg : w.heap[g]? = some (.cells cs t fr))
    (hu : P.underlying ty = some d) (hd : (match d with | .struct _ | .array _ _ => true | _ => false) = true) (hi : (P.info? ty).map (·.size) = some cs.size) :
    (results fn tmps).run P w = .ok (.tuple #[.agg cs, tmps.getD u undef]) w := by
  rw [results_cell_tmp h, hp]
  simp [asAddr, run_loadVar_row w g t ty cs fr d hg hu hd hi]
end Go.Proofs.YtkigenldiinioaaGreatDoor
/- What the document's Copy keeps as it goes: parts appended one by one. -/
namespace Go.Proofs.YtkigenldiinioaaGreatDoor
open Go.RowKit
open Vl (V)
theorem answer_own {w wc : World} {t : V} {c0 c1 c2 c3 c4 c5 : Value} (hZ : Z6 wc (w.heap.size + 1)) (hB : Below w.heap.size w wc)
    (hrep : RepA wc (fun g => w.heap.size + 1 < g ∧ g < wc.heap.size) t (.agg #[c0, c1, c2, c3, c4, c5])) :
    (wc.setCells (w.heap.size + 1) 0 [c0, c1, c2, c3, c4, c5]).heap[w.heap.size + 1]? = some (.cells #[c0, c1, c2, c3, c4, c5] 27 (0, 0)) ∧
    Below w.heap.size w (wc.setCells (w.heap.size + 1) 0 [c0, c1, c2, c3, c4, c5]) ∧
    RepA (wc.setCells (w.heap.size + 1) 0 [c0, c1, c2, c3, c4, c5]) (fun g => w.heap.size ≤ g ∧ g < (wc.setCells (w.heap.size + 1) 0 [c0, c1, c2, c3, c4, c5]).heap.size) t (.agg #[c0, c1, c2, c3, c4, c5]) := by
  refine ⟨Z6.put hZ _ _ _ _ _ _, below_setCellsV (by omega) _ _ hB, ?_⟩
  rw [size_setCellsV']
  exact repA_stays (fun k hk => heap_setCells_neV _ k (by omega) _ _ _) (fun k hk => ⟨by omega, hk.2⟩) _ _ hrep
/-- Copy's own variables, j parts of the list copied -/
structure CS (w W : World) (l : List V) (j : Nat) (v0 v1 v2 v3 v4 v5 lv : Value) : Prop where
  below : Below w.heap.size w W
  arg : Row6 W w.heap.size v0 v1 v2 v3 v4 v5
  res : Z6 W (w.heap.size + 1)
  out : Row6 W (w.heap.size + 1 + 1) v0 v1 v2 v3 lv (.slice none 0 0)
  parts : ∃ cs, W.ownsRow (w.heap.size + 3) 27 6 lv j cs ∧ EL W (fun g => w.heap.size + 3 ≤ g ∧ some g ≠ lv.ownBlock ∧ g < W.heap.size) (l.take j) cs
section
variable {w W W' : World} {l : List V} {j : Nat} {v0 v1 v2 v3 v4 v5 lv : Value}
theorem CS.call (h : CS w W l j v0 v1 v2 v3 v4 v5 lv) (hb : Below W.heap.size W W') : CS w W' l j v0 v1 v2 v3 v4 v5 lv := by
  obtain ⟨cs, h1, h2⟩ := h.parts
  exact ⟨h.below.trans (hb.mono h.below.size), h.arg.call hb, h.res.call hb, h.out.call hb, cs, own_call h1 hb, EL.stays (fun g hg => hb.block g hg.2.2) (fun g hg => ⟨hg.1, hg.2.1, Nat.lt_of_lt_of_le hg.2.2 hb.size⟩) _ _ h2⟩
/-- one part more -/
theorem CS.next {w3 w4 w5 : World} (h : CS w W l j v0 v1 v2 v3 v4 v5 lv) {x : V} (hx : l[j]? = some x) {cs : List Value} (ho : W.ownsRow (w.heap.size + 3) 27 6 lv j cs) (he : EL W (fun g => w.heap.size + 3 ≤ g ∧ some g ≠ lv.ownBlock ∧ g < W.heap.size) (l.take j) cs)
    (h3 : Below W.heap.size W w3) {d0 d1 d2 d3 d4 d5 : Value} (hr : RepA w3 (fun g => W.heap.size ≤ g ∧ g < w3.heap.size) x (.agg #[d0, d1, d2, d3, d4, d5])) (h4 : Below w3.heap.size w3 w4) (hg : w4.grownBy w5 lv.ownBlock)
    {g cap : Nat} (hn : w5.ownsRow (w.heap.size + 3) 27 6 (.slice (some ⟨g, 0, none⟩) (j + 1) cap) (j + 1) (cs ++ [d0, d1, d2, d3, d4, d5])) (hat : lv.ownBlock = some g ∨ g = w4.heap.size) :
    (Row6 w5 (w.heap.size + 1 + 1) v0 v1 v2 v3 lv (.slice none 0 0)) ∧ CS w (w5.setCell ⟨w.heap.size + 1 + 1, 4, none⟩ (.slice (some ⟨g, 0, none⟩) (j + 1) cap)) l (j + 1) v0 v1 v2 v3 v4 v5 (.slice (some ⟨g, 0, none⟩) (j + 1) cap) := by
  have hlv : ∀ k, lv.ownBlock = some k → w.heap.size + 3 ≤ k ∧ k < W.heap.size := ho.lt
  have hs := h3.size
  have hs4 := h4.size
  have hs5 := hg.size
  have hgb : w.heap.size + 3 ≤ g ∧ ∀ k, k < W.heap.size → some k ≠ lv.ownBlock → k ≠ g := by
    rcases hat with e | e
    · exact ⟨(hlv g e).1, fun k hk hne e2 => hne (by rw [e2, e])⟩
    · exact ⟨by have := h.out.1; omega, fun k hk _ => by omega⟩
  have hgn : ∀ k, W.heap.size ≤ k → k < w4.heap.size → k ≠ g := fun k h1 h2 e => by
    rcases hat with e2 | e2
    · have := (hlv g e2).2; omega
    · omega
  -- blocks that stay
  have st : ∀ k, k < W.heap.size → some k ≠ lv.ownBlock → w5.heap[k]? = W.heap[k]? := fun k hk hne => (hg.block k (by omega) hne).trans ((h4.block k (by omega)).trans (h3.block k hk))
  have sn : ∀ k, W.heap.size ≤ k → k < w3.heap.size → w5.heap[k]? = w3.heap[k]? := fun k hk hk2 => (hg.block k (by omega) (fun e => by have := (hlv k e.symm).2; omega)).trans (h4.block k hk2)
  have o0 := h.arg.1
  have o1 := h.res.1
  have o2 := h.out.1
  have nb : ∀ k, k < w.heap.size + 3 → some k ≠ lv.ownBlock := fun k hk e => by have := (hlv k e.symm).1; omega
  have hout : Row6 w5 (w.heap.size + 1 + 1) v0 v1 v2 v3 lv (.slice none 0 0) := ⟨by omega, (st _ o2 (nb _ (by omega))).trans h.out.2⟩
  have hset : ∀ k, k ≠ w.heap.size + 1 + 1 → (w5.setCell ⟨w.heap.size + 1 + 1, 4, none⟩ (.slice (some ⟨g, 0, none⟩) (j + 1) cap)).heap[k]? = w5.heap[k]? := fun k hk => heap_setCell_other _ _ _ _ hk
  have hsz : (w5.setCell ⟨w.heap.size + 1 + 1, 4, none⟩ (.slice (some ⟨g, 0, none⟩) (j + 1) cap)).heap.size = w5.heap.size := by simp
  have hbel : Below w.heap.size w w5 := (h.below.trans (h3.mono h.below.size)).trans ((h4.mono (by have := h.below.size; omega))) |>.grown hg (by have := h.below.size; omega) (fun k hk => by have := (hlv k hk).1; omega)
  refine ⟨hout, hbel.setCell (p := ⟨w.heap.size + 1 + 1, 4, none⟩) (by show w.heap.size ≤ w.heap.size + 1 + 1; omega) _, ⟨by rw [hsz]; omega, (hset _ (by omega)).trans ((st _ o0 (nb _ (by omega))).trans h.arg.2)⟩, ⟨by rw [hsz]; omega, (hset _ (by omega)).trans ((st _ o1 (nb _ (by omega))).trans h.res.2)⟩, hout.set4, cs ++ [d0, d1, d2, d3, d4, d5], own_set hn (fun e => by simp [Value.ownBlock] at e; omega), ?_⟩
  have ht : l.take (j + 1) = l.take j ++ [x] := by rw [List.take_add_one, hx]; rfl
  rw [ht]
  refine EL.snoc ?_ _ _ ?_
  · refine repA_stays (fun k hk => ?_) (fun k hk => ?_) x _ hr
    · exact (hset k (by omega)).trans (sn k hk.1 hk.2)
    · exact ⟨by omega, fun e => hgn k hk.1 (by omega) (by simpa [Value.ownBlock] using e), by rw [hsz]; omega⟩
  · refine EL.stays (fun k hk => ?_) (fun k hk => ?_) _ _ he
    · exact (hset k (by omega)).trans (st k hk.2.2 hk.2.1)
    · exact ⟨hk.1, fun e => hgb.2 k hk.2.2 hk.2.1 (by simpa [Value.ownBlock] using e), by rw [hsz]; omega⟩
theorem CS.start (w : World) (l : List V) (v0 v1 v2 v3 v4 v5 : Value) :
    CS w (((w.alloc (.cells #[v0, v1, v2, v3, v4, v5] 27)).alloc (.cells #[.int .u8 0, .bool false, .int .i64 0, .string ⟨#[]⟩, .slice none 0 0, .slice none 0 0] 27)).alloc (.cells #[v0, v1, v2, v3, .slice none 0 0, .slice none 0 0] 27)) l 0 v0 v1 v2 v3 v4 v5 (.slice none 0 0) := by
  obtain ⟨w1, hw1⟩ : ∃ w1, w1 = w.alloc (.cells #[v0, v1, v2, v3, v4, v5] 27) := ⟨_, rfl⟩
  obtain ⟨w2, hw2⟩ : ∃ w2, w2 = w1.alloc (.cells #[.int .u8 0, .bool false, .int .i64 0, .string ⟨#[]⟩, .slice none 0 0, .slice none 0 0] 27) := ⟨_, rfl⟩
  have s1 : w1.heap.size = w.heap.size + 1 := by rw [hw1]; simp
  have s2 : w2.heap.size = w.heap.size + 1 + 1 := by rw [hw2]; simp [s1]
  have b1 : Below w.heap.size w w1 := by rw [hw1]; exact below_new _ _
  have b2 : Below w1.heap.size w1 w2 := by rw [hw2]; exact below_new _ _
  have r0 : Row6 w1 w.heap.size v0 v1 v2 v3 v4 v5 := by rw [hw1]; exact ⟨by simp, heap_alloc_new w _⟩
  have r1 : Z6 w2 (w.heap.size + 1) := by
    rw [← s1, hw2]; exact ⟨by simp, heap_alloc_new w1 _⟩
  rw [← hw1, ← hw2]
  refine ⟨((b1.trans (b2.mono b1.size)).trans ((below_new w2 _).mono (by omega))), (r0.call b2).call (below_new _ _), r1.call (below_new _ _), ?_, [], World.ownsRow_nil _ _ _ _, by rw [List.take_zero]; rfl⟩
  rw [← s2]; exact ⟨by simp, heap_alloc_new w2 _⟩
end
/-- a list that lies in blocks between two bounds -/
def LLc (W : World) (B M : Nat) (lv : Value) (l : List V) : Prop := ∃ ao lc, lv = .slice ao l.length lc ∧ (0 < l.length → ∃ g, ao = some ⟨g, 0, none⟩ ∧ B ≤ g ∧ g < M ∧ RepLA W (fun g => B ≤ g ∧ g < M) g 0 l ∧ ∀ r, W.frozen? ⟨g, r, none⟩ = false)
theorem LLc.stays {W W' : World} {B M : Nat} {lv : Value} {l : List V} (h : LLc W B M lv l) (hb : ∀ g, B ≤ g → g < M → W'.heap[g]? = W.heap[g]?) : LLc W' B M lv l := by
  obtain ⟨ao, lc, e, h1⟩ := h
  refine ⟨ao, lc, e, fun hp => ?_⟩
  obtain ⟨g, e2, h2, h3, h4, hz⟩ := h1 hp
  exact ⟨g, e2, h2, h3, repLA_stays (fun k hk => hb k hk.1 hk.2) (fun _ hk => hk) (hb g h2 h3) l 0 h4, fun r => (World.frozen?_of_block (w := W) (a := ⟨g, r, none⟩) (hb g h2 h3)).trans (hz r)⟩
theorem CS.done {w W : World} {l : List V} {v0 v1 v2 v3 v4 v5 lv : Value} (h : CS w W l l.length v0 v1 v2 v3 v4 v5 lv) : LLc W (w.heap.size + 3) W.heap.size lv l := by
  obtain ⟨cs, h1, h2⟩ := h.parts
  rw [List.take_length] at h2
  by_cases hp : 0 < l.length
  · obtain ⟨g, cap, rfl, hb, hl, ho, hc⟩ := own_row hp h1
    exact ⟨some ⟨g, 0, none⟩, cap, rfl, fun _ => ⟨g, rfl, hb, hl, EL.lies l cs 0 (EL.stays (fun _ _ => rfl) (fun k hk => ⟨hk.1, hk.2.2⟩) l cs h2) (fun j u hu => by rw [Nat.zero_add]; exact hc j u hu), own_free h1⟩⟩
  · rcases h1.2 with ⟨e, _⟩ | ⟨g, cap, cur, e, _⟩
    · exact ⟨none, 0, by rw [e]; simp; omega, fun h => absurd h hp⟩
    · exact ⟨some ⟨g, 0, none⟩, cap, e, fun h => absurd h hp⟩
/-- Copy's own variables, the list copied, and j fields -/
structure CT (w W : World) (M : Nat) (l : List V) (f : List (ByteArray × V)) (j : Nat) (v0 v1 v2 v3 v4 v5 lv fv : Value) : Prop where
  below : Below w.heap.size w W
  arg : Row6 W w.heap.size v0 v1 v2 v3 v4 v5
  res : Z6 W (w.heap.size + 1)
  out : Row6 W (w.heap.size + 1 + 1) v0 v1 v2 v3 lv fv
  late : w.heap.size + 3 ≤ M
  le : M ≤ W.heap.size
  li : LLc W (w.heap.size + 3) M lv l
  parts : ∃ cs, W.ownsRow M 62 7 fv j cs ∧ EF W (fun g => M ≤ g ∧ some g ≠ fv.ownBlock ∧ g < W.heap.size) (f.take j) cs
section
variable {w W W' : World} {M : Nat} {l : List V} {f : List (ByteArray × V)} {j : Nat} {v0 v1 v2 v3 v4 v5 lv fv : Value}
theorem CT.call (h : CT w W M l f j v0 v1 v2 v3 v4 v5 lv fv) (hb : Below W.heap.size W W') : CT w W' M l f j v0 v1 v2 v3 v4 v5 lv fv := by
  obtain ⟨cs, h1, h2⟩ := h.parts
  have hle := h.le
  exact ⟨h.below.trans (hb.mono h.below.size), h.arg.call hb, h.res.call hb, h.out.call hb, h.late, Nat.le_trans h.le hb.size, h.li.stays (fun g _ hg => hb.block g (by omega)), cs, own_call h1 hb, EF.stays (fun g hg => hb.block g hg.2.2) (fun g hg => ⟨hg.1, hg.2.1, Nat.lt_of_lt_of_le hg.2.2 hb.size⟩) _ _ h2⟩
theorem CT.start (h : CS w W l l.length v0 v1 v2 v3 v4 v5 lv) : CT w W W.heap.size l f 0 v0 v1 v2 v3 v4 v5 lv (.slice none 0 0) :=
  ⟨h.below, h.arg, h.res, h.out, by have := h.out.1; omega, Nat.le_refl _, h.done, [], World.ownsRow_nil _ _ _ _, by rw [List.take_zero]; rfl⟩
theorem CT.next {w3 w4 w5 : World} (h : CT w W M l f j v0 v1 v2 v3 v4 v5 lv fv) {m : ByteArray} {x : V} (hx : f[j]? = some (m, x)) (hm : m.size ≤ maxLen) {cs : List Value} (ho : W.ownsRow M 62 7 fv j cs) (he : EF W (fun g => M ≤ g ∧ some g ≠ fv.ownBlock ∧ g < W.heap.size) (f.take j) cs)
    (h3 : Below W.heap.size W w3) {d0 d1 d2 d3 d4 d5 : Value} (hr : RepA w3 (fun g => W.heap.size ≤ g ∧ g < w3.heap.size) x (.agg #[d0, d1, d2, d3, d4, d5])) (h4 : Below w3.heap.size w3 w4) (hg : w4.grownBy w5 fv.ownBlock)
    {g cap : Nat} (hn : w5.ownsRow M 62 7 (.slice (some ⟨g, 0, none⟩) (j + 1) cap) (j + 1) (cs ++ [.string m, d0, d1, d2, d3, d4, d5])) (hat : fv.ownBlock = some g ∨ g = w4.heap.size) :
    (Row6 w5 (w.heap.size + 1 + 1) v0 v1 v2 v3 lv fv) ∧ CT w (w5.setCell ⟨w.heap.size + 1 + 1, 5, none⟩ (.slice (some ⟨g, 0, none⟩) (j + 1) cap)) M l f (j + 1) v0 v1 v2 v3 v4 v5 lv (.slice (some ⟨g, 0, none⟩) (j + 1) cap) := by
  have hlv : ∀ k, fv.ownBlock = some k → M ≤ k ∧ k < W.heap.size := ho.lt
  have hs := h3.size
  have hs4 := h4.size
  have hs5 := hg.size
  have hlate := h.late
  have hle := h.le
  have hgb : M ≤ g ∧ ∀ k, k < W.heap.size → some k ≠ fv.ownBlock → k ≠ g := by
    rcases hat with e | e
    · exact ⟨(hlv g e).1, fun k hk hne e2 => hne (by rw [e2, e])⟩
    · exact ⟨by omega, fun k hk _ => by omega⟩
  have hgn : ∀ k, W.heap.size ≤ k → k < w4.heap.size → k ≠ g := fun k h1 h2 e => by
    rcases hat with e2 | e2
    · have := (hlv g e2).2; omega
    · omega
  have st : ∀ k, k < W.heap.size → some k ≠ fv.ownBlock → w5.heap[k]? = W.heap[k]? := fun k hk hne => (hg.block k (by omega) hne).trans ((h4.block k (by omega)).trans (h3.block k hk))
  have sn : ∀ k, W.heap.size ≤ k → k < w3.heap.size → w5.heap[k]? = w3.heap[k]? := fun k hk hk2 => (hg.block k (by omega) (fun e => by have := (hlv k e.symm).2; omega)).trans (h4.block k hk2)
  have o0 := h.arg.1
  have o1 := h.res.1
  have o2 := h.out.1
  have nb : ∀ k, k < M → some k ≠ fv.ownBlock := fun k hk e => by have := (hlv k e.symm).1; omega
  have hout : Row6 w5 (w.heap.size + 1 + 1) v0 v1 v2 v3 lv fv := ⟨by omega, (st _ o2 (nb _ (by omega))).trans h.out.2⟩
  have hset : ∀ k, k ≠ w.heap.size + 1 + 1 → (w5.setCell ⟨w.heap.size + 1 + 1, 5, none⟩ (.slice (some ⟨g, 0, none⟩) (j + 1) cap)).heap[k]? = w5.heap[k]? := fun k hk => heap_setCell_other _ _ _ _ hk
  have hsz : (w5.setCell ⟨w.heap.size + 1 + 1, 5, none⟩ (.slice (some ⟨g, 0, none⟩) (j + 1) cap)).heap.size = w5.heap.size := by simp
  have hbel : Below w.heap.size w w5 := (h.below.trans (h3.mono h.below.size)).trans ((h4.mono (by have := h.below.size; omega))) |>.grown hg (by have := h.below.size; omega) (fun k hk => by have := (hlv k hk).1; omega)
  refine ⟨hout, hbel.setCell (p := ⟨w.heap.size + 1 + 1, 5, none⟩) (by show w.heap.size ≤ w.heap.size + 1 + 1; omega) _, ⟨by rw [hsz]; omega, (hset _ (by omega)).trans ((st _ o0 (nb _ (by omega))).trans h.arg.2)⟩, ⟨by rw [hsz]; omega, (hset _ (by omega)).trans ((st _ o1 (nb _ (by omega))).trans h.res.2)⟩, hout.set5, hlate, by rw [hsz]; omega, h.li.stays (fun k hk1 hk2 => (hset k (by omega)).trans (st k (by omega) (nb k hk2))), cs ++ [.string m, d0, d1, d2, d3, d4, d5], own_set hn (fun e => by simp [Value.ownBlock] at e; omega), ?_⟩
  have ht : f.take (j + 1) = f.take j ++ [(m, x)] := by rw [List.take_add_one, hx]; rfl
  rw [ht]
  refine EF.snoc hm ?_ _ _ ?_
  · refine repA_stays (fun k hk => ?_) (fun k hk => ?_) x _ hr
    · exact (hset k (by omega)).trans (sn k hk.1 hk.2)
    · exact ⟨by omega, fun e => hgn k hk.1 (by omega) (by simpa [Value.ownBlock] using e), by rw [hsz]; omega⟩
  · refine EF.stays (fun k hk => ?_) (fun k hk => ?_) _ _ he
    · exact (hset k (by omega)).trans (st k hk.2.2 hk.2.1)
    · exact ⟨hk.1, fun e => hgb.2 k hk.2.2 hk.2.1 (by simpa [Value.ownBlock] using e), by rw [hsz]; omega⟩
/-- what was made, the fields in a row that nothing else lies in -/
def CX (W : World) (B U : Nat) : V → Value → Prop
  | ⟨k, b, n, s, l, f⟩, v => ∃ ao lc fo fc, v = .agg #[.int .u8 (k : Int), .bool b, .int .i64 n, .string s, .slice ao l.length lc, .slice fo f.length fc] ∧
      (0 < l.length → ∃ g, ao = some ⟨g, 0, none⟩ ∧ (B ≤ g ∧ g < U ∧ ∀ a, fo = some a → g ≠ a.block) ∧ RepLA W (fun g => B ≤ g ∧ g < U ∧ ∀ a, fo = some a → g ≠ a.block) g 0 l) ∧
      (0 < f.length → ∃ g, fo = some ⟨g, 0, none⟩ ∧ B ≤ g ∧ g < U ∧ (∃ C, W.heap[g]? = some (.cells C 62 (0, 0)) ∧ f.length * 7 ≤ C.size) ∧ RepFA W (fun g => B ≤ g ∧ g < U ∧ ∀ a, fo = some a → g ≠ a.block) g 0 f)
theorem CX.stays {W W' : World} {B U B' : Nat} (hBB : B' ≤ B) : ∀ {t : V} {v : Value}, CX W B U t v → (∀ g, B ≤ g → g < U → W'.heap[g]? = W.heap[g]?) → CX W' B' U t v
  | ⟨k, b, n, s, l, f⟩, v, h, hb => by
    obtain ⟨ao, lc, fo, fc, e, h2, h3⟩ := h
    refine ⟨ao, lc, fo, fc, e, fun hp => ?_, fun hp => ?_⟩
    · obtain ⟨g, e2, h4, h5⟩ := h2 hp
      exact ⟨g, e2, ⟨by omega, h4.2⟩, repLA_stays (fun k hk => hb k hk.1 hk.2.1) (fun k hk => ⟨by omega, hk.2⟩) (hb g h4.1 h4.2.1) l 0 h5⟩
    · obtain ⟨g, e2, h4, h5, ⟨C, hC1, hC2⟩, h6⟩ := h3 hp
      exact ⟨g, e2, by omega, h5, ⟨C, (hb g h4 h5).trans hC1, hC2⟩, repFA_stays (fun k hk => hb k hk.1 hk.2.1) (fun k hk => ⟨by omega, hk.2⟩) (hb g h4 h5) f 0 h6⟩
theorem CT.cx {k : Nat} {b : Bool} {n : Int} {s : ByteArray} (h : CT w W M l f f.length (.int .u8 (k : Int)) (.bool b) (.int .i64 n) (.string s) v4 v5 lv fv) : CX W (w.heap.size + 3) W.heap.size ⟨k, b, n, s, l, f⟩ (.agg #[.int .u8 (k : Int), .bool b, .int .i64 n, .string s, lv, fv]) := by
  have hlate := h.late
  have hle := h.le
  obtain ⟨ao, lc, rfl, h1⟩ := h.li
  obtain ⟨cs, h2, h3⟩ := h.parts
  rw [List.take_length] at h3
  by_cases hp : 0 < f.length
  · obtain ⟨g, cap, rfl, hb, hl, ho, hc⟩ := own_row hp h2
    refine ⟨ao, lc, some ⟨g, 0, none⟩, cap, rfl, fun hq => ?_, fun _ => ⟨g, rfl, by omega, hl, ?_, ?_⟩⟩
    · obtain ⟨q, e, h5, h6, h7, _⟩ := h1 hq
      exact ⟨q, e, ⟨h5, by omega, fun a ea => by cases ea; show q ≠ g; omega⟩, repLA_stays (fun _ _ => rfl) (fun j hj => ⟨hj.1, by omega, fun a ea => by cases ea; show j ≠ g; omega⟩) rfl l 0 h7⟩
    · rcases h2.2 with ⟨e, _⟩ | ⟨g', cap', cur, e, _, hrow, hcap, _, hsz, _⟩
      · cases e
      · cases e
        exact ⟨cur, hrow, by rw [hsz]; exact Nat.mul_le_mul_right _ hcap⟩
    · refine EF.lies f cs 0 (EF.stays (fun _ _ => rfl) (fun j hj => ⟨by omega, hj.2.2, fun a ea => ?_⟩) f cs h3) (fun j u hu => by rw [Nat.zero_add]; exact hc j u hu)
      cases ea
      exact fun e => hj.2.1 (by rw [e]; rfl)
  · have hf0 : f.length = 0 := by omega
    obtain ⟨fo, fc, rfl, hno⟩ : ∃ fo fc, fv = .slice fo f.length fc ∧ ∀ a, fo = some a → M ≤ a.block := by
      rcases h2.2 with ⟨e, _⟩ | ⟨g, cap, cur, e, hg, _⟩
      · exact ⟨none, 0, by rw [e, hf0], fun a ea => by cases ea⟩
      · exact ⟨some ⟨g, 0, none⟩, cap, e, fun a ea => by cases ea; exact hg⟩
    refine ⟨ao, lc, fo, fc, rfl, fun hq => ?_, fun h => absurd h hp⟩
    obtain ⟨q, e, h5, h6, h7, _⟩ := h1 hq
    exact ⟨q, e, ⟨h5, by omega, fun a ea => by have := hno a ea; omega⟩, repLA_stays (fun _ _ => rfl) (fun j hj => ⟨hj.1, by omega, fun a ea => by have := hno a ea; omega⟩) rfl l 0 h7⟩
/-- what was made -/
theorem CT.rep {k : Nat} {b : Bool} {n : Int} {s : ByteArray} (h : CT w W M l f f.length (.int .u8 (k : Int)) (.bool b) (.int .i64 n) (.string s) v4 v5 lv fv) (hk : k < 256 ∧ (-9223372036854775808 ≤ n ∧ n < 9223372036854775808) ∧ s.size ≤ maxLen ∧ l.length ≤ maxLen ∧ f.length ≤ maxLen) :
    RepA W (fun g => w.heap.size + 1 < g ∧ g < W.heap.size) ⟨k, b, n, s, l, f⟩ (.agg #[.int .u8 (k : Int), .bool b, .int .i64 n, .string s, lv, fv]) := by
  have hlate := h.late
  have hle := h.le
  obtain ⟨ao, lc, rfl, h1⟩ := h.li
  obtain ⟨cs, h2, h3⟩ := h.parts
  rw [List.take_length] at h3
  obtain ⟨fo, fc, rfl, h4⟩ : ∃ fo fc, fv = .slice fo f.length fc ∧ (0 < f.length → ∃ g, fo = some ⟨g, 0, none⟩ ∧ M ≤ g ∧ g < W.heap.size ∧ RepFA W (fun g => M ≤ g ∧ g < W.heap.size) g 0 f ∧ ∀ r, W.frozen? ⟨g, r, none⟩ = false) := by
    by_cases hp : 0 < f.length
    · obtain ⟨g, cap, rfl, hb, hl, ho, hc⟩ := own_row hp h2
      exact ⟨some ⟨g, 0, none⟩, cap, rfl, fun _ => ⟨g, rfl, hb, hl, EF.lies f cs 0 (EF.stays (fun _ _ => rfl) (fun k hk => ⟨hk.1, hk.2.2⟩) f cs h3) (fun j u hu => by rw [Nat.zero_add]; exact hc j u hu), own_free h2⟩⟩
    · rcases h2.2 with ⟨e, _⟩ | ⟨g, cap, cur, e, _⟩
      · exact ⟨none, 0, by rw [e]; simp; omega, fun h => absurd h hp⟩
      · exact ⟨some ⟨g, 0, none⟩, cap, e, fun h => absurd h hp⟩
  rw [RepA]
  refine ⟨ao, lc, fo, fc, rfl, hk.1, hk.2.1, hk.2.2.1, hk.2.2.2.1, hk.2.2.2.2, fun hp => ?_, fun hp => ?_⟩
  · obtain ⟨g, e, h5, h6, h7, h8⟩ := h1 hp
    exact ⟨g, 0, e, ⟨by omega, by omega⟩, repLA_stays (fun _ _ => rfl) (fun q hq => ⟨by omega, by omega⟩) rfl l 0 h7, h8⟩
  · obtain ⟨g, e, h5, h6, h7, h8⟩ := h4 hp
    exact ⟨g, 0, e, ⟨by omega, by omega⟩, repFA_stays (fun _ _ => rfl) (fun q hq => ⟨by omega, by omega⟩) rfl f 0 h7, h8⟩
end
end Go.Proofs.YtkigenldiinioaaGreatDoor
