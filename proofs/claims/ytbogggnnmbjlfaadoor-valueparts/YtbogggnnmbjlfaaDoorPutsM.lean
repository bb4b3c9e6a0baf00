/- Plain mathematics of Put and Drop: what is got of a struct behind them. -/
import Derived.Test.YtbogggnnmbjlfaaDoorSortsM
namespace Go.Proofs.YtbogggnnmbjlfaaDoor
open Vl (V)
namespace Vl
/-- what a name leads to among fields -/
def look (f : List (ByteArray × V)) (m : ByteArray) : Option V := (f[place (fun a => decide (a = m)) f]?).map (·.2)
theorem look_nil (m : ByteArray) : look [] m = none := rfl
theorem look_cons (n : ByteArray) (y : V) (r : List (ByteArray × V)) (m : ByteArray) : look ((n, y) :: r) m = if n = m then some y else look r m := by
  rw [look, place_cons]
  by_cases h : n = m
  · rw [if_pos (by simpa using h), if_pos h]; rfl
  · rw [if_neg (by simpa using h), if_neg h, List.getElem?_cons_succ]; rfl
theorem look_append (m : ByteArray) : ∀ (p q : List (ByteArray × V)), look (p ++ q) m = match look p m with | some y => some y | none => look q m
  | [], q => by rw [List.nil_append, look_nil]
  | (n, y) :: r, q => by
    rw [List.cons_append, look_cons, look_cons]
    by_cases h : n = m
    · rw [if_pos h, if_pos h]
    · rw [if_neg h, if_neg h, look_append m r q]
theorem look_insF (f : List (ByteArray × V)) (i : Nat) (a : ByteArray) (x : V) (m : ByteArray) (h : a ≠ m) : look (insF f i (a, x)) m = look f m := by
  rw [insF, look_append, look_cons, if_neg h, ← look_append, List.take_append_drop]
theorem look_set (a : ByteArray) (x y : V) (m : ByteArray) (h : a ≠ m) : ∀ (f : List (ByteArray × V)) (i : Nat), f[i]? = some (a, y) → look (f.set i (a, x)) m = look f m
  | [], i, hi => by simp at hi
  | (n, z) :: r, 0, hi => by
    simp only [List.getElem?_cons_zero, Option.some.injEq, Prod.mk.injEq] at hi
    rw [List.set_cons_zero, look_cons, look_cons, if_neg h, if_neg (by rw [hi.1]; exact h)]
  | (n, z) :: r, i + 1, hi => by
    rw [List.set_cons_succ, look_cons, look_cons, look_set a x y m h r i (by simpa using hi)]
/-- all else stays behind Put -/
theorem look_put (f : List (ByteArray × V)) (a : ByteArray) (x : V) (m : ByteArray) (h : a ≠ m) : look (putF f a x) m = look f m := by
  rw [putF]
  by_cases hP : place (fun m => decide (m = a)) f < f.length
  · rw [if_pos hP]
    obtain ⟨y, hy⟩ := place_name a f hP
    exact look_set a x y m h f _ hy
  · rw [if_neg hP]
    exact look_insF f _ a x m h
/-- the fields without those of a name -/
def dropF (f : List (ByteArray × V)) (a : ByteArray) : List (ByteArray × V) := f.filter fun n => !decide (n.1 = a)
theorem look_drop (a : ByteArray) (m : ByteArray) : ∀ (f : List (ByteArray × V)), look (dropF f a) m = if a = m then none else look f m
  | [] => by
    show look [] m = _
    rw [look_nil]; simp
  | (n, y) :: r => by
    have ih := look_drop a m r
    rw [dropF, List.filter_cons]
    by_cases h : n = a
    · rw [if_neg (by simp [h])]
      show look (dropF r a) m = _
      rw [ih, look_cons]
      by_cases h2 : a = m
      · rw [if_pos h2, if_pos h2]
      · rw [if_neg h2, if_neg h2, if_neg (by rw [h]; exact h2)]
    · rw [if_pos (by simp [h])]
      show look ((n, y) :: dropF r a) m = _
      rw [look_cons, look_cons, ih]
      by_cases h2 : a = m
      · rw [if_pos h2, if_pos h2]
        rw [if_neg (by rw [← h2]; exact h)]
      · rw [if_neg h2, if_neg h2]
theorem dropF_len (f : List (ByteArray × V)) (a : ByteArray) : (dropF f a).length ≤ f.length := List.length_filter_le _ _
theorem dropF_mem (f : List (ByteArray × V)) (a : ByteArray) (n : ByteArray × V) (h : n ∈ dropF f a) : n ∈ f := (List.mem_filter.1 h).1
theorem drop_up (a : ByteArray) : ∀ f, Up f → Up (dropF f a)
  | [], _ => by show Up []; rw [Up]; trivial
  | (m, y) :: r, h => by
    rw [Up] at h
    rw [dropF, List.filter_cons]
    split
    · rw [Up]
      exact ⟨fun n hn => h.1 n (dropF_mem r a n hn), drop_up a r h.2⟩
    · exact drop_up a r h.2
theorem drop_set (a : ByteArray) (x y : V) : ∀ (f : List (ByteArray × V)) (i : Nat), f[i]? = some (a, y) → dropF (f.set i (a, x)) a = dropF f a
  | [], i, hi => by simp at hi
  | (n, z) :: r, 0, hi => by
    simp only [List.getElem?_cons_zero, Option.some.injEq, Prod.mk.injEq] at hi
    rw [List.set_cons_zero, dropF, dropF, List.filter_cons, List.filter_cons, if_neg (by simp), if_neg (by simp [hi.1])]
  | (n, z) :: r, i + 1, hi => by
    have ih := drop_set a x y r i (by simpa using hi)
    rw [dropF, dropF] at ih
    rw [List.set_cons_succ, dropF, dropF, List.filter_cons, List.filter_cons, ih]
/-- what is put and dropped again was never there -/
theorem drop_put (f : List (ByteArray × V)) (a : ByteArray) (x : V) : dropF (putF f a x) a = dropF f a := by
  rw [putF]
  by_cases hP : place (fun m => decide (m = a)) f < f.length
  · rw [if_pos hP]
    obtain ⟨y, hy⟩ := place_name a f hP
    exact drop_set a x y f _ hy
  · rw [if_neg hP, dropF, insF, List.filter_append, List.filter_cons, if_neg (by simp), ← List.filter_append, List.take_append_drop]
    rfl
section
variable (u : ByteArray → Bool)
theorem checkF_parts (d : Nat) : ∀ (f : List (ByteArray × V)) (p : Option ByteArray), checkF u d p f = 0 → ∀ a ∈ f, nameErr u a.1 = 0 ∧ check u d a.2 = 0
  | [], _, _, a, h => by cases h
  | (m, x) :: r, p, h, a, ha => by
    rw [checkF_cons] at h
    have h1 : check1 u d p (m, x) = 0 := Decidable.byContradiction fun e => by rw [if_pos e] at h; exact e h
    rw [if_neg (by simp [h1])] at h
    cases List.mem_cons.1 ha with
    | inl e =>
      rw [e]
      rw [check1] at h1
      by_cases c1 : nameErr u m ≠ 0
      · rw [if_pos c1] at h1; exact absurd h1 c1
      · rw [if_neg c1] at h1
        by_cases c2 : notUp m p = true
        · rw [if_pos c2] at h1; cases h1
        · rw [if_neg c2] at h1
          exact ⟨Decidable.not_not.1 c1, h1⟩
    | inr e => exact checkF_parts d r (some m) h a e
theorem checkF_of (d : Nat) : ∀ (f : List (ByteArray × V)) (p : Option ByteArray), (∀ a ∈ f, nameErr u a.1 = 0 ∧ check u d a.2 = 0) → Up f → (∀ q, p = some q → ∀ a ∈ f, cmpS q a.1 < 0) → checkF u d p f = 0
  | [], _, _, _, _ => by rw [checkF]
  | (m, x) :: r, p, h, hu, hp => by
    rw [Up] at hu
    have h0 := h (m, x) List.mem_cons_self
    have h1 : check1 u d p (m, x) = 0 := by
      rw [check1, if_neg (by simp [h0.1])]
      rw [if_neg, h0.2]
      cases p with
      | none => simp [notUp]
      | some q =>
        have h2 := hp q rfl (m, x) List.mem_cons_self
        rw [notUp, decide_eq_true_eq, cmpS_turn q m]
        simp only at h2
        omega
    rw [checkF_cons, if_neg (by simp [h1])]
    exact checkF_of d r (some m) (fun a ha => h a (List.mem_cons_of_mem _ ha)) hu.2 (fun q hq a ha => by cases hq; exact hu.1 a ha)
/-- a right struct with other right fields is right -/
theorem check_other {b : Bool} {n : Int} {s : ByteArray} {l : List V} {f g : List (ByteArray × V)} (h : check u 0 ⟨6, b, n, s, l, f⟩ = 0) (hl : g.length ≤ 64) (hg : ∀ a ∈ g, nameErr u a.1 = 0 ∧ check u 1 a.2 = 0) (hu : Up g) : check u 0 ⟨6, b, n, s, l, g⟩ = 0 := by
  rw [check] at h
  by_cases c1 : alone u 0 ⟨6, b, n, s, l, f⟩ ≠ 0
  · rw [if_pos c1] at h; exact absurd h c1
  · rw [if_neg c1] at h
    by_cases c2 : checkL u (0 + 1) l ≠ 0
    · rw [if_pos c2] at h; exact absurd h c2
    · have c3 : alone u 0 ⟨6, b, n, s, l, g⟩ = 0 := by
        rw [Decidable.not_not, alone] at c1
        rw [alone]
        simp only [strange] at c1 ⊢
        split at c1
        · cases c1
        · split at c1
          · cases c1
          · split at c1
            · cases c1
            · split at c1
              · cases c1
              · rename_i k1 k2 k3 k4
                rw [if_neg (by simpa using k1), if_neg k2, if_neg k3, if_neg (by omega), if_neg (by omega)]
      rw [check, if_neg (by simp [c3]), if_neg c2]
      exact checkF_of u 1 g none hg hu (fun q hq => by cases hq)
/-- right stays right behind Drop -/
theorem check_drop {b : Bool} {n : Int} {s : ByteArray} {l : List V} {f : List (ByteArray × V)} (h : check u 0 ⟨6, b, n, s, l, f⟩ = 0) (hf : f.length ≤ 64) (hp : ∀ a ∈ f, nameErr u a.1 = 0 ∧ check u 1 a.2 = 0) (a : ByteArray) : check u 0 ⟨6, b, n, s, l, dropF f a⟩ = 0 :=
  check_other u h (Nat.le_trans (dropF_len f a) hf) (fun m hm => hp m (dropF_mem f a m hm)) (drop_up a f (check_up u h))
/-- .. and behind Put, if the name, the value and their number may be -/
theorem check_put {b : Bool} {n : Int} {s : ByteArray} {l : List V} {f : List (ByteArray × V)} (h : check u 0 ⟨6, b, n, s, l, f⟩ = 0) (hp : ∀ a ∈ f, nameErr u a.1 = 0 ∧ check u 1 a.2 = 0) {a : ByteArray} {x : V} (ha : nameErr u a = 0) (hx : check u 1 x = 0) (hl : (putF f a x).length ≤ 64) : check u 0 ⟨6, b, n, s, l, putF f a x⟩ = 0 :=
  check_other u h hl (fun m hm => by
    cases putF_mem f a x m hm with
    | inl e => rw [e]; exact ⟨ha, hx⟩
    | inr e => exact hp m e) (by rw [putF_putR a x f (check_up u h)]; exact putR_up a x f (check_up u h))
end
end Vl
end Go.Proofs.YtbogggnnmbjlfaaDoor
