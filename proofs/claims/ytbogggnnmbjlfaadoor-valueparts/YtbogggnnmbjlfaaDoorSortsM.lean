/- Plain mathematics of Put: in either order two fields of unlike names make the same struct; what was put is got. -/
import Derived.Test.YtbogggnnmbjlfaaDoorPutG
import Derived.Test.YtbogggnnmbjlfaaDoorGet
namespace Go.Proofs.YtbogggnnmbjlfaaDoor
open Vl (V)
namespace Vl
/-- Put, field by field -/
def putR : List (ByteArray × V) → ByteArray → V → List (ByteArray × V)
  | [], a, x => [(a, x)]
  | (m, y) :: r, a, x => if m = a then (a, x) :: r else if 0 < cmpS m a then (a, x) :: (m, y) :: r else (m, y) :: putR r a x
theorem cmpS_ne {a b : ByteArray} (h : a ≠ b) : cmpS a b ≠ 0 := fun e => h (cmpS_zero e)
theorem cmpS_trans {a b c : ByteArray} (h1 : cmpS a b < 0) (h2 : cmpS b c < 0) : cmpS a c < 0 := by
  have h := tri_S a b c (by omega) (by omega)
  have h3 : cmpS a c ≠ 0 := fun e => by have := (h.2 e).1; omega
  omega
theorem putR_comm (a b : ByteArray) (hab : a ≠ b) (x y : V) : ∀ f, putR (putR f a x) b y = putR (putR f b y) a x
  | [] => by
    have h1 := cmpS_ne hab
    have h2 := cmpS_turn a b
    have h3 : ¬ b = a := fun e => hab e.symm
    simp only [putR, if_neg hab, if_neg h3]
    by_cases h : 0 < cmpS a b
    · rw [if_pos h, if_neg (by omega)]
    · rw [if_neg h, if_pos (by omega)]
  | (m, z) :: r => by
    have h1 := cmpS_ne hab
    have h2 := cmpS_turn a b
    have h3 : ¬ b = a := fun e => hab e.symm
    by_cases ma : m = a
    · subst ma
      rw [putR, if_pos rfl]
      by_cases h : 0 < cmpS m b
      · rw [putR, if_neg hab, if_pos h, putR, if_neg hab, if_pos h, putR, if_neg h3, if_neg (by omega), putR, if_pos rfl]
      · rw [putR, if_neg hab, if_neg h, putR, if_neg hab, if_neg h, putR, if_pos rfl]
    · have ha0 := cmpS_ne ma
      by_cases mb : m = b
      · subst mb
        have h4 : ¬ m = a := ma
        by_cases h : 0 < cmpS m a
        · rw [putR, if_neg ma, if_pos h, putR, if_neg hab, if_neg (by omega), putR, if_pos rfl, putR, if_neg h3, if_pos h]
        · rw [putR, if_neg ma, if_neg h, putR, if_pos rfl, putR, if_pos rfl, putR, if_neg h3, if_neg h]
      · have hb0 := cmpS_ne mb
        by_cases hA : 0 < cmpS m a
        · by_cases hB : 0 < cmpS m b
          · rw [putR, if_neg ma, if_pos hA]
            rw [show putR ((m, z) :: r) b y = (b, y) :: (m, z) :: r by rw [putR, if_neg mb, if_pos hB]]
            by_cases h : 0 < cmpS a b
            · rw [putR, if_neg hab, if_pos h, putR, if_neg h3, if_neg (by omega), putR, if_neg ma, if_pos hA]
            · rw [putR, if_neg hab, if_neg h, putR, if_neg mb, if_pos hB, putR, if_neg h3, if_pos (by omega)]
          · have h5 : cmpS a b < 0 := cmpS_trans (b := m) (by rw [cmpS_turn m a]; omega) (by omega)
            rw [putR, if_neg ma, if_pos hA]
            rw [show putR ((m, z) :: r) b y = (m, z) :: putR r b y by rw [putR, if_neg mb, if_neg hB]]
            rw [putR, if_neg hab, if_neg (by omega), putR, if_neg mb, if_neg hB, putR, if_neg ma, if_pos hA]
        · by_cases hB : 0 < cmpS m b
          · have h5 : cmpS b a < 0 := cmpS_trans (b := m) (by rw [cmpS_turn m b]; omega) (by omega)
            rw [putR, if_neg ma, if_neg hA]
            rw [show putR ((m, z) :: r) b y = (b, y) :: (m, z) :: r by rw [putR, if_neg mb, if_pos hB]]
            rw [putR, if_neg mb, if_pos hB, putR, if_neg h3, if_neg (by omega), putR, if_neg ma, if_neg hA]
          · rw [putR, if_neg ma, if_neg hA]
            rw [show putR ((m, z) :: r) b y = (m, z) :: putR r b y by rw [putR, if_neg mb, if_neg hB]]
            rw [putR, if_neg mb, if_neg hB, putR, if_neg ma, if_neg hA, putR_comm a b hab x y r]
/-- names that rise -/
def Up : List (ByteArray × V) → Prop
  | [] => True
  | (m, _) :: r => (∀ a ∈ r, cmpS m a.1 < 0) ∧ Up r
theorem place_cons (p : ByteArray → Bool) (m : ByteArray) (y : V) (r : List (ByteArray × V)) : place p ((m, y) :: r) = if p m = true then 0 else place p r + 1 := by
  rw [place, List.findIdx_cons]
  cases hp : p m <;> simp [place]
theorem insF_cons (m : ByteArray × V) (r : List (ByteArray × V)) (q : Nat) (a : ByteArray × V) : insF (m :: r) (q + 1) a = m :: insF r q a := by
  simp [insF]
theorem putF_putR (a : ByteArray) (x : V) : ∀ f, Up f → putF f a x = putR f a x
  | [], _ => by simp [putF, putR, place, insF]
  | (m, y) :: r, h => by
    rw [Up] at h
    have ih := putF_putR a x r h.2
    rw [putR]
    by_cases ma : m = a
    · subst ma
      rw [if_pos rfl, putF, place_cons, if_pos (by simp), if_pos (by simp)]
      rfl
    · have e1 : place (fun m => decide (m = a)) ((m, y) :: r) = place (fun m => decide (m = a)) r + 1 := by rw [place_cons, if_neg (by simpa using ma)]
      rw [if_neg ma]
      by_cases hA : 0 < cmpS m a
      · have e2 : place (fun m => decide (m = a)) r = r.length := place_none _ r fun i n z hz => by
          have h1 := h.1 (n, z) (List.mem_of_getElem? hz)
          have h2 : ¬ n = a := fun e => by rw [e] at h1; simp only at h1; omega
          simpa using h2
        have e3 : place (fun m => decide (0 < cmpS m a)) ((m, y) :: r) = 0 := by rw [place_cons, if_pos (by simpa using hA)]
        rw [if_pos hA, putF, e1, e2, if_neg (by simp), e3]
        rfl
      · have e3 : place (fun m => decide (0 < cmpS m a)) ((m, y) :: r) = place (fun m => decide (0 < cmpS m a)) r + 1 := by rw [place_cons, if_neg (by simpa using hA)]
        rw [if_neg hA, ← ih, putF, putF, e1, e3, List.length_cons]
        by_cases hP : place (fun m => decide (m = a)) r < r.length
        · rw [if_pos hP, if_pos (by omega)]
          rfl
        · rw [if_neg hP, if_neg (by omega), insF_cons]
theorem putR_mem (a : ByteArray) (x : V) : ∀ (f : List (ByteArray × V)) (n : ByteArray × V), n ∈ putR f a x → n = (a, x) ∨ n ∈ f
  | [], n, h => by simpa [putR] using h
  | (m, y) :: r, n, h => by
    rw [putR] at h
    split at h
    · cases List.mem_cons.1 h with
      | inl e => exact Or.inl e
      | inr e => exact Or.inr (List.mem_cons_of_mem _ e)
    · split at h
      · cases List.mem_cons.1 h with
        | inl e => exact Or.inl e
        | inr e => exact Or.inr e
      · cases List.mem_cons.1 h with
        | inl e => exact Or.inr (by rw [e]; exact List.mem_cons_self)
        | inr e =>
          cases putR_mem a x r n e with
          | inl e => exact Or.inl e
          | inr e => exact Or.inr (List.mem_cons_of_mem _ e)
theorem putR_up (a : ByteArray) (x : V) : ∀ f, Up f → Up (putR f a x)
  | [], _ => by simp [putR, Up]
  | (m, y) :: r, h => by
    rw [Up] at h
    rw [putR]
    by_cases ma : m = a
    · subst ma
      rw [if_pos rfl, Up]
      exact h
    · rw [if_neg ma]
      have ha0 := cmpS_ne ma
      by_cases hA : 0 < cmpS m a
      · rw [if_pos hA, Up, Up]
        have h1 : cmpS a m < 0 := by rw [cmpS_turn m a]; omega
        refine ⟨fun n hn => ?_, h⟩
        cases List.mem_cons.1 hn with
        | inl e => rw [e]; exact h1
        | inr e => exact cmpS_trans h1 (h.1 n e)
      · rw [if_neg hA, Up]
        refine ⟨fun n hn => ?_, putR_up a x r h.2⟩
        cases putR_mem a x r n hn with
        | inl e => rw [e]; show cmpS m a < 0; omega
        | inr e => exact h.1 n e
theorem putF_comm {a b : ByteArray} (hab : a ≠ b) (x y : V) {f : List (ByteArray × V)} (h : Up f) : putF (putF f a x) b y = putF (putF f b y) a x := by
  rw [putF_putR a x f h, putF_putR b y f h, putF_putR b y _ (putR_up a x f h), putF_putR a x _ (putR_up b y f h), putR_comm a b hab x y f]
section
variable (u : ByteArray → Bool)
theorem checkF_up (d : Nat) : ∀ (f : List (ByteArray × V)) (q : ByteArray), checkF u d (some q) f = 0 → (∀ a ∈ f, cmpS q a.1 < 0) ∧ Up f
  | [], _, _ => ⟨fun a h => (by cases h), (by rw [Up]; trivial)⟩
  | (m, x) :: r, q, h => by
    rw [checkF_cons] at h
    have h1 : check1 u d (some q) (m, x) = 0 := Decidable.byContradiction fun e => by rw [if_pos e] at h; exact e h
    rw [if_neg (by simp [h1])] at h
    obtain ⟨h2, h3⟩ := checkF_up d r m h
    have h4 : cmpS q m < 0 := by
      rw [check1] at h1
      by_cases c1 : nameErr u m ≠ 0
      · rw [if_pos c1] at h1; exact absurd h1 c1
      · rw [if_neg c1] at h1
        by_cases c2 : notUp m (some q) = true
        · rw [if_pos c2] at h1; cases h1
        · rw [notUp, decide_eq_true_eq] at c2
          rw [cmpS_turn m q]; omega
    rw [Up]
    refine ⟨fun a ha => ?_, h2, h3⟩
    cases List.mem_cons.1 ha with
    | inl e => rw [e]; exact h4
    | inr e => exact cmpS_trans h4 (h2 a e)
theorem check_up {d k : Nat} {b : Bool} {n : Int} {s : ByteArray} {l : List V} {f : List (ByteArray × V)} (h : check u d ⟨k, b, n, s, l, f⟩ = 0) : Up f := by
  rw [check] at h
  split at h
  · rename_i c; exact absurd h c
  · split at h
    · rename_i c; exact absurd h c
    · match f, h with
      | [], _ => rw [Up]; trivial
      | (m, x) :: r, h =>
        rw [checkF_cons] at h
        have h1 : check1 u (d + 1) none (m, x) = 0 := Decidable.byContradiction fun e => by rw [if_pos e] at h; exact e h
        rw [if_neg (by simp [h1])] at h
        rw [Up]
        exact checkF_up u (d + 1) r m h
end
/-- what was put is got -/
theorem put_got (a : ByteArray) (y : V) (f : List (ByteArray × V)) : ((putF f a y)[place (fun m => decide (m = a)) (putF f a y)]?).map (·.2) = some y := by
  have low : ∀ i, i < place (fun m => decide (m = a)) f → ∀ n z, f[i]? = some (n, z) → decide (n = a) = false := fun i hi n z hz => by
    have h1 : i < f.length := (List.getElem?_eq_some_iff.1 hz).1
    have h2 := List.not_of_lt_findIdx (p := fun b : ByteArray × V => decide (b.1 = a)) (xs := f) hi
    rw [List.getElem?_eq_getElem h1] at hz
    have h3 := Option.some.inj hz
    rw [h3] at h2
    simpa using h2
  rw [putF]
  by_cases hP : place (fun m => decide (m = a)) f < f.length
  · rw [if_pos hP]
    have e : (f.set (place (fun m => decide (m = a)) f) (a, y))[place (fun m => decide (m = a)) f]? = some (a, y) := List.getElem?_set_self hP
    rw [place_at _ _ (place (fun m => decide (m = a)) f) a y (fun i n z hi hz => ?_) e (by simp), e]
    · rfl
    · rw [List.getElem?_set_ne (by omega)] at hz
      exact low i hi n z hz
  · rw [if_neg hP]
    have hl : place (fun m => decide (m = a)) f = f.length := by have := place_le (fun m => decide (m = a)) f; omega
    have hq := place_le (fun m => decide (0 < cmpS m a)) f
    have e : (insF f (place (fun m => decide (0 < cmpS m a)) f) (a, y))[place (fun m => decide (0 < cmpS m a)) f]? = some (a, y) := by
      rw [insF_at f _ hq, if_neg (by omega), if_pos rfl]
    rw [place_at _ _ (place (fun m => decide (0 < cmpS m a)) f) a y (fun i n z hi hz => ?_) e (by simp), e]
    · rfl
    · rw [insF_at f _ hq, if_pos hi] at hz
      exact low i (by omega) n z hz
theorem putF_len (f : List (ByteArray × V)) (a : ByteArray) (x : V) : (putF f a x).length ≤ f.length + 1 := by
  rw [putF]
  split
  · rw [List.length_set]; omega
  · rw [insF_length]; omega
theorem putF_mem (f : List (ByteArray × V)) (a : ByteArray) (x : V) (n : ByteArray × V) (h : n ∈ putF f a x) : n = (a, x) ∨ n ∈ f := by
  rw [putF] at h
  split at h
  · cases List.mem_or_eq_of_mem_set h with
    | inl e => exact Or.inr e
    | inr e => exact Or.inl e
  · rw [insF, List.mem_append, List.mem_cons] at h
    rcases h with h | h | h
    · exact Or.inr (List.mem_of_mem_take h)
    · exact Or.inl h
    · exact Or.inr (List.mem_of_mem_drop h)
theorem smallF_of : ∀ (l : List (ByteArray × V)), (∀ x ∈ l, x.1.size ≤ 140737488351232 ∧ small x.2) → smallF l
  | [], _ => by rw [smallF]; trivial
  | (m, x) :: r, h => by
    rw [smallF]
    exact ⟨(h (m, x) List.mem_cons_self).1, (h (m, x) List.mem_cons_self).2, smallF_of r fun y hy => h y (List.mem_cons_of_mem _ hy)⟩
theorem put_small {b : Bool} {n : Int} {s : ByteArray} {l : List V} {f : List (ByteArray × V)} (h : small ⟨6, b, n, s, l, f⟩) (hf : f.length ≤ 1466015503667) {a : ByteArray} (ha : a.size ≤ 140737488351232) {x : V} (hx : small x) : small ⟨6, b, n, s, l, putF f a x⟩ := by
  rw [small] at h ⊢
  refine ⟨h.1, h.2.1, by have := putF_len f a x; omega, h.2.2.2.1, smallF_of _ fun y hy => ?_⟩
  cases putF_mem f a x y hy with
  | inl e => rw [e]; exact ⟨ha, hx⟩
  | inr e => exact smallF_mem f y h.2.2.2.2 e
end Vl
end Go.Proofs.YtbogggnnmbjlfaaDoor
