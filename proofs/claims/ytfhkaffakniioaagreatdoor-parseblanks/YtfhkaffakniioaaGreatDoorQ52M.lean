/- Several texts, joined: QcM, QdM, QeM -/
import Derived.Test.YtfhkaffakniioaaGreatDoorQ51M
/- What the parser makes of tokens that were put together: plain mathematics. -/
namespace Go.Proofs.YtfhkaffakniioaaGreatDoor
namespace Ps
structure Fine (n : Nat) (s : S) : Prop where
  why : s.why = 0
  over : s.over = false
  deep : s.around ≤ 16
  fuel : 20000 ≤ n + s.around
/-- too deep -/
structure Dead (s : S) : Prop where
  why : s.why = 10
  rest : s.rest = []
/-- the keyword or sign that is next -/
def hd : List Tk → Option Bs
  | [] => none
  | t :: _ => if t.kind = 2 ∨ t.kind = 5 then some t.text else none
theorem is_hd (ts : List Bs) (s : S) : is ts s = match hd s.rest with
    | none => false
    | some t => ts.contains t := by
  unfold is token
  cases h : s.rest with
  | nil => rfl
  | cons t r =>
    show ((t.kind == 2 || t.kind == 5) && ts.contains t.text) = _
    by_cases hk : t.kind = 2 ∨ t.kind = 5
    · have e : (t.kind == 2 || t.kind == 5) = true := by rcases hk with e | e <;> rw [e] <;> rfl
      rw [e, hd, if_pos hk]
      rfl
    · have e : (t.kind == 2 || t.kind == 5) = false := by
        rw [Bool.or_eq_false_iff, beq_eq_false_iff_ne, beq_eq_false_iff_ne]
        exact ⟨fun e => hk (.inl e), fun e => hk (.inr e)⟩
      rw [e, hd, if_neg hk]
      rfl
def Stop (B : List Bs) (h : Option Bs) : Prop := ∀ t, h = some t → t ∉ B
theorem Stop.weak {A B : List Bs} {h : Option Bs} (hs : Stop B h) (hi : ∀ t ∈ A, t ∈ B) : Stop A h := fun t e k => hs t e (hi t k)
theorem is_false {B ts : List Bs} {s : S} (h : Stop B (hd s.rest)) (hs : ∀ t ∈ ts, t ∈ B) : is ts s = false := by
  rw [is_hd]
  cases e : hd s.rest with
  | none => rfl
  | some t =>
    show ts.contains t = false
    rw [← Bool.not_eq_true, List.contains_iff_mem]
    exact fun k => h t e (hs t k)
theorem is_true {ts : List Bs} {s : S} {t : Bs} (h : hd s.rest = some t) (ht : t ∈ ts) : is ts s = true := by
  rw [is_hd, h]
  exact List.contains_iff_mem.2 ht
theorem next_of {s : S} {t : Tk} {r : List Tk} (ho : s.over = false) (hr : s.rest = t :: r) : next s = { s with rest := r } := by
  unfold next
  rw [ho, if_neg (by decide), hr]
  rfl
theorem nextT_of {s : S} {t : Tk} {r : List Tk} (ho : s.over = false) (hr : s.rest = t :: r) : nextT s = t := by
  unfold nextT token
  rw [ho, if_neg (by decide), hr]
theorem add_of {p : Sp} {s : S} (_ : s.over = false) (hl : s.steps.length < 128) : add p s = { s with steps := s.steps ++ [p] } := by
  have e : (s.over || s.steps.length == 128) = s.over := by
    have : (s.steps.length == 128) = false := by rw [beq_eq_false_iff_ne]; omega
    rw [this, Bool.or_false]
  unfold add
  rw [e]
theorem must_of {s : S} {t : Tk} {r : List Tk} {x : Bs} {ts : List Bs} (ho : s.over = false) (hr : s.rest = t :: r) (ht : hd [t] = some x) (hx : x ∈ ts) : must ts s = { s with rest := r } := by
  unfold must
  rw [is_true (s := s) (t := x) (by rw [hr]; exact ht) hx, if_pos rfl, next_of ho hr]
theorem name_of {s : S} {t : Tk} {r : List Tk} {l : List Bs} (ho : s.over = false) (hr : s.rest = t :: r) (hk : t.kind = 1) (hl : l.contains t.text = false) : name l s = { s with rest := r } ∧ nameT l s = t.text := by
  have e : token s = t := by unfold token; rw [hr]
  unfold name nameT
  rw [e, if_pos hk, if_pos hk, hl, if_neg (by decide), if_neg (by decide), next_of ho hr, nextT_of ho hr]
  exact ⟨rfl, rfl⟩
section
variable {s : S}
theorem Dead.is (h : Dead s) (ts : List Bs) : is ts s = false := by rw [is_hd, h.rest]; rfl
theorem Dead.fail (h : Dead s) (e : Nat) : Dead (fail e s) := ⟨by show (if s.why = 0 then e else s.why) = 10; rw [h.why]; rfl, rfl⟩
theorem Dead.next (h : Dead s) : Dead (next s) := by
  unfold Ps.next
  split
  · exact h.fail 3
  · exact ⟨h.why, by show s.rest.tail = []; rw [h.rest]; rfl⟩
theorem Dead.must (h : Dead s) (ts : List Bs) : Dead (must ts s) := by
  unfold Ps.must
  rw [h.is, if_neg (by decide)]
  exact h.fail 13
theorem Dead.may (h : Dead s) (ts : List Bs) : Dead (may ts s) := by
  unfold Ps.may
  rw [h.is, if_neg (by decide)]
  exact h
theorem Dead.name (h : Dead s) (l : List Bs) : Dead (name l s) := by
  have e : (token s).kind = 0 := by unfold token; rw [h.rest]; rfl
  unfold Ps.name
  rw [e, if_neg (by decide)]
  exact h.fail 13
theorem Dead.add (h : Dead s) (p : Sp) : Dead (add p s) := ⟨h.why, h.rest⟩
theorem Dead.rowL (h : Dead s) (part : S → S) (ts : List Bs) (f : Nat) : rowL part ts f s = s := by
  cases f with
  | zero => rfl
  | succ f => rw [Ps.rowL, h.is, if_neg (by decide)]
end
/-- f takes ks, lays l; it nests d deep; what stands behind is none of B -/
def Does (f : S → S) (n : Nat) (ks : List Tk) (l : List Sp) (d : Nat) (B : List Bs) : Prop :=
  ∀ s R, s.rest = ks ++ R → Fine n s → Stop B (hd R) → s.steps.length + l.length ≤ 128 →
    (s.around + d ≤ 16 → f s = { s with rest := R, steps := s.steps ++ l }) ∧ (16 < s.around + d → Dead (f s))
theorem Does.weak {f : S → S} {n d : Nat} {ks : List Tk} {l : List Sp} {A B : List Bs} (h : Does f n ks l d A) (hi : ∀ t ∈ A, t ∈ B) : Does f n ks l d B := fun s R h1 h2 h3 h4 => h s R h1 h2 (h3.weak hi) h4
theorem Does.of {f g : S → S} {n d : Nat} {ks : List Tk} {l : List Sp} {B : List Bs} (h : Does f n ks l d B) (e : ∀ s R, s.rest = ks ++ R → Fine n s → g s = f s) : Does g n ks l d B := fun s R h1 h2 h3 h4 => by rw [e s R h1 h2]; exact h s R h1 h2 h3 h4
theorem does_zero (f : S → S) (ks : List Tk) (l : List Sp) (d : Nat) (B : List Bs) : Does f 0 ks l d B := fun s _ _ h _ _ => by have := h.fuel; have := h.deep; omega
theorem rowL_stop {part : S → S} {ts : List Bs} {s : S} (h : is ts s = false) (f : Nat) : rowL part ts f s = s := by
  cases f with
  | zero => rfl
  | succ f => rw [rowL, h, if_neg (by decide)]
section
variable {part : S → S} {n : Nat} {A ts : List Bs}
theorem does_row1 {ks : List Tk} {l : List Sp} {d : Nat} (h : Does part n ks l d A) : Does (row part ts) n ks l d (A ++ ts) := fun s R hr hf hst hl => by
  obtain ⟨h1, h2⟩ := h s R hr hf (hst.weak fun t k => List.mem_append_left _ k) hl
  unfold row
  refine ⟨fun hd1 => ?_, fun hd1 => ?_⟩
  · rw [h1 hd1]
    exact rowL_stop (is_false (B := A ++ ts) hst fun t k => List.mem_append_right _ k) _
  · rw [(h2 hd1).rowL]
    exact h2 hd1
theorem does_row2 {ka kb : List Tk} {la lb : List Sp} {da db : Nat} {o : Tk} {t : Bs} (ha : Does part n ka la da A) (hb : Does part n kb lb db A) (ho : hd [o] = some t) (ht : t ∈ ts) (hA : t ∉ A) (hx : o.text = t) : Does (row part ts) n (ka ++ o :: kb) (la ++ lb ++ [⟨kindOf t, [], 0⟩]) (max da db) (A ++ ts) := fun s R hr hf hst hl => by
  have hr1 : s.rest = ka ++ (o :: (kb ++ R)) := by rw [hr]; simp
  simp only [List.length_append, List.length_cons, List.length_nil] at hl
  obtain ⟨h1, h2⟩ := ha s _ hr1 hf (fun u e k => hA (by have : some t = some u := ho.symm.trans e; cases this; exact k)) (by omega)
  obtain ⟨s1, hs1⟩ : ∃ s1 : S, s1 = { s with rest := o :: (kb ++ R), steps := s.steps ++ la } := ⟨_, rfl⟩
  obtain ⟨s2, hs2⟩ : ∃ s2 : S, s2 = { s with rest := kb ++ R, steps := s.steps ++ la } := ⟨_, rfl⟩
  have o1 : s1.over = false := by rw [hs1]; exact hf.over
  have r1 : s1.rest = o :: (kb ++ R) := by rw [hs1]
  have e2 : is ts s1 = true := is_true (t := t) (by rw [r1]; exact ho) ht
  have e3 : next s1 = s2 := by rw [next_of o1 r1, hs1, hs2]
  have e4 : (nextT s1).text = t := by rw [nextT_of o1 r1, hx]
  have e5 : s1.rest.length = (kb ++ R).length + 1 := by rw [r1]; rfl
  obtain ⟨h3, h4⟩ := hb s2 R (by rw [hs2]) (by rw [hs2]; exact ⟨hf.why, hf.over, hf.deep, hf.fuel⟩) (hst.weak fun t k => List.mem_append_left _ k) (by rw [hs2]; show (s.steps ++ la).length + _ ≤ _; rw [List.length_append]; omega)
  have a2 : s2.around = s.around := by rw [hs2]
  rw [a2] at h3 h4
  rw [← hs1] at h1
  unfold row
  refine ⟨fun hd1 => ?_, fun hd1 => ?_⟩
  · rw [h1 (by omega), e5, rowL, e2, if_pos rfl, e3, e4, h3 (by omega), add_of (by rw [hs2]; exact hf.over) (by rw [hs2]; show (s.steps ++ la ++ lb).length < _; rw [List.length_append, List.length_append]; omega)]
    rw [rowL_stop (is_false (B := A ++ ts) hst fun t k => List.mem_append_right _ k), hs2]
    simp
  · by_cases hda : s.around + da ≤ 16
    · have h5 := h4 (by omega)
      rw [h1 hda, e5, rowL, e2, if_pos rfl, e3, (h5.add _).rowL]
      exact h5.add _
    · rw [(h2 (by omega)).rowL]
      exact h2 (by omega)
theorem does_nest {f : S → S} {m : Nat} {ks : List Tk} {l : List Sp} {d : Nat} (h : Does f m ks l d A) (hm : n ≤ m + 1) (o : Tk) : Does (nest f) n (o :: ks) l (d + 1) A := fun s R hr hf hst hl => by
  have hr1 : s.rest = o :: (ks ++ R) := hr
  unfold nest
  by_cases h16 : s.around = 16
  · rw [if_pos h16]
    exact ⟨fun k => by omega, fun _ => ⟨by show (if s.why = 0 then 10 else s.why) = 10; rw [hf.why]; rfl, rfl⟩⟩
  · rw [if_neg h16, next_of hf.over hr1]
    have hd1 := hf.deep
    have hf1 := hf.fuel
    obtain ⟨h1, h2⟩ := h { s with rest := ks ++ R, around := s.around + 1 } R rfl ⟨hf.why, hf.over, by show s.around + 1 ≤ 16; omega, by show 20000 ≤ m + (s.around + 1); omega⟩ hst hl
    refine ⟨fun k => ?_, fun k => ?_⟩
    · rw [h1 (by show s.around + 1 + d ≤ 16; omega)]
    · have h3 := h2 (by show 16 < s.around + 1 + d; omega)
      exact ⟨h3.why, h3.rest⟩
theorem hd_app {ks : List Tk} (h : ks ≠ []) (R : List Tk) : hd (ks ++ R) = hd ks := by
  cases ks with
  | nil => exact absurd rfl h
  | cons t r => rfl
/-- the first token is none of B -/
def Head (B : List Bs) (ks : List Tk) : Prop := ks ≠ [] ∧ Stop B (hd ks)
theorem Head.app {B : List Bs} {ks : List Tk} (h : Head B ks) (R : List Tk) : Head B (ks ++ R) := ⟨by simp [h.1], by rw [hd_app h.1]; exact h.2⟩
theorem Head.no {B tl : List Bs} {ks R : List Tk} {s : S} (h : Head B ks) (hr : s.rest = ks ++ R) (ht : ∀ t ∈ tl, t ∈ B) : is tl s = false := is_false (B := B) (by rw [hr, hd_app h.1]; exact h.2) ht
def H0 : List Bs := [[45], [78, 79, 84], [93], [125], [42]]
theorem does_signeds1 {prim : S → S} {ks : List Tk} {l : List Sp} {d N : Nat} (h : Does prim n ks l d A) (hh : Head [[45]] ks) (hN : 0 < N) : Does (signeds prim N) n ks l d A := h.of fun s R hr _ => by
  cases N with
  | zero => omega
  | succ N => rw [signeds, hh.no hr (fun _ k => k), if_neg (by decide)]
theorem does_nots1 {cmp : S → S} {ks : List Tk} {l : List Sp} {d N : Nat} (h : Does cmp n ks l d A) (hh : Head [[78, 79, 84]] ks) (hN : 0 < N) : Does (nots cmp N) n ks l d A := h.of fun s R hr _ => by
  cases N with
  | zero => omega
  | succ N => rw [nots, hh.no hr (fun _ k => k), if_neg (by decide)]
theorem does_add {f : S → S} {ks : List Tk} {l : List Sp} {d : Nat} {p : Sp} (h : Does f n ks l d A) : Does (fun s => add p (f s)) n ks (l ++ [p]) d A := fun s R hr hf hst hl => by
  rw [List.length_append, List.length_singleton] at hl
  obtain ⟨h1, h2⟩ := h s R hr hf hst (by omega)
  refine ⟨fun k => ?_, fun k => (h2 k).add p⟩
  show add p (f s) = _
  rw [h1 k, add_of (s := { s with rest := R, steps := s.steps ++ l }) hf.over (by show (s.steps ++ l).length < 128; rw [List.length_append]; omega)]
  show S.mk _ _ _ _ _ _ (s.steps ++ l ++ [p]) = _
  rw [List.append_assoc]
theorem does_signeds2 {prim : S → S} {ks : List Tk} {l : List Sp} {d N : Nat} (h : Does prim n ks l d A) (hh : Head [[45]] ks) (hN : 1 < N) : Does (signeds prim N) n (sg [45] :: ks) (l ++ [⟨9, [], 0⟩]) (d + 1) A := by
  cases N with
  | zero => omega
  | succ N =>
    refine (does_add (p := ⟨9, [], 0⟩) (does_nest (n := n) (does_signeds1 (N := N) h hh (by omega)) (by omega) (sg [45]))).of fun s R hr _ => ?_
    rw [signeds, is_true (s := s) (t := [45]) (by rw [hr]; rfl) (by decide), if_pos rfl]
theorem does_nots2 {cmp : S → S} {ks : List Tk} {l : List Sp} {d N : Nat} (h : Does cmp n ks l d A) (hh : Head [[78, 79, 84]] ks) (hN : 1 < N) : Does (nots cmp N) n (ky [78, 79, 84] :: ks) (l ++ [⟨10, [], 0⟩]) (d + 1) A := by
  cases N with
  | zero => omega
  | succ N =>
    refine (does_add (p := ⟨10, [], 0⟩) (does_nest (n := n) (does_nots1 (N := N) h hh (by omega)) (by omega) (ky [78, 79, 84]))).of fun s R hr _ => ?_
    rw [nots, is_true (s := s) (t := [78, 79, 84]) (by rw [hr]; rfl) (by decide), if_pos rfl]
def cmpB : List Bs := cmps ++ [[73, 83]]
theorem does_cmp1 {sum : S → S} {ks : List Tk} {l : List Sp} {d : Nat} (h : Does sum n ks l d A) : Does (comparison sum) n ks l d (A ++ cmpB) := fun s R hr hf hst hl => by
  obtain ⟨h1, h2⟩ := h s R hr hf (hst.weak fun t k => List.mem_append_left _ k) hl
  unfold comparison
  refine ⟨fun hd1 => ?_, fun hd1 => ?_⟩
  · rw [h1 hd1]
    have i1 : is cmps { s with rest := R, steps := s.steps ++ l } = false := is_false (B := A ++ cmpB) hst fun t k => List.mem_append_right _ (List.mem_append_left _ k)
    have i2 : is [[73, 83]] { s with rest := R, steps := s.steps ++ l } = false := is_false (B := A ++ cmpB) hst fun t k => List.mem_append_right _ (List.mem_append_right _ k)
    rw [i1, i2, if_neg (by decide), if_neg (by decide)]
  · rw [(h2 hd1).is, (h2 hd1).is, if_neg (by decide), if_neg (by decide)]
    exact h2 hd1
theorem does_cmp2 {sum : S → S} {ka kb : List Tk} {la lb : List Sp} {da db : Nat} {o : Tk} {t : Bs} (ha : Does sum n ka la da A) (hb : Does sum n kb lb db A) (ho : hd [o] = some t) (ht : t ∈ cmps) (hA : t ∉ A) (hx : o.text = t) : Does (comparison sum) n (ka ++ o :: kb) (la ++ lb ++ [⟨kindOf t, [], 0⟩]) (max da db) (A ++ cmpB) := fun s R hr hf hst hl => by
  have hr1 : s.rest = ka ++ (o :: (kb ++ R)) := by rw [hr]; simp
  simp only [List.length_append, List.length_cons, List.length_nil] at hl
  obtain ⟨h1, h2⟩ := ha s _ hr1 hf (fun u e k => hA (by have : some t = some u := ho.symm.trans e; cases this; exact k)) (by omega)
  obtain ⟨s1, hs1⟩ : ∃ s1 : S, s1 = { s with rest := o :: (kb ++ R), steps := s.steps ++ la } := ⟨_, rfl⟩
  obtain ⟨s2, hs2⟩ : ∃ s2 : S, s2 = { s with rest := kb ++ R, steps := s.steps ++ la } := ⟨_, rfl⟩
  have o1 : s1.over = false := by rw [hs1]; exact hf.over
  have r1 : s1.rest = o :: (kb ++ R) := by rw [hs1]
  have e2 : is cmps s1 = true := is_true (t := t) (by rw [r1]; exact ho) ht
  have e3 : next s1 = s2 := by rw [next_of o1 r1, hs1, hs2]
  have e4 : (nextT s1).text = t := by rw [nextT_of o1 r1, hx]
  obtain ⟨h3, h4⟩ := hb s2 R (by rw [hs2]) (by rw [hs2]; exact ⟨hf.why, hf.over, hf.deep, hf.fuel⟩) (hst.weak fun t k => List.mem_append_left _ k) (by rw [hs2]; show (s.steps ++ la).length + _ ≤ _; rw [List.length_append]; omega)
  have a2 : s2.around = s.around := by rw [hs2]
  rw [a2] at h3 h4
  rw [← hs1] at h1
  unfold comparison
  refine ⟨fun hd1 => ?_, fun hd1 => ?_⟩
  · rw [h1 (by omega), e2, if_pos rfl, e3, e4, h3 (by omega), add_of (by rw [hs2]; exact hf.over) (by rw [hs2]; show (s.steps ++ la ++ lb).length < _; rw [List.length_append, List.length_append]; omega), hs2]
    simp
  · by_cases hda : s.around + da ≤ 16
    · have h5 := h4 (by omega)
      rw [h1 hda, e2, if_pos rfl, e3]
      exact h5.add _
    · have h5 := h2 (by omega)
      rw [h5.is, h5.is, if_neg (by decide), if_neg (by decide)]
      exact h5
theorem does_null {sum : S → S} {ks : List Tk} {l : List Sp} {d : Nat} (h : Does sum n ks l d A) (hA : [73, 83] ∉ A) (B : List Bs) : Does (comparison sum) n (ks ++ [ky [73, 83], ky [78, 85, 76, 76]]) (l ++ [⟨11, [], 0⟩]) d B := fun s R hr hf _ hl => by
  have hr1 : s.rest = ks ++ (ky [73, 83] :: ky [78, 85, 76, 76] :: R) := by rw [hr]; simp
  simp only [List.length_append, List.length_cons, List.length_nil] at hl
  obtain ⟨h1, h2⟩ := h s _ hr1 hf (fun u e k => hA (by have e2 : some [73, 83] = some u := e; cases e2; exact k)) (by omega)
  obtain ⟨s1, hs1⟩ : ∃ s1 : S, s1 = { s with rest := ky [73, 83] :: ky [78, 85, 76, 76] :: R, steps := s.steps ++ l } := ⟨_, rfl⟩
  obtain ⟨s2, hs2⟩ : ∃ s2 : S, s2 = { s with rest := ky [78, 85, 76, 76] :: R, steps := s.steps ++ l } := ⟨_, rfl⟩
  have o1 : s1.over = false := by rw [hs1]; exact hf.over
  have o2 : s2.over = false := by rw [hs2]; exact hf.over
  have r1 : s1.rest = ky [73, 83] :: ky [78, 85, 76, 76] :: R := by rw [hs1]
  have r2 : s2.rest = ky [78, 85, 76, 76] :: R := by rw [hs2]
  have i1 : is cmps s1 = false := is_false (B := cmps) (by rw [r1]; intro t e k; have e2 : some [73, 83] = some t := e; cases e2; exact absurd k (by decide)) (fun t k => k)
  have i2 : is [[73, 83]] s1 = true := is_true (t := [73, 83]) (by rw [r1]; rfl) (by decide)
  have e3 : next s1 = s2 := by rw [next_of o1 r1, hs1, hs2]
  have i3 : is [[78, 79, 84]] s2 = false := is_false (B := [[78, 79, 84]]) (by rw [r2]; intro t e k; have e2 : some [78, 85, 76, 76] = some t := e; cases e2; exact absurd k (by decide)) (fun t k => k)
  have e4 : must [[78, 85, 76, 76]] s2 = { s with rest := R, steps := s.steps ++ l } := by rw [must_of (x := [78, 85, 76, 76]) o2 r2 rfl (by decide), hs2]
  rw [← hs1] at h1
  unfold comparison
  refine ⟨fun hd1 => ?_, fun hd1 => ?_⟩
  · rw [h1 hd1, i1, i2, if_neg (by decide), if_pos rfl, e3, i3, if_neg (by decide), e4, add_of (s := { s with rest := R, steps := s.steps ++ l }) hf.over (by show (s.steps ++ l).length < 128; rw [List.length_append]; omega)]
    simp
  · have h5 := h2 hd1
    rw [h5.is, h5.is, if_neg (by decide), if_neg (by decide)]
    exact h5
end
def B0 : List Bs := [[46]]
def B1 : List Bs := B0 ++ [[42]]
def B2 : List Bs := B1 ++ [[43], [45]]
def B3 : List Bs := B2 ++ cmpB
def B4 : List Bs := B3 ++ [[65, 78, 68]]
def B5 : List Bs := B4 ++ [[79, 82]]
section
variable {f : S → S} {n d : Nat} {ks : List Tk} {l : List Sp}
theorem up_ands (h : Does (ands f) n ks l d B4) : Does (orsOf f) n ks l d B5 := by
  unfold orsOf
  exact does_row1 h
theorem up_not (h : Does (not f) n ks l d B3) : Does (orsOf f) n ks l d B5 := up_ands (by
  unfold ands
  exact does_row1 h)
theorem up_cmp (h : Does (comparison (sum f)) n ks l d B3) (hh : Head [[78, 79, 84]] ks) : Does (orsOf f) n ks l d B5 := up_not (by
  unfold not
  exact does_nots1 h hh (by decide))
theorem up_sum (h : Does (sum f) n ks l d B2) (hh : Head [[78, 79, 84]] ks) : Does (orsOf f) n ks l d B5 := up_cmp (does_cmp1 h) hh
theorem up_product (h : Does (product f) n ks l d B1) (hh : Head [[78, 79, 84]] ks) : Does (orsOf f) n ks l d B5 := up_sum (by
  unfold sum
  exact does_row1 h) hh
theorem Head.weak {A B : List Bs} {ks : List Tk} (h : Head B ks) (hi : ∀ t ∈ A, t ∈ B) : Head A ks := ⟨h.1, h.2.weak hi⟩
theorem to_signed (h : Does (primary f) n ks l d B0) (hh : Head H0 ks) : Does (signed f) n ks l d B0 := by
  unfold signed
  exact does_signeds1 h (hh.weak (by decide)) (by decide)
theorem to_product (h : Does (primary f) n ks l d B0) (hh : Head H0 ks) : Does (product f) n ks l d B1 := by
  unfold product
  exact does_row1 (to_signed h hh)
theorem to_sum (h : Does (primary f) n ks l d B0) (hh : Head H0 ks) : Does (sum f) n ks l d B2 := by
  unfold sum
  exact does_row1 (to_product h hh)
theorem to_not (h : Does (primary f) n ks l d B0) (hh : Head H0 ks) : Does (not f) n ks l d B3 := by
  unfold not
  exact does_nots1 (does_cmp1 (to_sum h hh)) (hh.weak (by decide)) (by decide)
theorem to_ands (h : Does (primary f) n ks l d B0) (hh : Head H0 ks) : Does (ands f) n ks l d B4 := by
  unfold ands
  exact does_row1 (to_not h hh)
theorem to_ors (h : Does (primary f) n ks l d B0) (hh : Head H0 ks) : Does (orsOf f) n ks l d B5 := up_ands (to_ands h hh)
theorem does_closed (h : Does f n ks l d B5) (B : List Bs) : Does (closed f) n (ks ++ [sg [41]]) l d B := fun s R hr hf _ hl => by
  have hr1 : s.rest = ks ++ (sg [41] :: R) := by rw [hr]; simp
  obtain ⟨h1, h2⟩ := h s _ hr1 hf (fun u e k => by have e2 : some [41] = some u := e; cases e2; exact absurd k (by decide)) hl
  unfold closed
  refine ⟨fun k => ?_, fun k => (h2 k).must _⟩
  rw [h1 k, must_of (x := [41]) (s := { s with rest := sg [41] :: R, steps := s.steps ++ l }) hf.over rfl rfl (by decide)]
end
end Ps
end Go.Proofs.YtfhkaffakniioaaGreatDoor
/- An expression that is printed is read as it was, or nests too deep: plain mathematics. -/
namespace Go.Proofs.YtfhkaffakniioaaGreatDoor
namespace Ps
section
variable {f : S → S} {n : Nat}
theorem tok_hd {s : S} {t : Tk} {r : List Tk} (hr : s.rest = t :: r) : token s = t := by unfold token; rw [hr]
/-- one token, one step -/
theorem does_one {t : Tk} {p : Sp} (h : ∀ s R, s.rest = t :: R → s.over = false → f s = add p (next s)) (B : List Bs) : Does f n [t] [p] 0 B := fun s R hr hf _ hl => by
  have hr1 : s.rest = t :: R := hr
  simp only [List.length_cons, List.length_nil] at hl
  refine ⟨fun _ => ?_, fun k => by have := hf.deep; omega⟩
  rw [h s R hr1 hf.over, next_of hf.over hr1, add_of (s := { s with rest := R }) hf.over (by show s.steps.length < 128; omega)]
theorem prim_num (v : Int) : Does (primary f) n [nb v] [⟨4, [], v⟩] 0 B0 := does_one (fun s R hr ho => by
  unfold primary
  rw [tok_hd hr, if_pos (by rfl), nextT_of ho hr]
  rfl) _
theorem prim_text (t : Bs) : Does (primary f) n [tt t] [⟨5, t, 0⟩] 0 B0 := does_one (fun s R hr ho => by
  unfold primary
  rw [tok_hd hr, show (tt t).kind = 4 from rfl, if_neg (by decide), if_pos rfl, nextT_of ho hr]
  rfl) _
theorem is_ky {s : S} {R : List Tk} {t : Bs} (hr : s.rest = ky t :: R) (x : Bs) : is [x] s = decide (x = t) := by
  rw [is_hd, hr]
  show [x].contains t = _
  by_cases h : x = t
  · rw [decide_eq_true h, h]; simp
  · rw [decide_eq_false h, ← Bool.not_eq_true, List.contains_iff_mem, List.mem_singleton]
    exact fun e => h e.symm
theorem is_sg {s : S} {R : List Tk} {t : Bs} (hr : s.rest = sg t :: R) (x : Bs) : is [x] s = decide (x = t) := by
  rw [is_hd, hr]
  show [x].contains t = _
  by_cases h : x = t
  · rw [decide_eq_true h, h]; simp
  · rw [decide_eq_false h, ← Bool.not_eq_true, List.contains_iff_mem, List.mem_singleton]
    exact fun e => h e.symm
theorem prim_null : Does (primary f) n [ky [78, 85, 76, 76]] [⟨1, [], 0⟩] 0 B0 := does_one (fun s R hr _ => by
  unfold primary
  rw [tok_hd hr, if_neg (by decide), if_neg (by decide), if_neg (by decide), is_ky hr, if_pos (by decide)]) _
theorem prim_true : Does (primary f) n [ky [84, 82, 85, 69]] [⟨2, [], 0⟩] 0 B0 := does_one (fun s R hr _ => by
  unfold primary
  rw [tok_hd hr, if_neg (by decide), if_neg (by decide), if_neg (by decide), is_ky hr, if_neg (by decide), is_ky hr, if_pos (by decide)]) _
theorem prim_false : Does (primary f) n [ky [70, 65, 76, 83, 69]] [⟨3, [], 0⟩] 0 B0 := does_one (fun s R hr _ => by
  unfold primary
  rw [tok_hd hr, if_neg (by decide), if_neg (by decide), if_neg (by decide), is_ky hr, if_neg (by decide), is_ky hr, if_neg (by decide), is_ky hr, if_pos (by decide)]) _
/-- what a sign opens -/
theorem prim_open {t : Bs} {s : S} {R : List Tk} (hr : s.rest = sg t :: R) (ht : t = [40] ∨ t = [91] ∨ t = [123]) : primary f s = if t = [40] then nest (closed f) s else if t = [91] then nest (list f) s else nest (fields f) s := by
  unfold primary
  rw [tok_hd hr, show (sg t).kind = 5 from rfl, if_neg (by decide), if_neg (by decide), if_neg (by decide), is_sg hr, is_sg hr, is_sg hr, is_sg hr, is_sg hr, is_sg hr]
  rcases ht with rfl | rfl | rfl <;> rfl
theorem prim_nest {g : S → S} {o : Tk} {t : Bs} {ks : List Tk} {l : List Sp} {d : Nat} {B : List Bs} (ho : o = sg t) (ht : t = [40] ∨ t = [91] ∨ t = [123]) (hg : (if t = [40] then closed f else if t = [91] then list f else fields f) = g) (h : Does (nest g) n (o :: ks) l d B) : Does (primary f) n (o :: ks) l d B := h.of fun s R hr _ => by
  subst ho
  have hr1 : s.rest = sg t :: (ks ++ R) := hr
  rw [prim_open hr1 ht, ← hg]
  rcases ht with rfl | rfl | rfl <;> rfl
/-- a path -/
def pathT : List Bs → List Tk
  | [] => []
  | q :: r => sg [46] :: pk q :: pathT r
theorem pathK_cons : ∀ (p : Bs) (l : List Bs), pathK (p :: l) = pk p :: pathT l
  | p, [] => rfl
  | p, q :: r => by rw [pathK, pathK_cons q r, pathT]
theorem pathL_of : ∀ (l : List Bs) (N : Nat) (s : S) (R : List Tk) (acc : List Bs), l.length ≤ N → (∀ p ∈ l, (isNm p || isNb p) = true) → s.rest = pathT l ++ R → s.over = false → Stop B0 (hd R) → pathL N s acc = ({ s with rest := R }, acc ++ l)
  | [], N, s, R, acc, _, _, hr, _, hst => by
    have hr1 : s.rest = R := hr
    have e : ({ s with rest := R } : S) = s := by rw [← hr1]
    rw [e, List.append_nil]
    cases N with
    | zero => rfl
    | succ N => rw [pathL, is_false (B := B0) (by rw [hr1]; exact hst) (by decide), if_neg (by decide)]
  | q :: r, 0, _, _, _, hN, _, _, _, _ => by simp at hN
  | q :: r, N + 1, s, R, acc, hN, hp, hr, ho, hst => by
    have hr1 : s.rest = sg [46] :: (pk q :: (pathT r ++ R)) := hr
    have e1 : next s = { s with rest := pk q :: (pathT r ++ R) } := next_of ho hr1
    have hq := hp q (List.mem_cons_self ..)
    have ih := pathL_of r N { s with rest := pathT r ++ R } R (acc ++ [q]) (by simp at hN; omega) (fun x hx => hp x (List.mem_cons_of_mem _ hx)) rfl ho hst
    have e5 : acc ++ [q] ++ r = acc ++ q :: r := by simp
    rw [e5] at ih
    rw [pathL, is_true (s := s) (t := [46]) (by rw [hr1]; rfl) (by decide), if_pos rfl, e1]
    obtain ⟨s1, hs1⟩ : ∃ s1 : S, s1 = { s with rest := pk q :: (pathT r ++ R) } := ⟨_, rfl⟩
    have r1 : s1.rest = pk q :: (pathT r ++ R) := by rw [hs1]
    have o1 : s1.over = false := by rw [hs1]; exact ho
    rw [← hs1, tok_hd r1]
    by_cases hn : isNm q = true
    · have e2 : pk q = wd q := by rw [pk, if_pos hn]
      have e3 := name_of (l := []) o1 r1 (by rw [e2]; rfl) (by rfl)
      rw [e2, show (wd q).kind = 1 from rfl, if_neg (by decide), e3.1, e3.2, e2, hs1]
      exact ih
    · have e2 : pk q = nb (numv 0 q : Nat) := by rw [pk, if_neg hn]
      have hb : isNb q = true := by rw [Bool.or_eq_true] at hq; exact hq.resolve_left hn
      rw [e2, if_pos (by rfl), next_of o1 r1, hs1]
      show pathL N _ (acc ++ [Lib.itoa (numv 0 q : Nat)]) = _
      rw [(nb_itoa hb).1]
      exact ih
theorem prim_path {t : Bs} (h : isPt t = true) : Does (primary f) n (pathK (cut 46 t)) [⟨6, t, 0⟩] 0 B0 := fun s R hr hf hst hl => by
  obtain ⟨p, l, ec, hp, hall⟩ := path_first h
  have ej := join_cut 46 t
  rw [ec] at ej
  rw [ec, pathK_cons] at hr
  simp only [List.length_cons, List.length_nil] at hl
  have hr1 : s.rest = pk p :: (pathT l ++ R) := hr
  have e2 : pk p = wd p := by rw [pk, if_pos hp]
  have e3 := name_of (l := []) hf.over hr1 (by rw [e2]; rfl) (by rfl)
  have e4 : (pathT l).length = 2 * l.length := by
    clear hr hr1 ej hall ec e3
    induction l with
    | nil => rfl
    | cons q r ih => rw [pathT, List.length_cons, List.length_cons, List.length_cons, ih]; omega
  have e5 := pathL_of l (pathT l ++ R).length { s with rest := pathT l ++ R } R [p] (by rw [List.length_append, e4]; omega) (fun x hx => hall x (List.mem_cons_of_mem _ hx)) rfl hf.over hst
  have e6 : path s = ({ s with rest := R }, p :: l) := by
    unfold path
    rw [e3.1, e3.2, e2]
    exact e5
  refine ⟨fun _ => ?_, fun k => by have := hf.deep; omega⟩
  unfold primary
  rw [tok_hd hr1, e2, show (wd p).kind = 1 from rfl, if_neg (by decide), if_neg (by decide), if_pos rfl, e6, add_of (s := { s with rest := R }) hf.over (by show s.steps.length < 128; omega)]
  show S.mk _ _ _ _ _ _ (s.steps ++ [⟨6, join [46] (p :: l), 0⟩]) = _
  rw [ej]
end
/-- one part of a row -/
def PD {E : Type} (part : S → E → S × E) (n : Nat) (ks : List Tk) (l : List Sp) (d : Nat) (e e' : E) : Prop :=
  ∀ s R, s.rest = ks ++ R → Fine n s → Stop B5 (hd R) → s.steps.length + l.length ≤ 128 →
    (s.around + d ≤ 16 → part s e = ({ s with rest := R, steps := s.steps ++ l }, e')) ∧ (16 < s.around + d → Dead (part s e).1)
inductive Chain {E : Type} (part : S → E → S × E) (n : Nat) : List Tk → List Sp → Nat → Nat → E → E → Prop
  | one {ks : List Tk} {l : List Sp} {d : Nat} {e e' : E} (h : PD part n ks l d e e') : Chain part n ks l d 1 e e'
  | more {ks kr : List Tk} {l lr : List Sp} {d dr k : Nat} {e e' e'' : E} (h : PD part n ks l d e e') (hr : Chain part n kr lr dr k e' e'') : Chain part n (ks ++ sg [44] :: kr) (l ++ lr) (max d dr) (k + 1) e e''
theorem open_of {s : S} {m : Nat} (_ : s.over = false) (hm : m < 64) : open1 m s = s := by
  unfold open1
  have : (m == 64) = false := by rw [beq_eq_false_iff_ne]; omega
  rw [this, Bool.or_false]
theorem is_comma (B : List Bs) {s : S} (h : Stop (B ++ [[44]]) (hd s.rest)) : is [[44]] s = false := is_false h (fun _ k => List.mem_append_right _ k)
section
variable {E : Type} {part : S → E → S × E} {n : Nat}
theorem Chain.does {ks : List Tk} {l : List Sp} {d k : Nat} {e e' : E} (h : Chain part n ks l d k e e') : ∀ (N m : Nat) (s : S) (R : List Tk), k ≤ N → m + k ≤ 64 → s.rest = ks ++ R → Fine n s → Stop (B5 ++ [[44]]) (hd R) → s.steps.length + l.length ≤ 128 →
    (s.around + d ≤ 16 → partsL part N m s e = ({ s with rest := R, steps := s.steps ++ l }, e', m + k)) ∧ (16 < s.around + d → Dead (partsL part N m s e).1) := by
  induction h with
  | @one ks l d e e' h =>
    intro N m s R hN hm hr hf hst hl
    obtain ⟨h1, h2⟩ := h s R hr hf (hst.weak fun t k => List.mem_append_left _ k) hl
    cases N with
    | zero => omega
    | succ N =>
      rw [partsL, open_of hf.over (by omega)]
      refine ⟨fun k => ?_, fun k => ?_⟩
      · rw [h1 k]
        show (if is [[44]] { s with rest := R, steps := s.steps ++ l } = true then _ else _) = _
        rw [is_comma B5 (s := { s with rest := R, steps := s.steps ++ l }) hst, if_neg (by decide)]
      · rw [(h2 k).is, if_neg (by decide)]
        exact h2 k
  | @more ks kr l lr d dr k e e' e'' h hc ih =>
    intro N m s R hN hm hr hf hst hl
    rw [List.length_append] at hl
    have hr1 : s.rest = ks ++ (sg [44] :: (kr ++ R)) := by rw [hr]; simp
    obtain ⟨h1, h2⟩ := h s _ hr1 hf (fun u e k => by have e2 : some [44] = some u := e; cases e2; exact absurd k (by decide)) (by omega)
    cases N with
    | zero => omega
    | succ N =>
      obtain ⟨s1, hs1⟩ : ∃ s1 : S, s1 = { s with rest := sg [44] :: (kr ++ R), steps := s.steps ++ l } := ⟨_, rfl⟩
      obtain ⟨s2, hs2⟩ : ∃ s2 : S, s2 = { s with rest := kr ++ R, steps := s.steps ++ l } := ⟨_, rfl⟩
      have o1 : s1.over = false := by rw [hs1]; exact hf.over
      have r1 : s1.rest = sg [44] :: (kr ++ R) := by rw [hs1]
      have e3 : next s1 = s2 := by rw [next_of o1 r1, hs1, hs2]
      have i1 : is [[44]] s1 = true := is_true (t := [44]) (by rw [r1]; rfl) (by decide)
      obtain ⟨h3, h4⟩ := ih N (m + 1) s2 R (by omega) (by omega) (by rw [hs2]) (by rw [hs2]; exact ⟨hf.why, hf.over, hf.deep, hf.fuel⟩) hst (by rw [hs2]; show (s.steps ++ l).length + _ ≤ _; rw [List.length_append]; omega)
      have a2 : s2.around = s.around := by rw [hs2]
      rw [a2] at h3 h4
      rw [← hs1] at h1
      rw [partsL, open_of hf.over (by omega)]
      refine ⟨fun q => ?_, fun q => ?_⟩
      · rw [h1 (by omega)]
        show (if is [[44]] s1 = true then partsL part N (m + 1) (next s1) e' else _) = _
        rw [i1, if_pos rfl, e3, h3 (by omega), hs2]
        show (S.mk _ _ _ _ _ _ (s.steps ++ l ++ lr), e'', m + 1 + k) = (S.mk _ _ _ _ _ _ (s.steps ++ (l ++ lr)), e'', m + (k + 1))
        rw [List.append_assoc, show m + 1 + k = m + (k + 1) by omega]
      · by_cases hda : s.around + d ≤ 16
        · rw [h1 hda]
          show Dead (if is [[44]] s1 = true then partsL part N (m + 1) (next s1) e' else _).1
          rw [i1, if_pos rfl, e3]
          exact h4 (by omega)
        · have h5 := h2 (by omega)
          rw [h5.is, if_neg (by decide)]
          exact h5
theorem Chain.ne {ks : List Tk} {l : List Sp} {d k : Nat} {e e' : E} (h : Chain part n ks l d k e e') : k ≤ ks.length + 1 := by
  induction h with
  | one h => omega
  | more h hc ih => rw [List.length_append, List.length_cons]; omega
/-- parts up to what closes them -/
theorem till_of {c : Bs} {ks : List Tk} {l : List Sp} {d k : Nat} {e e' : E} (h : Chain part n ks l d k e e') (hk : k ≤ 64) (hh : Head [c] ks) (hc : c ∉ B5 ++ [[44]]) : ∀ (s : S) (R : List Tk), s.rest = ks ++ sg c :: R → Fine n s → s.steps.length + l.length ≤ 128 →
    (s.around + d ≤ 16 → partsTill c part s e = ({ s with rest := R, steps := s.steps ++ l }, e', k)) ∧ (16 < s.around + d → Dead (partsTill c part s e).1) := fun s R hr hf hl => by
  have hn := h.ne
  obtain ⟨h1, h2⟩ := h.does (s.rest.length + 1) 0 s (sg c :: R) (by rw [hr, List.length_append]; omega) (by omega) hr hf (fun u e k => hc (by have e2 : some c = some u := e; cases e2; exact k)) hl
  unfold partsTill
  rw [hh.no hr (fun t k => k), if_neg (by decide)]
  unfold parts
  refine ⟨fun q => ?_, fun q => (h2 q).must _⟩
  rw [h1 q, Nat.zero_add]
  show (must [c] { s with rest := sg c :: R, steps := s.steps ++ l }, e', k) = _
  rw [must_of (x := c) (s := { s with rest := sg c :: R, steps := s.steps ++ l }) hf.over rfl rfl (by simp)]
end
/-- a part of an expression that stands in a row: its steps, its text, its tokens, how deep it nests -/
structure Seg where
  sl : List Sp
  st : Bs
  sk : List Tk
  sd : Nat
structure Good (g : Seg) : Prop where
  lex : LexC g.st g.sk
  head : Head H0 g.sk
  does : ∀ n, Does (primary (ors n)) n g.sk g.sl g.sd B0
  need : g.sd + 1 ≤ 2 * g.sl.length
theorem Good.ors {g : Seg} (h : Good g) (n : Nat) : Does (ors (n + 1)) n g.sk g.sl g.sd B5 := to_ors (h.does n) h.head
end Ps
end Go.Proofs.YtfhkaffakniioaaGreatDoor
/- An expression that is printed is read as it was, or nests too deep: rows, operators, whole expressions; plain mathematics. -/
namespace Go.Proofs.YtfhkaffakniioaaGreatDoor
namespace Ps
def maxD : List Seg → Nat
  | [] => 0
  | g :: r => max g.sd (maxD r)
def allL : List Seg → List Sp
  | [] => []
  | g :: r => g.sl ++ allL r
theorem allL_app : ∀ a b : List Seg, allL (a ++ b) = allL a ++ allL b
  | [], _ => rfl
  | g :: r, b => by rw [List.cons_append, allL, allL, allL_app r b, List.append_assoc]
theorem maxD_need : ∀ gs : List Seg, (∀ g ∈ gs, Good g) → maxD gs ≤ 2 * (allL gs).length
  | [], _ => Nat.zero_le _
  | g :: r, h => by
    have h1 := (h g (List.mem_cons_self ..)).need
    have h2 := maxD_need r (fun x hx => h x (List.mem_cons_of_mem _ hx))
    rw [maxD, allL, List.length_append]
    omega
theorem stop_sg {t : Bs} {B : List Bs} (h : t ∉ B) (R : List Tk) : Stop B (hd (sg t :: R)) := fun u e k => by
  have e2 : some t = some u := e
  cases e2
  exact h k
theorem stop_ky {t : Bs} {B : List Bs} (h : t ∉ B) (R : List Tk) : Stop B (hd (ky t :: R)) := fun u e k => by
  have e2 : some t = some u := e
  cases e2
  exact h k
theorem stop_none {t : Tk} {B : List Bs} (h : t.kind = 1 ∨ t.kind = 3 ∨ t.kind = 4) (R : List Tk) : Stop B (hd (t :: R)) := fun u e _ => by
  have e2 : (if t.kind = 2 ∨ t.kind = 5 then some t.text else none) = some u := e
  rw [if_neg (by omega)] at e2
  cases e2
theorem head_of {t : Tk} {B : List Bs} {R : List Tk} (h : Stop B (hd (t :: R))) : Head B (t :: R) := ⟨by simp, h⟩
section
variable {m : Nat}
theorem chain_list : ∀ gs : List Seg, gs ≠ [] → (∀ g ∈ gs, Good g) → Chain (listP (ors (m + 1))) m (commaK (gs.map Seg.sk)) (allL gs) (maxD gs) gs.length () ()
  | [], h, _ => absurd rfl h
  | [g], _, h => by
    have hg := (h g (List.mem_cons_self ..)).ors m
    have e1 : allL [g] = g.sl := List.append_nil _
    have e2 : maxD [g] = g.sd := Nat.max_zero _
    rw [e1, e2]
    refine .one fun s R hr hf hst hl => ?_
    obtain ⟨h1, h2⟩ := hg s R hr hf hst hl
    exact ⟨fun k => by show (ors (m + 1) s, ()) = _; rw [h1 k], h2⟩
  | g :: g2 :: r, _, h => by
    have hg := (h g (List.mem_cons_self ..)).ors m
    have ih := chain_list (g2 :: r) (by simp) (fun x hx => h x (List.mem_cons_of_mem _ hx))
    refine .more (fun s R hr hf hst hl => ?_) ih
    obtain ⟨h1, h2⟩ := hg s R hr hf hst hl
    exact ⟨fun k => by show (ors (m + 1) s, ()) = _; rw [h1 k], h2⟩
theorem commaK_head {B : List Bs} : ∀ l : List (List Tk), l ≠ [] → (∀ k ∈ l, Head B k) → Head B (commaK l)
  | [], h, _ => absurd rfl h
  | [x], _, h => h x (List.mem_cons_self ..)
  | x :: y :: r, _, h => by
    rw [commaK]
    exact (h x (List.mem_cons_self ..)).app _
theorem does_list (gs : List Seg) (hg : ∀ g ∈ gs, Good g) (h64 : gs.length ≤ 64) (B : List Bs) : Does (list (ors (m + 1))) m (commaK (gs.map Seg.sk) ++ [sg [93]]) (allL gs ++ [⟨7, [], (gs.length : Nat)⟩]) (maxD gs) B := fun s R hr hf _ hl => by
  rw [List.length_append, List.length_singleton] at hl
  unfold list
  by_cases h0 : gs = []
  · subst h0
    have hr1 : s.rest = sg [93] :: R := hr
    have e : partsTill [93] (listP (ors (m + 1))) s () = ({ s with rest := R }, (), 0) := by
      unfold partsTill
      rw [is_sg hr1, if_pos (by decide), next_of hf.over hr1]
    rw [e, add_of (s := { s with rest := R }) hf.over (by show s.steps.length < 128; omega)]
    exact ⟨fun _ => rfl, fun k => by have := hf.deep; simp [maxD] at k; omega⟩
  · have hr1 : s.rest = commaK (gs.map Seg.sk) ++ sg [93] :: R := by rw [hr]; simp
    have hh : Head [[93]] (commaK (gs.map Seg.sk)) := commaK_head _ (by simpa using h0) (fun k hk => by
      obtain ⟨g, hg1, rfl⟩ := List.mem_map.1 hk
      exact (hg g hg1).head.weak (by decide))
    obtain ⟨h1, h2⟩ := till_of (chain_list (m := m) gs h0 hg) h64 hh (by decide) s R hr1 hf (by omega)
    refine ⟨fun k => ?_, fun k => (h2 k).add _⟩
    rw [h1 k, add_of (s := { s with rest := R, steps := s.steps ++ allL gs }) hf.over (by show (s.steps ++ allL gs).length < 128; rw [List.length_append]; omega)]
    show S.mk _ _ _ _ _ _ (s.steps ++ allL gs ++ _) = S.mk _ _ _ _ _ _ (s.steps ++ (allL gs ++ _))
    rw [List.append_assoc]
/-- a field: its name, what it is -/
def fK (x : Bs × Seg) : List Tk := wd x.1 :: sg [58] :: x.2.sk
theorem pd_field {x : Bs × Seg} (hg : Good x.2) {acc : List Bs} (hc : acc.contains x.1 = false) : PD (fieldP (ors (m + 1))) m (fK x) x.2.sl x.2.sd acc (acc ++ [x.1]) := fun s R hr hf hst hl => by
  have hr1 : s.rest = wd x.1 :: (sg [58] :: (x.2.sk ++ R)) := hr
  obtain ⟨e1, e2⟩ := name_of (l := acc) hf.over hr1 rfl hc
  have e3 : must [[58]] { s with rest := sg [58] :: (x.2.sk ++ R) } = { s with rest := x.2.sk ++ R } := by rw [must_of (x := [58]) (s := { s with rest := sg [58] :: (x.2.sk ++ R) }) hf.over rfl rfl (by decide)]
  obtain ⟨h1, h2⟩ := hg.ors m { s with rest := x.2.sk ++ R } R rfl ⟨hf.why, hf.over, hf.deep, hf.fuel⟩ hst hl
  unfold fieldP
  rw [e1, e2, e3]
  refine ⟨fun k => ?_, fun k => h2 k⟩
  rw [h1 k]
  rfl
theorem chain_fields : ∀ (xs : List (Bs × Seg)) (acc : List Bs), xs ≠ [] → (∀ x ∈ xs, Good x.2) → areNs acc (xs.map Prod.fst) = true → Chain (fieldP (ors (m + 1))) m (commaK (xs.map fK)) (allL (xs.map Prod.snd)) (maxD (xs.map Prod.snd)) xs.length acc (acc ++ xs.map Prod.fst)
  | [], _, h, _, _ => absurd rfl h
  | [x], acc, _, h, hn => by
    rw [List.map_cons, areNs, Bool.and_eq_true, Bool.and_eq_true, Bool.not_eq_true'] at hn
    have e1 : allL ([x].map Prod.snd) = x.2.sl := List.append_nil _
    have e2 : maxD ([x].map Prod.snd) = x.2.sd := Nat.max_zero _
    rw [e1, e2]
    exact .one (pd_field (h x (List.mem_cons_self ..)) hn.1.2)
  | x :: y :: r, acc, _, h, hn => by
    rw [List.map_cons, areNs, Bool.and_eq_true, Bool.and_eq_true, Bool.not_eq_true'] at hn
    have ih := chain_fields (y :: r) (acc ++ [x.1]) (by simp) (fun z hz => h z (List.mem_cons_of_mem _ hz)) hn.2
    have e : acc ++ [x.1] ++ (y :: r).map Prod.fst = acc ++ (x :: y :: r).map Prod.fst := by simp
    rw [e] at ih
    exact .more (pd_field (h x (List.mem_cons_self ..)) hn.1.2) ih
theorem does_fields (xs : List (Bs × Seg)) (hg : ∀ x ∈ xs, Good x.2) (hn : areNs [] (xs.map Prod.fst) = true) (h64 : xs.length ≤ 64) (B : List Bs) : Does (fields (ors (m + 1))) m (commaK (xs.map fK) ++ [sg [125]]) (allL (xs.map Prod.snd) ++ [⟨8, join [44] (xs.map Prod.fst), (xs.length : Nat)⟩]) (maxD (xs.map Prod.snd)) B := fun s R hr hf _ hl => by
  rw [List.length_append, List.length_singleton] at hl
  unfold fields
  by_cases h0 : xs = []
  · subst h0
    have hr1 : s.rest = sg [125] :: R := hr
    have e : partsTill [125] (fieldP (ors (m + 1))) s [] = ({ s with rest := R }, [], 0) := by
      unfold partsTill
      rw [is_sg hr1, if_pos (by decide), next_of hf.over hr1]
    rw [e, add_of (s := { s with rest := R }) hf.over (by show s.steps.length < 128; omega)]
    exact ⟨fun _ => rfl, fun k => by have := hf.deep; simp [maxD] at k; omega⟩
  · have hr1 : s.rest = commaK (xs.map fK) ++ sg [125] :: R := by rw [hr]; simp
    have hh : Head [[125]] (commaK (xs.map fK)) := commaK_head _ (by simpa using h0) (fun k hk => by
      obtain ⟨x, _, rfl⟩ := List.mem_map.1 hk
      exact head_of (stop_none (.inl rfl) _))
    have hc := chain_fields (m := m) xs [] h0 hg hn
    rw [List.nil_append] at hc
    obtain ⟨h1, h2⟩ := till_of hc h64 hh (by decide) s R hr1 hf (by omega)
    refine ⟨fun k => ?_, fun k => (h2 k).add _⟩
    rw [h1 k, add_of (s := { s with rest := R, steps := s.steps ++ allL (xs.map Prod.snd) }) hf.over (by show (s.steps ++ allL (xs.map Prod.snd)).length < 128; rw [List.length_append]; omega)]
    show S.mk _ _ _ _ _ _ (s.steps ++ allL (xs.map Prod.snd) ++ _) = S.mk _ _ _ _ _ _ (s.steps ++ (allL (xs.map Prod.snd) ++ _))
    rw [List.append_assoc]
end
/-- what stands between brackets -/
theorem good_open {t : Bs} {ks : List Tk} {l : List Sp} {d : Nat} {x : Bs} (ht : t = [40] ∨ t = [91] ∨ t = [123]) (hg : ∀ m, Does (if t = [40] then closed (ors (m + 1)) else if t = [91] then list (ors (m + 1)) else fields (ors (m + 1))) m ks l d []) (hx : LexC x (sg t :: ks)) (hd1 : d + 2 ≤ 2 * l.length) : Good ⟨l, x, sg t :: ks, d + 1⟩ := by
  refine ⟨hx, head_of (stop_sg (by rcases ht with rfl | rfl | rfl <;> decide) _), fun n => ?_, hd1⟩
  cases n with
  | zero => exact does_zero _ _ _ _ _
  | succ n => exact (prim_nest (g := if t = [40] then closed (ors (n + 1)) else if t = [91] then list (ors (n + 1)) else fields (ors (n + 1))) rfl ht rfl (does_nest (n := n + 1) (hg n) (Nat.le_refl _) (sg t))).weak (by simp)
theorem good_closed {ks : List Tk} {l : List Sp} {d : Nat} {x : Bs} (hg : ∀ m, Does (orsOf (ors m)) m ks l d B5) (hx : LexC x (sg [40] :: (ks ++ [sg [41]]))) (hd1 : d + 2 ≤ 2 * l.length) : Good ⟨l, x, sg [40] :: (ks ++ [sg [41]]), d + 1⟩ := by
  refine good_open (.inl rfl) (fun m => ?_) hx hd1
  rw [if_pos rfl]
  exact does_closed (f := ors (m + 1)) (hg m) []
theorem good_atom {t : Tk} {p : Sp} {x : Bs} (hp : ∀ n, Does (primary (ors n)) n [t] [p] 0 B0) (hx : LexC x [t]) (hh : Stop H0 (hd [t])) : Good ⟨[p], x, [t], 0⟩ := ⟨hx, head_of hh, hp, Nat.le_of_ble_eq_true rfl⟩
theorem lexc_key {t : Bs} (hk : Lx.isKey t = true) (hL : ∃ x r, t = x :: r ∧ Lx.isL x.toNat = true) (hw : Lx.wsz t = t.length) (hg : Lx.great t = t) : LexC t [ky t] := ⟨fun c ts hs h => by
  have := Lz.key hk hL hw hs h
  rw [hg] at this
  exact this⟩
theorem sep_blank (c : Bs) : Sep (32 :: c) := sep_cons rfl (by decide)
theorem sep_close (c : Bs) : Sep (41 :: c) := sep_cons rfl (by decide)
theorem Lz.open {c : Bs} {ts : List Tk} (h : Lz c ts) : Lz (40 :: c) (sg [40] :: ts) := .sign (by decide) (by decide) rfl rfl rfl (by decide) h
theorem Lz.close {c : Bs} {ts : List Tk} (h : Lz c ts) : Lz (41 :: c) (sg [41] :: ts) := .sign (by decide) (by decide) rfl rfl rfl (by decide) h
theorem Lz.kw {t : Bs} {c : Bs} {ts : List Tk} (hk : Lx.isKey t = true) (hL : ∃ x r, t = x :: r ∧ Lx.isL x.toNat = true) (hw : Lx.wsz t = t.length) (hg : Lx.great t = t) (h : Lz c ts) : Lz (t ++ 32 :: c) (ky t :: ts) := (lexc_key hk hL hw hg).lz _ _ (sep_blank _) (.blank h)
/-- two with an operator between -/
theorem good_two {a b : Seg} (ha : Good a) (hb : Good b) {k : Nat} (hk : 12 ≤ k ∧ k ≤ 22) : ∃ g, Good g ∧ g.sl = a.sl ++ b.sl ++ [⟨k, [], 0⟩] ∧ g.st = [40] ++ a.st ++ [32] ++ opTx k ++ [32] ++ b.st ++ [41] := by
  obtain ⟨o, ho⟩ : ∃ o, o = if k ≤ 20 then sg (opTx k) else ky (opTx k) := ⟨_, rfl⟩
  refine ⟨⟨a.sl ++ b.sl ++ [⟨k, [], 0⟩], [40] ++ a.st ++ [32] ++ opTx k ++ [32] ++ b.st ++ [41], sg [40] :: (a.sk ++ o :: b.sk ++ [sg [41]]), max a.sd b.sd + 1⟩, good_closed (fun m => ?_) ⟨fun c ts hs h => ?_⟩ ?_, rfl, rfl⟩
  · have hh := ha.head.app (o :: b.sk)
    have hh := hh.weak (A := [[78, 79, 84]]) (by decide)
    have da := ha.does m
    have db := hb.does m
    obtain ⟨k1, k2⟩ := hk
    obtain rfl | rfl | rfl | rfl | rfl | rfl | rfl | rfl | rfl | rfl | rfl : k = 12 ∨ k = 13 ∨ k = 14 ∨ k = 15 ∨ k = 16 ∨ k = 17 ∨ k = 18 ∨ k = 19 ∨ k = 20 ∨ k = 21 ∨ k = 22 := by omega
    · subst ho; exact up_sum (by unfold sum; exact does_row2 (t := [43]) (to_product da ha.head) (to_product db hb.head) rfl (by decide) (by decide) rfl) hh
    · subst ho; exact up_sum (by unfold sum; exact does_row2 (t := [45]) (to_product da ha.head) (to_product db hb.head) rfl (by decide) (by decide) rfl) hh
    · subst ho; exact up_product (by unfold product; exact does_row2 (t := [42]) (to_signed da ha.head) (to_signed db hb.head) rfl (by decide) (by decide) rfl) hh
    · subst ho; exact up_cmp (does_cmp2 (t := [61]) (to_sum da ha.head) (to_sum db hb.head) rfl (by decide) (by decide) rfl) hh
    · subst ho; exact up_cmp (does_cmp2 (t := [60, 62]) (to_sum da ha.head) (to_sum db hb.head) rfl (by decide) (by decide) rfl) hh
    · subst ho; exact up_cmp (does_cmp2 (t := [60]) (to_sum da ha.head) (to_sum db hb.head) rfl (by decide) (by decide) rfl) hh
    · subst ho; exact up_cmp (does_cmp2 (t := [60, 61]) (to_sum da ha.head) (to_sum db hb.head) rfl (by decide) (by decide) rfl) hh
    · subst ho; exact up_cmp (does_cmp2 (t := [62]) (to_sum da ha.head) (to_sum db hb.head) rfl (by decide) (by decide) rfl) hh
    · subst ho; exact up_cmp (does_cmp2 (t := [62, 61]) (to_sum da ha.head) (to_sum db hb.head) rfl (by decide) (by decide) rfl) hh
    · subst ho; exact up_ands (by unfold ands; exact does_row2 (t := [65, 78, 68]) (to_not da ha.head) (to_not db hb.head) rfl (by decide) (by decide) rfl)
    · subst ho; unfold orsOf; exact does_row2 (t := [79, 82]) (to_ands da ha.head) (to_ands db hb.head) rfl (by decide) (by decide) rfl
  · have e : [40] ++ a.st ++ [32] ++ opTx k ++ [32] ++ b.st ++ [41] ++ c = 40 :: (a.st ++ (32 :: (opTx k ++ 32 :: (b.st ++ (41 :: c))))) := by simp
    have e2 : sg [40] :: (a.sk ++ o :: b.sk ++ [sg [41]]) ++ ts = sg [40] :: (a.sk ++ (o :: (b.sk ++ (sg [41] :: ts)))) := by simp
    rw [e, e2, ho]
    exact .open (ha.lex.lz _ _ (sep_blank _) (.blank (.op hk (hb.lex.lz _ _ (sep_close _) (.close h)))))
  · have h1 := ha.need
    have h2 := hb.need
    rw [List.length_append, List.length_append, List.length_singleton]
    omega
theorem good_one {a : Seg} (ha : Good a) {k : Nat} (hk : k = 9 ∨ k = 10 ∨ k = 11) : ∃ g, Good g ∧ g.sl = a.sl ++ [⟨k, [], 0⟩] ∧ g.st = if k = 9 then [40, 45] ++ a.st ++ [41] else if k = 10 then [40, 78, 79, 84, 32] ++ a.st ++ [41] else [40] ++ a.st ++ [32, 73, 83, 32, 78, 85, 76, 76, 41] := by
  have h1 := ha.need
  rcases hk with rfl | rfl | rfl
  · refine ⟨⟨_, _, _, _⟩, good_closed (ks := sg [45] :: a.sk) (l := a.sl ++ [⟨9, [], 0⟩]) (d := a.sd + 1) (x := [40, 45] ++ a.st ++ [41]) (fun m => ?_) ⟨fun c ts hs h => ?_⟩ (by rw [List.length_append, List.length_singleton]; omega), rfl, rfl⟩
    · exact up_product (by unfold product; exact does_row1 (by unfold signed; exact does_signeds2 (ha.does m) (ha.head.weak (by decide)) (by decide))) (head_of (stop_sg (by decide) _))
    · have e : [40, 45] ++ a.st ++ [41] ++ c = 40 :: 45 :: (a.st ++ (41 :: c)) := by simp
      have e2 : sg [40] :: (sg [45] :: a.sk ++ [sg [41]]) ++ ts = sg [40] :: sg [45] :: (a.sk ++ (sg [41] :: ts)) := by simp
      rw [e, e2]
      exact .open (.sign (by decide) (by decide) rfl rfl rfl (by decide) (ha.lex.lz _ _ (sep_close _) (.close h)))
  · refine ⟨⟨_, _, _, _⟩, good_closed (ks := ky [78, 79, 84] :: a.sk) (l := a.sl ++ [⟨10, [], 0⟩]) (d := a.sd + 1) (x := [40, 78, 79, 84, 32] ++ a.st ++ [41]) (fun m => ?_) ⟨fun c ts hs h => ?_⟩ (by rw [List.length_append, List.length_singleton]; omega), rfl, rfl⟩
    · exact up_not (by unfold not; exact does_nots2 (does_cmp1 (to_sum (ha.does m) ha.head)) (ha.head.weak (by decide)) (by decide))
    · have e : [40, 78, 79, 84, 32] ++ a.st ++ [41] ++ c = 40 :: ([78, 79, 84] ++ 32 :: (a.st ++ (41 :: c))) := by simp
      have e2 : sg [40] :: (ky [78, 79, 84] :: a.sk ++ [sg [41]]) ++ ts = sg [40] :: ky [78, 79, 84] :: (a.sk ++ (sg [41] :: ts)) := by simp
      rw [e, e2]
      exact .open (.kw (by decide) ⟨_, _, rfl, rfl⟩ rfl rfl (ha.lex.lz _ _ (sep_close _) (.close h)))
  · refine ⟨⟨_, _, _, _⟩, good_closed (ks := a.sk ++ [ky [73, 83], ky [78, 85, 76, 76]]) (l := a.sl ++ [⟨11, [], 0⟩]) (d := a.sd) (x := [40] ++ a.st ++ [32, 73, 83, 32, 78, 85, 76, 76, 41]) (fun m => ?_) ⟨fun c ts hs h => ?_⟩ (by rw [List.length_append, List.length_singleton]; omega), rfl, rfl⟩
    · exact up_cmp (does_null (to_sum (ha.does m) ha.head) (by decide) _) ((ha.head.app _).weak (by decide))
    · have e : [40] ++ a.st ++ [32, 73, 83, 32, 78, 85, 76, 76, 41] ++ c = 40 :: (a.st ++ (32 :: ([73, 83] ++ 32 :: ([78, 85, 76, 76] ++ 41 :: c)))) := by simp
      have e2 : sg [40] :: (a.sk ++ [ky [73, 83], ky [78, 85, 76, 76]] ++ [sg [41]]) ++ ts = sg [40] :: (a.sk ++ (ky [73, 83] :: ([ky [78, 85, 76, 76]] ++ (sg [41] :: ts)))) := by simp
      rw [e, e2]
      exact .open (ha.lex.lz _ _ (sep_blank _) (.blank (.kw (by decide) ⟨_, _, rfl, rfl⟩ rfl rfl ((lexc_key (t := [78, 85, 76, 76]) (by decide) ⟨_, _, rfl, rfl⟩ rfl rfl).lz _ _ (sep_close _) (.close h)))))
/-- a struct's names, as the printer takes them -/
theorem field_zip : ∀ (ns : List Bs) (gs : List Seg), fieldTx ns (gs.map Seg.st) = (ns.zip gs).map fun x => x.1 ++ [58, 32] ++ x.2.st
  | [], _ => by simp [fieldTx]
  | _ :: _, [] => by simp [fieldTx]
  | n :: ns, g :: gs => by
    have := field_zip ns gs
    unfold fieldTx at this
    rw [fieldTx, List.map_cons, List.zipWith_cons_cons, this]
    rfl
theorem lexc_field {x : Bs × Seg} (hn : isNm x.1 = true) (hg : Good x.2) : LexC (x.1 ++ [58, 32] ++ x.2.st) (fK x) := ⟨fun c ts hs h => by
  have e : x.1 ++ [58, 32] ++ x.2.st ++ c = x.1 ++ (58 :: 32 :: (x.2.st ++ c)) := by simp
  rw [e]
  exact .name hn (sep_cons rfl (by decide)) (.sign (by decide) (by decide) rfl rfl rfl (by decide) (.blank (hg.lex.lz _ _ hs h)))⟩
/-- a step of those that stand below it -/
theorem step_good {p : Sp} (hr : rightSp p = true) (hi : p.n ≤ 9223372036854775807) (gs : List Seg) (hg : ∀ g ∈ gs, Good g) (hk : gs.length = takesSp p) : ∃ g, Good g ∧ g.sl = allL gs ++ [p] ∧ g.st = stepTx p (gs.map Seg.st) := by
  have hne := maxD_need gs hg
  obtain ⟨k, t, n⟩ := p
  rw [stepTx]
  rw [rightSp] at hr
  rw [takesSp] at hk
  simp only at hr hi hk ⊢
  by_cases h4 : k = 4
  · subst h4
    rw [if_pos rfl, Bool.and_eq_true, decide_eq_true_iff, decide_eq_true_iff] at hr
    obtain ⟨hn, rfl⟩ := hr
    have e : gs = [] := List.eq_nil_of_length_eq_zero hk
    subst e
    exact ⟨_, good_atom (fun m => prim_num (f := ors m) (n := m) n) ⟨fun c ts hs h => .num hn hi hs h⟩ (stop_none (.inr (.inl rfl)) _), rfl, rfl⟩
  rw [if_neg h4] at hr
  by_cases h5 : k = 5
  · subst h5
    rw [if_pos rfl, Bool.and_eq_true, Bool.and_eq_true, decide_eq_true_iff, decide_eq_true_iff] at hr
    obtain ⟨⟨rfl, hl⟩, hv⟩ := hr
    have e : gs = [] := List.eq_nil_of_length_eq_zero hk
    subst e
    exact ⟨_, good_atom (fun m => prim_text (f := ors m) (n := m) t) ⟨fun c ts hs h => .text hl hv hs h⟩ (stop_none (.inr (.inr rfl)) _), rfl, rfl⟩
  rw [if_neg h5] at hr
  by_cases h6 : k = 6
  · subst h6
    rw [if_pos rfl, Bool.and_eq_true, decide_eq_true_iff] at hr
    obtain ⟨rfl, hp⟩ := hr
    have e : gs = [] := List.eq_nil_of_length_eq_zero hk
    subst e
    obtain ⟨q, l, ec, hq, _⟩ := path_first hp
    refine ⟨⟨[⟨6, t, 0⟩], t, pathK (cut 46 t), 0⟩, ⟨lexc_pt hp, ?_, fun m => prim_path (f := ors m) (n := m) hp, Nat.le_of_ble_eq_true rfl⟩, rfl, rfl⟩
    show Head H0 (pathK (cut 46 t))
    rw [ec, pathK_cons, pk, if_pos hq]
    exact head_of (stop_none (.inl rfl) _)
  rw [if_neg h6] at hr
  by_cases h7 : k = 7
  · subst h7
    rw [if_pos rfl, Bool.and_eq_true, Bool.and_eq_true, decide_eq_true_iff, decide_eq_true_iff, decide_eq_true_iff] at hr
    obtain ⟨⟨hn, hn2⟩, rfl⟩ := hr
    rw [if_pos (.inl rfl)] at hk
    have en : n = ((gs.length : Nat) : Int) := by omega
    subst en
    have h64 : gs.length ≤ 64 := by omega
    refine ⟨⟨allL gs ++ [⟨7, [], (gs.length : Nat)⟩], [91] ++ join [44, 32] (gs.map Seg.st) ++ [93], sg [91] :: (commaK (gs.map Seg.sk) ++ [sg [93]]), maxD gs + 1⟩, good_open (.inr (.inl rfl)) (fun m => ?_) ⟨fun c ts hs h => ?_⟩ ?_, rfl, rfl⟩
    · rw [if_neg (by decide), if_pos rfl]
      exact does_list gs hg h64 []
    · have e : [91] ++ join [44, 32] (gs.map Seg.st) ++ [93] ++ c = 91 :: (join [44, 32] (gs.map Seg.st) ++ (93 :: c)) := by simp
      have e2 : sg [91] :: (commaK (gs.map Seg.sk) ++ [sg [93]]) ++ ts = sg [91] :: (commaK (gs.map Seg.sk) ++ (sg [93] :: ts)) := by simp
      rw [e, e2]
      exact .sign (by decide) (by decide) rfl rfl rfl (by decide) ((lexc_join Seg.st Seg.sk gs fun g k => (hg g k).lex).lz _ _ (sep_cons rfl (by decide)) (.sign (by decide) (by decide) rfl rfl rfl (by decide) h))
    · rw [List.length_append, List.length_singleton]
      omega
  rw [if_neg h7] at hr
  by_cases h8 : k = 8
  · subst h8
    rw [if_pos rfl, Bool.and_eq_true, Bool.and_eq_true, decide_eq_true_iff, decide_eq_true_iff] at hr
    obtain ⟨⟨hn, hn2⟩, hh⟩ := hr
    rw [if_pos (.inr rfl)] at hk
    have en : n = ((gs.length : Nat) : Int) := by omega
    subst en
    have h64 : gs.length ≤ 64 := by omega
    rw [Int.toNat_natCast] at hh
    -- the names that are shown
    obtain ⟨ns, hns, hnl, hnn, hnj⟩ : ∃ ns : List Bs, fieldTx (cut 44 t) (gs.map Seg.st) = fieldTx ns (gs.map Seg.st) ∧ ns.length = gs.length ∧ areNs [] ns = true ∧ join [44] ns = t := by
      rw [haveNs] at hh
      by_cases h0 : gs.length = 0
      · rw [if_pos h0, decide_eq_true_iff] at hh
        have e : gs = [] := List.eq_nil_of_length_eq_zero h0
        subst e hh
        exact ⟨[], by simp [fieldTx], rfl, rfl, rfl⟩
      · rw [if_neg h0, Bool.and_eq_true, decide_eq_true_iff] at hh
        exact ⟨cut 44 t, rfl, by rw [cut_length]; exact hh.1, hh.2, join_cut 44 t⟩
    have e1 : (ns.zip gs).map Prod.fst = ns := List.map_fst_zip (by omega)
    have e2 : (ns.zip gs).map Prod.snd = gs := List.map_snd_zip (by omega)
    have e3 : (ns.zip gs).length = gs.length := by rw [List.length_zip]; omega
    have hx : ∀ x ∈ ns.zip gs, isNm x.1 = true ∧ Good x.2 := fun x k => by
      have k1 : x.1 ∈ ns := by rw [← e1]; exact List.mem_map_of_mem k
      have k2 : x.2 ∈ gs := by rw [← e2]; exact List.mem_map_of_mem k
      exact ⟨areNs_nm _ _ hnn _ k1, hg _ k2⟩
    rw [hns, field_zip]
    refine ⟨⟨allL gs ++ [⟨8, t, (gs.length : Nat)⟩], [123] ++ join [44, 32] ((ns.zip gs).map fun x => x.1 ++ [58, 32] ++ x.2.st) ++ [125], sg [123] :: (commaK ((ns.zip gs).map fK) ++ [sg [125]]), maxD gs + 1⟩, good_open (.inr (.inr rfl)) (fun m => ?_) ⟨fun c ts hs h => ?_⟩ ?_, rfl, rfl⟩
    · rw [if_neg (by decide), if_neg (by decide)]
      have := does_fields (m := m) (ns.zip gs) (fun x k => (hx x k).2) (by rw [e1]; exact hnn) (by omega) []
      rw [e1, e2, e3, hnj] at this
      exact this
    · have e : [123] ++ join [44, 32] ((ns.zip gs).map fun x => x.1 ++ [58, 32] ++ x.2.st) ++ [125] ++ c = 123 :: (join [44, 32] ((ns.zip gs).map fun x => x.1 ++ [58, 32] ++ x.2.st) ++ (125 :: c)) := by simp
      have e2 : sg [123] :: (commaK ((ns.zip gs).map fK) ++ [sg [125]]) ++ ts = sg [123] :: (commaK ((ns.zip gs).map fK) ++ (sg [125] :: ts)) := by simp
      rw [e, e2]
      exact .sign (by decide) (by decide) rfl rfl rfl (by decide) ((lexc_join (fun x : Bs × Seg => x.1 ++ [58, 32] ++ x.2.st) fK (ns.zip gs) fun x k => lexc_field (hx x k).1 (hx x k).2).lz _ _ (sep_cons rfl (by decide)) (.sign (by decide) (by decide) rfl rfl rfl (by decide) h))
    · rw [List.length_append, List.length_singleton]
      omega
  rw [if_neg h8, Bool.and_eq_true, Bool.and_eq_true, Bool.and_eq_true, decide_eq_true_iff, decide_eq_true_iff, decide_eq_true_iff, decide_eq_true_iff] at hr
  obtain ⟨⟨⟨k0, k23⟩, rfl⟩, rfl⟩ := hr
  rw [if_neg (by omega)] at hk
  by_cases k9 : k < 9
  · rw [if_neg (by omega), if_neg (by omega)] at hk
    have e : gs = [] := List.eq_nil_of_length_eq_zero hk
    subst e
    obtain rfl | rfl | rfl : k = 1 ∨ k = 2 ∨ k = 3 := by omega
    · exact ⟨_, good_atom (fun m => prim_null (f := ors m) (n := m)) (lexc_key (by decide) ⟨_, _, rfl, rfl⟩ rfl rfl) (stop_ky (by decide) _), rfl, rfl⟩
    · exact ⟨_, good_atom (fun m => prim_true (f := ors m) (n := m)) (lexc_key (by decide) ⟨_, _, rfl, rfl⟩ rfl rfl) (stop_ky (by decide) _), rfl, rfl⟩
    · exact ⟨_, good_atom (fun m => prim_false (f := ors m) (n := m)) (lexc_key (by decide) ⟨_, _, rfl, rfl⟩ rfl rfl) (stop_ky (by decide) _), rfl, rfl⟩
  by_cases k12 : k < 12
  · rw [if_neg (by omega), if_pos (by omega)] at hk
    match gs, hk, hg with
    | [a], _, hg =>
      obtain ⟨g, g1, g2, g3⟩ := good_one (hg a (List.mem_cons_self ..)) (k := k) (by omega)
      refine ⟨g, g1, by rw [g2, allL, allL, List.append_nil], ?_⟩
      rw [g3]
      clear g2 g3 g1 hi h4 h5 h6 h7 h8 hne
      obtain rfl | rfl | rfl : k = 9 ∨ k = 10 ∨ k = 11 := by omega
      · rfl
      · rfl
      · rfl
  · rw [if_pos (by omega)] at hk
    match gs, hk, hg with
    | [a, b], _, hg =>
      obtain ⟨g, g1, g2, g3⟩ := good_two (hg a (List.mem_cons_self ..)) (hg b (List.mem_cons_of_mem _ (List.mem_cons_self ..))) (k := k) (by omega)
      refine ⟨g, g1, by rw [g2, allL, allL, allL, List.append_nil], ?_⟩
      rw [g3, if_neg (by omega), if_neg (by omega), if_neg (by omega), if_neg h4, if_neg h5, if_neg h6, if_neg h7, if_neg h8, if_neg (by omega), if_neg (by omega), if_neg (by omega)]
      rfl
/-- whole expressions -/
theorem stack_good : ∀ (r : List Sp) (gs : List Seg), (∀ p ∈ r, p.n ≤ 9223372036854775807) → (∀ g ∈ gs, Good g) → rightL r gs.length = true → ∃ g, Good g ∧ g.sl = allL gs ++ r ∧ g.st = (stackL r (gs.map Seg.st)).getD 0 []
  | [], gs, _, hg, hr => by
    rw [rightL, decide_eq_true_iff] at hr
    match gs, hr, hg with
    | [a], _, hg => exact ⟨a, hg a (List.mem_cons_self ..), by rw [allL, allL, List.append_nil, List.append_nil], rfl⟩
  | p :: r, gs, hi, hg, hr => by
    rw [rightL, Bool.and_eq_true, Bool.and_eq_true, decide_eq_true_iff] at hr
    obtain ⟨⟨h1, h2⟩, h3⟩ := hr
    have ea : gs = gs.take (gs.length - takesSp p) ++ gs.drop (gs.length - takesSp p) := (List.take_append_drop _ _).symm
    obtain ⟨g, g1, g2, g3⟩ := step_good h1 (hi p (List.mem_cons_self ..)) (gs.drop (gs.length - takesSp p)) (fun x k => hg x (List.mem_of_mem_drop k)) (by rw [List.length_drop]; omega)
    obtain ⟨u, u1, u2, u3⟩ := stack_good r (gs.take (gs.length - takesSp p) ++ [g]) (fun q k => hi q (List.mem_cons_of_mem _ k)) (fun x k => by
      rcases List.mem_append.1 k with k | k
      · exact hg x (List.mem_of_mem_take k)
      · rw [List.mem_singleton.1 k]; exact g1) (by
      rw [List.length_append, List.length_take, List.length_singleton]
      have e : min (gs.length - takesSp p) gs.length + 1 = gs.length + 1 - takesSp p := by omega
      rw [e]; exact h3)
    refine ⟨u, u1, ?_, ?_⟩
    · rw [u2, allL_app, allL, allL, List.append_nil, g2]
      conv => rhs; rw [ea, allL_app]
      simp
    · rw [u3, stackL, List.map_append, List.map_take, List.map_singleton, g3, List.map_drop, List.length_map]
theorem shown_good {l : List Sp} (hi : ∀ p ∈ l, p.n ≤ 9223372036854775807) (hr : rightE l = true) : ∃ g, Good g ∧ g.sl = l ∧ g.st = shownE l := by
  rw [rightE, Bool.and_eq_true] at hr
  exact stack_good l [] hi (fun _ k => by cases k) hr.2
end Ps
end Go.Proofs.YtfhkaffakniioaaGreatDoor
