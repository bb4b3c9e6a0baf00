/- Values that are all in their bytes; which bytes begin with such a value's. -/
import Derived.Test.YtbogggnnmbjlfaaDoorBinV
import Derived.Test.YtbogggnnmbjlfaaDoorBinRead
namespace Go.Proofs.YtbogggnnmbjlfaaDoor
open Vl (V)
namespace Bn
mutual
/-- a value that is all in its bytes -/
def fit : V → Prop
  | ⟨k, b, n, s, l, f⟩ => k ≤ 6 ∧ (k ≠ 1 → b = false) ∧ (k ≠ 2 → n = 0) ∧ (k ≠ 3 → k ≠ 4 → s = ⟨#[]⟩) ∧ (k ≠ 5 → l = []) ∧ (k ≠ 6 → f = []) ∧ (-9223372036854775808 ≤ n ∧ n ≤ 9223372036854775807) ∧ s.size ≤ 65536 ∧ l.length ≤ 64 ∧ f.length ≤ 64 ∧ fitL l ∧ fitF f
def fitL : List V → Prop
  | [] => True
  | x :: r => fit x ∧ fitL r
def fitF : List (ByteArray × V) → Prop
  | [] => True
  | (m, x) :: r => (m.size ≤ 65536 ∧ fit x) ∧ fitF r
end
theorem num_app {a b : Nat} {r q : List UInt8} (h : num a ++ r = num b ++ q) : a = b ∧ r = q := by
  have e := num_prefix_eq (List.prefix_append (num a) r) (h ▸ List.prefix_append (num b) q)
  subst e
  exact ⟨rfl, List.append_cancel_left h⟩
theorem text_app {s t : ByteArray} {r q : List UInt8} (h : text s ++ r = text t ++ q) : s = t ∧ r = q := by
  rw [text, text, List.append_assoc, List.append_assoc] at h
  obtain ⟨e, h2⟩ := num_app h
  have h3 := List.append_inj h2 (by rw [← Lib.size_eq, ← Lib.size_eq]; exact e)
  exact ⟨data_ext h3.1, h3.2⟩
/-- a value's first byte -/
def hd : V → UInt8
  | ⟨k, b, _, _, _, _⟩ => if k = 1 then truth b else if k = 0 then 0 else UInt8.ofNat (k + 1)
/-- and what is behind it -/
def tl : V → List UInt8
  | ⟨k, _, n, s, l, f⟩ => if k ≤ 1 then [] else if k = 2 then num (fold n) else if k = 3 ∨ k = 4 then text s else if k = 5 then num l.length ++ bytesL l else num f.length ++ bytesF f
theorem seven {k : Nat} (h : k ≤ 6) : k = 0 ∨ k = 1 ∨ k = 2 ∨ k = 3 ∨ k = 4 ∨ k = 5 ∨ k = 6 := by omega
theorem bytes_hd (t : V) (h : fit t) : bytes t = hd t :: tl t := by
  obtain ⟨k, b, n, s, l, f⟩ := t
  rw [fit] at h
  rw [bytes, hd, tl]
  rcases seven h.1 with rfl | rfl | rfl | rfl | rfl | rfl | rfl <;> simp
theorem hd_lt (t : V) (h : fit t) : (hd t).toNat ≤ 7 := by
  obtain ⟨k, b, n, s, l, f⟩ := t
  rw [fit] at h
  rw [hd]
  rcases seven h.1 with rfl | rfl | rfl | rfl | rfl | rfl | rfl
  · simp
  · cases b <;> simp [truth]
  all_goals simp
theorem bytes_ne {t : V} (h : fit t) (q : List UInt8) : [] ≠ bytes t ++ q := by rw [bytes_hd t h]; simp
/-- the kind that a first byte tells -/
def kindOf (b : Nat) : Nat := if b ≤ 1 then b else b - 1
theorem hd_kind {k : Nat} {b : Bool} {n : Int} {s : ByteArray} {l : List V} {f : List (ByteArray × V)} (h : fit ⟨k, b, n, s, l, f⟩) : k = kindOf (hd ⟨k, b, n, s, l, f⟩).toNat ∧ (k = 1 → b = decide ((hd ⟨k, b, n, s, l, f⟩).toNat = 2)) := by
  rw [fit] at h
  rw [hd]
  rcases seven h.1 with rfl | rfl | rfl | rfl | rfl | rfl | rfl
  · simp [kindOf]
  · cases b <;> simp [truth, kindOf]
  all_goals simp [kindOf]
mutual
/-- no value's bytes begin with another one's -/
theorem bytes_app : ∀ (a b : V) (r q : List UInt8), fit a → fit b → bytes a ++ r = bytes b ++ q → a = b ∧ r = q
  | ⟨k, b, n, s, l, f⟩, ⟨k', b', n', s', l', f'⟩, r, q, ha, hb, h => by
    rw [bytes_hd _ ha, bytes_hd _ hb, List.cons_append, List.cons_append, List.cons.injEq] at h
    obtain ⟨e, h⟩ := h
    obtain ⟨k1, k2⟩ := hd_kind ha
    obtain ⟨k3, k4⟩ := hd_kind hb
    rw [e] at k1 k2
    have ek : k = k' := by omega
    subst ek
    rw [fit] at ha hb
    rw [tl, tl] at h
    obtain ⟨g0, g1, g2, g3, g4, g5, _, _, _, _, g6, g7⟩ := ha
    obtain ⟨j0, j1, j2, j3, j4, j5, _, _, _, _, j6, j7⟩ := hb
    have eb : b = b' := by
      by_cases h1 : k = 1
      · exact (k2 h1).trans (k4 h1).symm
      · rw [g1 h1, j1 h1]
    subst eb
    by_cases h2 : k = 2
    · subst h2
      simp only [show ¬ (2 : Nat) ≤ 1 by omega, if_false, if_true] at h
      obtain ⟨e1, e2⟩ := num_app h
      rw [fold_inj e1, g3 (by omega) (by omega), j3 (by omega) (by omega), g4 (by omega), j4 (by omega), g5 (by omega), j5 (by omega), e2]
      exact ⟨rfl, rfl⟩
    have en : n = n' := by rw [g2 h2, j2 h2]
    subst en
    by_cases h3 : k = 3 ∨ k = 4
    · rw [if_neg (by omega), if_neg h2, if_pos h3, if_neg (by omega), if_neg h2, if_pos h3] at h
      obtain ⟨e1, e2⟩ := text_app h
      rw [e1, g4 (by omega), j4 (by omega), g5 (by omega), j5 (by omega), e2]
      exact ⟨rfl, rfl⟩
    have es : s = s' := by rw [g3 (by omega) (by omega), j3 (by omega) (by omega)]
    subst es
    by_cases h5 : k = 5
    · rw [if_neg (by omega), if_neg h2, if_neg h3, if_pos h5, if_neg (by omega), if_neg h2, if_neg h3, if_pos h5, List.append_assoc, List.append_assoc] at h
      obtain ⟨e1, e2⟩ := num_app h
      obtain ⟨e3, e4⟩ := bytesL_app l l' r q e1 g6 j6 e2
      rw [e3, g5 (by omega), j5 (by omega), e4]
      exact ⟨rfl, rfl⟩
    have el : l = l' := by rw [g4 h5, j4 h5]
    by_cases h6 : k = 6
    · rw [if_neg (by omega), if_neg h2, if_neg h3, if_neg h5, if_neg (by omega), if_neg h2, if_neg h3, if_neg h5, List.append_assoc, List.append_assoc] at h
      obtain ⟨e1, e2⟩ := num_app h
      obtain ⟨e3, e4⟩ := bytesF_app f f' r q e1 g7 j7 e2
      rw [e3, el, e4]
      exact ⟨rfl, rfl⟩
    rw [if_pos (by omega), if_pos (by omega)] at h
    rw [el, g5 h6, j5 h6]
    exact ⟨rfl, h⟩
theorem bytesL_app : ∀ (l l' : List V) (r q : List UInt8), l.length = l'.length → fitL l → fitL l' → bytesL l ++ r = bytesL l' ++ q → l = l' ∧ r = q
  | [], [], r, q, _, _, _, h => ⟨rfl, by simpa [bytesL] using h⟩
  | [], _ :: _, _, _, hl, _, _, _ => by simp at hl
  | _ :: _, [], _, _, hl, _, _, _ => by simp at hl
  | x :: l, y :: l', r, q, hl, ha, hb, h => by
    rw [fitL] at ha hb
    rw [bytesL, bytesL, List.append_assoc, List.append_assoc] at h
    obtain ⟨e1, e2⟩ := bytes_app x y _ _ ha.1 hb.1 h
    obtain ⟨e3, e4⟩ := bytesL_app l l' r q (by simpa using hl) ha.2 hb.2 e2
    rw [e1, e3, e4]
    exact ⟨rfl, rfl⟩
theorem bytesF_app : ∀ (l l' : List (ByteArray × V)) (r q : List UInt8), l.length = l'.length → fitF l → fitF l' → bytesF l ++ r = bytesF l' ++ q → l = l' ∧ r = q
  | [], [], r, q, _, _, _, h => ⟨rfl, by simpa [bytesF] using h⟩
  | [], _ :: _, _, _, hl, _, _, _ => by simp at hl
  | _ :: _, [], _, _, hl, _, _, _ => by simp at hl
  | (m, x) :: l, (p, y) :: l', r, q, hl, ha, hb, h => by
    rw [fitF] at ha hb
    rw [bytesF, bytesF, List.append_assoc, List.append_assoc, List.append_assoc, List.append_assoc] at h
    obtain ⟨e0, h⟩ := text_app h
    obtain ⟨e1, e2⟩ := bytes_app x y _ _ ha.1.2 hb.1.2 h
    obtain ⟨e3, e4⟩ := bytesF_app l l' r q (by simpa using hl) ha.2 hb.2 e2
    rw [e0, e1, e3, e4]
    exact ⟨rfl, rfl⟩
end

/-- no value's bytes are at the beginning -/
def noV (r : List UInt8) : Prop := ∀ v q, fit v → r ≠ bytes v ++ q
/-- no text is at the beginning -/
def noText (r : List UInt8) : Prop := ∀ (s : ByteArray) q, s.size ≤ 65536 → r ≠ text s ++ q
/-- no field is -/
def noField (r : List UInt8) : Prop := ∀ (m : ByteArray) x q, m.size ≤ 65536 → fit x → r ≠ text m ++ (bytes x ++ q)
/-- no number is -/
def noNum (r : List UInt8) : Prop := ∀ n, n < 18446744073709551616 → ¬ num n <+: r
/-- no values, so many -/
def noL (n : Nat) (r : List UInt8) : Prop := ∀ l q, l.length = n → fitL l → r ≠ bytesL l ++ q
def noF (n : Nat) (r : List UInt8) : Prop := ∀ l q, l.length = n → fitF l → r ≠ bytesF l ++ q
theorem noV_nil : noV [] := fun _ q h => bytes_ne h q
theorem noV_first {b : UInt8} {r : List UInt8} (h : 8 ≤ b.toNat) : noV (b :: r) := fun v q hv e => by
  rw [bytes_hd v hv, List.cons_append, List.cons.injEq] at e
  have := hd_lt v hv
  rw [← e.1] at this
  omega
/-- what is behind a first byte, and what kind of value it must be -/
theorem noV_of {b : UInt8} {r : List UInt8} (h : ∀ k bb n s l f q, fit ⟨k, bb, n, s, l, f⟩ → k = kindOf b.toNat → r ≠ tl ⟨k, bb, n, s, l, f⟩ ++ q) : noV (b :: r) := by
  rintro ⟨k, bb, n, s, l, f⟩ q hv e
  rw [bytes_hd _ hv, List.cons_append, List.cons.injEq] at e
  exact h k bb n s l f q hv (by rw [e.1]; exact (hd_kind hv).1) e.2
theorem fold_fit {k : Nat} {b : Bool} {n : Int} {s : ByteArray} {l : List V} {f : List (ByteArray × V)} (h : fit ⟨k, b, n, s, l, f⟩) : fold n < 18446744073709551616 := by
  rw [fit] at h
  exact fold_lt n h.2.2.2.2.2.2.1.1 h.2.2.2.2.2.2.1.2
theorem noV_int {r : List UInt8} (h : noNum r) : noV (3 :: r) := noV_of fun k bb n s l f q hv hk e => by
  have hk : k = 2 := hk
  subst hk
  exact h _ (fold_fit hv) (e ▸ List.prefix_append _ _)
theorem noV_text {b : UInt8} {r : List UInt8} (hb : b.toNat = 4 ∨ b.toNat = 5) (h : noText r) : noV (b :: r) := noV_of fun k bb n s l f q hv hk e => by
  have hk : k = 3 ∨ k = 4 := by rcases hb with e | e <;> rw [e] at hk <;> simp [kindOf] at hk <;> omega
  rw [tl, if_neg (by omega), if_neg (by omega), if_pos hk] at e
  rw [fit] at hv
  exact h s q hv.2.2.2.2.2.2.2.1 e
theorem noText_num {r : List UInt8} (h : noNum r) : noText r := fun s q hs e => by
  rw [text, List.append_assoc] at e
  exact h _ (by omega) (e ▸ List.prefix_append _ _)
theorem noText_short {n : Nat} {r : List UInt8} (h : r.length < n) : noText (num n ++ r) := fun s q hs e => by
  rw [text, List.append_assoc] at e
  obtain ⟨e1, e2⟩ := num_app e
  have := congrArg List.length e2
  rw [List.length_append, ← Lib.size_eq] at this
  omega
theorem noField_text {r : List UInt8} (h : noText r) : noField r := fun m _ _ hm _ e => h m _ hm e
theorem noField_value {m : ByteArray} {r : List UInt8} (h : noV r) : noField (text m ++ r) := fun p x q hp hx e => by
  obtain ⟨_, e2⟩ := text_app e
  exact h x q hx e2
theorem noV_list_num {r : List UInt8} (h : noNum r) : noV (6 :: r) := noV_of fun k bb n s l f q hv hk e => by
  have hk : k = 5 := hk
  subst hk
  rw [tl] at e
  simp only [show ¬ (5 : Nat) ≤ 1 by omega, show ¬ (5 : Nat) = 2 by omega, show ¬ ((5 : Nat) = 3 ∨ (5 : Nat) = 4) by omega, if_false, if_true, List.append_assoc] at e
  rw [fit] at hv
  exact h l.length (by have := hv.2.2.2.2.2.2.2.2.1; omega) (e ▸ List.prefix_append _ _)
theorem noV_struct_num {r : List UInt8} (h : noNum r) : noV (7 :: r) := noV_of fun k bb n s l f q hv hk e => by
  have hk : k = 6 := hk
  subst hk
  rw [tl] at e
  simp only [show ¬ (6 : Nat) ≤ 1 by omega, show ¬ (6 : Nat) = 2 by omega, show ¬ ((6 : Nat) = 3 ∨ (6 : Nat) = 4) by omega, show ¬ (6 : Nat) = 5 by omega, if_false, List.append_assoc] at e
  rw [fit] at hv
  exact h f.length (by have := hv.2.2.2.2.2.2.2.2.2.1; omega) (e ▸ List.prefix_append _ _)
theorem noV_list {m : Nat} {r : List UInt8} (h : m ≤ 64 → noL m r) : noV (6 :: (num m ++ r)) := noV_of fun k bb n s l f q hv hk e => by
  have hk : k = 5 := hk
  subst hk
  rw [tl] at e
  simp only [show ¬ (5 : Nat) ≤ 1 by omega, show ¬ (5 : Nat) = 2 by omega, show ¬ ((5 : Nat) = 3 ∨ (5 : Nat) = 4) by omega, if_false, if_true, List.append_assoc] at e
  rw [fit] at hv
  obtain ⟨e1, e2⟩ := num_app e
  exact h (by have := hv.2.2.2.2.2.2.2.2.1; omega) l q e1.symm hv.2.2.2.2.2.2.2.2.2.2.1 e2
theorem noV_struct {m : Nat} {r : List UInt8} (h : m ≤ 64 → noF m r) : noV (7 :: (num m ++ r)) := noV_of fun k bb n s l f q hv hk e => by
  have hk : k = 6 := hk
  subst hk
  rw [tl] at e
  simp only [show ¬ (6 : Nat) ≤ 1 by omega, show ¬ (6 : Nat) = 2 by omega, show ¬ ((6 : Nat) = 3 ∨ (6 : Nat) = 4) by omega, show ¬ (6 : Nat) = 5 by omega, if_false, List.append_assoc] at e
  rw [fit] at hv
  obtain ⟨e1, e2⟩ := num_app e
  exact h (by have := hv.2.2.2.2.2.2.2.2.2.1; omega) f q e1.symm hv.2.2.2.2.2.2.2.2.2.2.2 e2
theorem noL_now {n : Nat} {r : List UInt8} (h : noV r) (hn : 1 ≤ n) : noL n r := fun l q hl hf e => by
  match l, hl, hf, e with
  | [], hl, _, _ => simp at hl; omega
  | x :: l, _, hf, e =>
    rw [fitL] at hf
    rw [bytesL, List.append_assoc] at e
    exact h x _ hf.1 e
theorem noF_now {n : Nat} {r : List UInt8} (h : noField r) (hn : 1 ≤ n) : noF n r := fun l q hl hf e => by
  match l, hl, hf, e with
  | [], hl, _, _ => simp at hl; omega
  | (m, x) :: l, _, hf, e =>
    rw [fitF] at hf
    rw [bytesF, List.append_assoc, List.append_assoc] at e
    exact h m x _ hf.1.1 hf.1.2 e
theorem noL_app : ∀ (l : List V) (n : Nat) (r : List UInt8), fitL l → noL n r → noL (l.length + n) (bytesL l ++ r)
  | [], n, r, _, h => by simpa [bytesL] using h
  | x :: l, n, r, hx, h => fun l' q hl hf e => by
    rw [fitL] at hx
    match l', hl, hf, e with
    | [], hl, _, _ => simp at hl; omega
    | y :: l', hl, hf, e =>
      rw [fitL] at hf
      rw [bytesL, bytesL, List.append_assoc, List.append_assoc] at e
      obtain ⟨_, e2⟩ := bytes_app x y _ _ hx.1 hf.1 e
      exact noL_app l n r hx.2 h l' q (by simp only [List.length_cons] at hl; omega) hf.2 e2
theorem noF_app : ∀ (l : List (ByteArray × V)) (n : Nat) (r : List UInt8), fitF l → noF n r → noF (l.length + n) (bytesF l ++ r)
  | [], n, r, _, h => by simpa [bytesF] using h
  | (m, x) :: l, n, r, hx, h => fun l' q hl hf e => by
    rw [fitF] at hx
    match l', hl, hf, e with
    | [], hl, _, _ => simp at hl; omega
    | (p, y) :: l', hl, hf, e =>
      rw [fitF] at hf
      rw [bytesF, bytesF, List.append_assoc, List.append_assoc, List.append_assoc, List.append_assoc] at e
      obtain ⟨_, e1⟩ := text_app e
      obtain ⟨_, e2⟩ := bytes_app x y _ _ hx.1.2 hf.1.2 e1
      exact noF_app l n r hx.2 h l' q (by simp only [List.length_cons] at hl; omega) hf.2 e2
theorem bytesL_snoc : ∀ (l : List V) (x : V), bytesL (l ++ [x]) = bytesL l ++ bytes x
  | [], x => by simp [bytesL]
  | y :: l, x => by rw [List.cons_append, bytesL, bytesL_snoc l x, bytesL, List.append_assoc]
theorem bytesF_snoc : ∀ (l : List (ByteArray × V)) (m : ByteArray) (x : V), bytesF (l ++ [(m, x)]) = bytesF l ++ (text m ++ bytes x)
  | [], m, x => by simp [bytesF]
  | (p, y) :: l, m, x => by rw [List.cons_append, bytesF, bytesF_snoc l m x, bytesF]; simp
theorem fitL_snoc : ∀ (l : List V) (x : V), fitL l → fit x → fitL (l ++ [x])
  | [], x, _, h => by rw [List.nil_append, fitL, fitL]; exact ⟨h, trivial⟩
  | y :: l, x, hl, h => by rw [fitL] at hl; rw [List.cons_append, fitL]; exact ⟨hl.1, fitL_snoc l x hl.2 h⟩
theorem fitF_snoc : ∀ (l : List (ByteArray × V)) (m : ByteArray) (x : V), fitF l → m.size ≤ 65536 → fit x → fitF (l ++ [(m, x)])
  | [], m, x, _, hm, h => by rw [List.nil_append, fitF, fitF]; exact ⟨⟨hm, h⟩, trivial⟩
  | (p, y) :: l, m, x, hl, hm, h => by rw [fitF] at hl; rw [List.cons_append, fitF]; exact ⟨hl.1, fitF_snoc l m x hl.2 hm h⟩
mutual
/-- numbers that an int holds -/
def rng : V → Prop
  | ⟨_, _, n, _, l, f⟩ => (-9223372036854775808 ≤ n ∧ n ≤ 9223372036854775807) ∧ rngL l ∧ rngF f
def rngL : List V → Prop
  | [] => True
  | x :: r => rng x ∧ rngL r
def rngF : List (ByteArray × V) → Prop
  | [] => True
  | (_, x) :: r => rng x ∧ rngF r
end
theorem alone_sizes {u : ByteArray → Bool} {d k : Nat} {b : Bool} {n : Int} {s : ByteArray} {l : List V} {f : List (ByteArray × V)} (h : Vl.check u d ⟨k, b, n, s, l, f⟩ = 0) : s.size ≤ 1024 ∧ l.length ≤ 64 ∧ f.length ≤ 64 := by
  have h2 : Vl.alone u d ⟨k, b, n, s, l, f⟩ = 0 := by
    rw [Vl.check] at h
    by_cases e : Vl.alone u d ⟨k, b, n, s, l, f⟩ = 0
    · exact e
    · rw [if_pos e] at h; exact absurd h e
  rw [Vl.alone] at h2
  by_cases h3 : 7 ≤ k ∨ Vl.strange ⟨k, b, n, s, l, f⟩ = true
  · rw [if_pos h3] at h2; cases h2
  · rw [if_neg h3] at h2
    by_cases h4 : 1024 < s.size
    · rw [if_pos h4] at h2; cases h2
    · rw [if_neg h4] at h2
      split at h2
      · cases h2
      · split at h2
        · cases h2
        · omega
mutual
/-- a right value is all in its bytes -/
theorem fit_of (u : ByteArray → Bool) : ∀ (d : Nat) (t : V), Vl.check u d t = 0 → rng t → fit t
  | d, ⟨k, b, n, s, l, f⟩, h, hr => by
    obtain ⟨a1, a2, a3, a4, a5, a6, a7, a8⟩ := Vl.right_form u h
    obtain ⟨b1, b2, b3⟩ := alone_sizes h
    rw [rng] at hr
    rw [fit]
    exact ⟨by omega, a2, a3, a4, a5, a6, hr.1, by omega, b2, b3, fitL_of u (d + 1) l a7 hr.2.1, fitF_of u (d + 1) Option.none f a8 hr.2.2⟩
theorem fitL_of (u : ByteArray → Bool) : ∀ (d : Nat) (l : List V), Vl.checkL u d l = 0 → rngL l → fitL l
  | _, [], _, _ => by rw [fitL]; trivial
  | d, x :: r, h, hr => by
    rw [Vl.checkL] at h
    rw [rngL] at hr
    rw [fitL]
    by_cases e : Vl.check u d x = 0
    · rw [if_neg (by simp [e])] at h
      exact ⟨fit_of u d x e hr.1, fitL_of u d r h hr.2⟩
    · rw [if_pos e] at h; exact absurd h e
theorem fitF_of (u : ByteArray → Bool) : ∀ (d : Nat) (p : Option ByteArray) (l : List (ByteArray × V)), Vl.checkF u d p l = 0 → rngF l → fitF l
  | _, _, [], _, _ => by rw [fitF]; trivial
  | d, p, (m, x) :: r, h, hr => by
    rw [Vl.checkF] at h
    rw [rngF] at hr
    rw [fitF]
    by_cases e0 : Vl.nameErr u m = 0
    · rw [if_neg (by simp [e0])] at h
      by_cases e1 : Vl.notUp m p = true
      · rw [if_pos e1] at h; cases h
      · rw [if_neg e1] at h
        by_cases e : Vl.check u d x = 0
        · rw [if_neg (by simp [e])] at h
          refine ⟨⟨?_, fit_of u d x e hr.1⟩, fitF_of u d (some m) r h hr.2⟩
          rw [Vl.nameErr] at e0
          split at e0
          · cases e0
          · omega
        · rw [if_pos e] at h; exact absurd h e
    · rw [if_pos e0] at h; exact absurd h e0
end
end Bn
end Go.Proofs.YtbogggnnmbjlfaaDoor
