/- The document's Get, walked: what a path leads to. -/
import Derived.Test.YtbogggnnmbjlfaaDoorStep
import Derived.Lib.AtoiTie
import Derived.Test.YtbogggnnmbjlfaaDoorPutsF
import Derived.Test.YtbogggnnmbjlfaaDoorCopyA
namespace Go.Proofs.YtbogggnnmbjlfaaDoor
open Go.RowKit Go.Lib
open Vl (V)
theorem dec_small {u : Nat} (h : u < 10) : decDigits u = [UInt8.ofNat (48 + u)] := by rw [decDigits, dif_pos h]
theorem dec_big {u : Nat} (h : ¬ u < 10) : decDigits u = decDigits (u / 10) ++ [UInt8.ofNat (48 + u % 10)] := by rw [decDigits, dif_neg h]
theorem digit_of (d : Nat) (h : d < 10) : digitVal (UInt8.ofNat (48 + d)) = some d := by
  have e : (UInt8.ofNat (48 + d)).toNat = 48 + d := by rw [UInt8.toNat_ofNat']; omega
  rw [digitVal, e, if_pos (by omega)]
  congr 1
  omega
theorem decFrom_append : ∀ (l r : List UInt8) (a b : Nat), decFrom a l = some b → decFrom a (l ++ r) = decFrom b r
  | [], r, a, b, h => by
    rw [decFrom] at h
    cases h
    rfl
  | x :: l, r, a, b, h => by
    rw [decFrom] at h
    rw [List.cons_append, decFrom]
    cases hd : digitVal x with
    | none => rw [hd] at h; cases h
    | some d =>
      rw [hd] at h
      exact decFrom_append l r _ b h
theorem decFrom_dec (u : Nat) : decFrom 0 (decDigits u) = some u := by
  induction u using Nat.strongRecOn with
  | _ u ih =>
    by_cases h : u < 10
    · rw [dec_small h, decFrom, digit_of u h]
      show decFrom (0 * 10 + u) [] = some u
      rw [decFrom]; congr 1; omega
    · rw [dec_big h, decFrom_append _ _ _ _ (ih (u / 10) (by omega)), decFrom, digit_of (u % 10) (by omega)]
      show decFrom (u / 10 * 10 + u % 10) [] = some u
      rw [decFrom]; congr 1; omega
theorem dec_ne (u : Nat) : decDigits u ≠ [] := by
  by_cases h : u < 10
  · rw [dec_small h]; simp
  · rw [dec_big h]; simp
theorem dec_head (u : Nat) : ∀ x r, decDigits u = x :: r → 48 ≤ x.toNat := by
  induction u using Nat.strongRecOn with
  | _ u ih =>
    intro x r e
    by_cases h : u < 10
    · rw [dec_small h] at e
      cases e
      rw [UInt8.toNat_ofNat']; omega
    · rw [dec_big h] at e
      cases hd : decDigits (u / 10) with
      | nil => exact absurd hd (dec_ne _)
      | cons y q =>
        rw [hd, List.cons_append] at e
        cases e
        exact ih (u / 10) (by omega) _ _ hd
theorem dec_len (u k : Nat) (h : u < 10 ^ (k + 1)) : (decDigits u).length ≤ k + 1 := by
  induction k generalizing u with
  | zero => rw [dec_small (by simpa using h)]; simp
  | succ k ih =>
    by_cases h10 : u < 10
    · rw [dec_small h10]; simp
    · rw [dec_big h10, List.length_append]
      have := ih (u / 10) (by rw [Nat.pow_succ] at h; omega)
      simp only [List.length_cons, List.length_nil]
      omega
/-- a numeral is read as its number -/
theorem atoi_dec (u : Nat) (h : u < 1000000000000000000) : atoiAll (decDigits u) = .ok (u : Int) := by
  rw [atoiAll_short _ (dec_len u 17 (by have e : (10 : Nat) ^ 18 = 1000000000000000000 := by decide
                                        omega))]
  have h1 := decFrom_dec u
  cases hd : decDigits u with
  | nil => exact absurd hd (dec_ne _)
  | cons x r =>
    have h2 := dec_head u x r hd
    rw [hd] at h1
    have n45 : (x == 45) = false := by
      rw [beq_eq_false_iff_ne]
      intro e
      rw [e] at h2
      exact absurd h2 (by decide)
    have n43 : (x == 43) = false := by
      rw [beq_eq_false_iff_ne]
      intro e
      rw [e] at h2
      exact absurd h2 (by decide)
    rw [atoi, n45, n43]
    simp only [Bool.false_eq_true, if_false]
    rw [decNat, if_neg (by simp), h1]
    rfl
/-- a numeral as a text -/
def numT (u : Nat) : ByteArray := ⟨(decDigits u).toArray⟩
theorem numT_itoa (u : Nat) : (⟨(itoa (u : Int)).toArray⟩ : ByteArray) = numT u := by
  rw [itoa, if_neg (by omega), Int.toNat_natCast, numT]
/-- which name is a number -/
theorem place_num (m : ByteArray) (u : Nat) (h : u < 1000000000000000000) : placeOf m = (u : Int) ↔ numT u = m := by
  constructor
  · intro e
    rw [placeOf] at e
    split at e
    · split at e
      · rename_i v _ hv
        rw [e, numT_itoa] at hv
        exact hv
      · omega
    · omega
  · intro e
    subst e
    have h1 : (numT u).data.toList = decDigits u := by rw [numT]
    rw [placeOf, h1, atoi_dec u h]
    simp only
    rw [if_pos (numT_itoa u)]
end Go.Proofs.YtbogggnnmbjlfaaDoor
namespace Go.Proofs.YtbogggnnmbjlfaaDoor
open Go.RowKit Go.Lib
open Vl (V)
/-- how far Number has come: what is left, what is written -/
def NumI (n u : Nat) (s : ByteArray) : Prop := (s = ⟨#[]⟩ ∧ u = n) ∨ (s ≠ ⟨#[]⟩ ∧ ((0 < u ∧ decDigits n = decDigits u ++ s.data.toList) ∨ (u = 0 ∧ decDigits n = s.data.toList)))
theorem NumI.next {n u : Nat} {s : ByteArray} (h : NumI n u s) (hc : s = ⟨#[]⟩ ∨ 0 < u) : NumI n (u / 10) (⟨#[UInt8.ofNat (48 + u % 10)]⟩ ++ s) := by
  have hne : (⟨#[UInt8.ofNat (48 + u % 10)]⟩ ++ s : ByteArray) ≠ ⟨#[]⟩ := fun e => by
    have := congrArg ByteArray.size e
    rw [ByteArray.size_append] at this
    have h1 : (⟨#[UInt8.ofNat (48 + u % 10)]⟩ : ByteArray).size = 1 := rfl
    have h2 : (⟨#[]⟩ : ByteArray).size = 0 := rfl
    omega
  have hdl : (⟨#[UInt8.ofNat (48 + u % 10)]⟩ ++ s : ByteArray).data.toList = UInt8.ofNat (48 + u % 10) :: s.data.toList := by
    rw [ByteArray.data_append, Array.toList_append]
    rfl
  have key : ∀ t : List UInt8, decDigits n = decDigits u ++ t → (0 < u / 10 ∧ decDigits n = decDigits (u / 10) ++ (UInt8.ofNat (48 + u % 10) :: t)) ∨ (u / 10 = 0 ∧ decDigits n = UInt8.ofNat (48 + u % 10) :: t) := fun t e => by
    by_cases h10 : u < 10
    · right
      rw [dec_small h10] at e
      refine ⟨by omega, ?_⟩
      rw [e, Nat.mod_eq_of_lt h10]
      rfl
    · left
      rw [dec_big h10, List.append_assoc] at e
      exact ⟨by omega, e⟩
  refine Or.inr ⟨hne, ?_⟩
  rw [hdl]
  rcases h with ⟨h1, h2⟩ | ⟨_, h1 | h1⟩
  · subst h1 h2
    exact key [] (by simp)
  · exact key _ h1.2
  · rcases hc with e | e
    · rename_i h0; exact absurd e h0
    · omega
theorem digit_cut (k : Nat) (h : k < 10) : (⟨#[48, 49, 50, 51, 52, 53, 54, 55, 56, 57]⟩ : ByteArray).extract k (k + 1) = ⟨#[UInt8.ofNat (48 + k)]⟩ := by
  match k, h with
  | 0, _ => decide +kernel
  | 1, _ => decide +kernel
  | 2, _ => decide +kernel
  | 3, _ => decide +kernel
  | 4, _ => decide +kernel
  | 5, _ => decide +kernel
  | 6, _ => decide +kernel
  | 7, _ => decide +kernel
  | 8, _ => decide +kernel
  | 9, _ => decide +kernel
theorem NumI.short {n u : Nat} {s : ByteArray} (h : NumI n u s) (hn : n ≤ 9223372036854775807) : s.size ≤ 20 := by
  have hl := dec_len n 19 (by have e : (10 : Nat) ^ 20 = 100000000000000000000 := by decide
                              omega)
  rcases h with ⟨h1, _⟩ | ⟨_, ⟨_, h1⟩ | ⟨_, h1⟩⟩
  · rw [h1]; decide
  · rw [h1, List.length_append] at hl
    have := Lib.size_eq s
    omega
  · rw [h1] at hl
    have := Lib.size_eq s
    omega
theorem bytes_ne {s : ByteArray} (hs : s ≠ ⟨#[]⟩) : ¬ s.toList = [] ∧ s.toList.isEmpty = false := by
  have h : ¬ s.toList = [] := by
    rw [Go.ByteArray.toList_eq]
    intro e
    apply hs
    cases s
    exact congrArg ByteArray.mk (Array.toList_inj.1 e)
  exact ⟨h, by simp [h]⟩
def strL : Value → Nat
  | .string s => s.size
  | _ => 0
set_option maxHeartbeats 4000000 in
set_option maxRecDepth 100000 in
theorem number32 (n : Nat) (hn : n ≤ 9223372036854775807) (w : World) : Calls Tryd.prog 32 #[.int .i64 (n : Int)] w fun e w' => e = .returned (.string (numT n)) ∧ w' = w := by
  go_enter Tryd.func32, Tryd.ntmps32
  go_wp2
  go_loopw [0, 3] (fun a v wr => ∃ (u : Nat) (s : ByteArray), u ≤ n ∧ a = .int .i64 (u : Int) ∧ v = .string s ∧ NumI n u s ∧ wr = w) (fun a v _ => 2 * (RowKit.intOf a).toNat + if strL v = 0 then 1 else 0)
  case atStart => exact ⟨n, ⟨#[]⟩, Nat.le_refl _, rfl, rfl, Or.inl ⟨rfl, rfl⟩, rfl⟩
  case round =>
    obtain ⟨u, s, hu, rfl, rfl, hI, rfl⟩ := hrel
    have HI : Hid (NumI n u s) := hI
    clear hI
    have HX : Hid ((⟨#[48, 49, 50, 51, 52, 53, 54, 55, 56, 57]⟩ : ByteArray).extract (u % 10) (u % 10 + 1) = ⟨#[UInt8.ofNat (48 + u % 10)]⟩) := digit_cut (u % 10) (by omega)
    have HNE : Hid ((⟨#[UInt8.ofNat (48 + u % 10)]⟩ ++ s : ByteArray).size = 1 + s.size) := by show _ = _; rw [ByteArray.size_append]; rfl
    by_cases hs : s = ⟨#[]⟩
    · subst hs
      go_wp2
      go_roundw
      case rel =>
        refine ⟨u / 10, ⟨#[UInt8.ofNat (48 + u % 10)]⟩ ++ ⟨#[]⟩, by omega, by simp, ?_, HI.out.next (Or.inl rfl), trivial⟩
        rw [HX.out]
      case measure =>
        have h0 : (⟨#[]⟩ : ByteArray).size = 0 := rfl
        simp only [RowKit.intOf, strL, HX.out, HNE.out, h0]
        rw [if_neg (by omega), if_pos trivial]
        omega
    · by_cases hu0 : 0 < u
      · obtain ⟨hs1, hs2⟩ := bytes_ne hs
        have hu1 : (0 : Int) < (u : Int) := by omega
        have hsh := HI.out.short hn
        have hfit : ¬ 9223372036854775807 < min (u % 10 + 1) 10 - u % 10 + s.size := by omega
        clear hsh
        go_wp2
        go_roundw
        case rel =>
          refine ⟨u / 10, ⟨#[UInt8.ofNat (48 + u % 10)]⟩ ++ s, by omega, by simp, ?_, HI.out.next (Or.inr hu0), trivial⟩
          rw [HX.out]
        case measure =>
          simp only [RowKit.intOf, strL, HX.out, HNE.out]
          rw [if_neg (by omega)]
          exact Nat.lt_of_lt_of_le (by omega) (Nat.le_add_right _ _)
      · have hue : u = 0 := by omega
        subst hue
        obtain ⟨hs1, hs2⟩ := bytes_ne hs
        have HN : Hid (numT n = s) := by
          show _ = _
          rcases HI.out with ⟨e, _⟩ | ⟨_, ⟨e, _⟩ | ⟨_, e⟩⟩
          · exact absurd e hs
          · omega
          · rw [numT, e]
        go_wp2
        go_ret
        exact ⟨by rw [HN.out]; rfl, rfl⟩
end Go.Proofs.YtbogggnnmbjlfaaDoor
namespace Go.Proofs.YtbogggnnmbjlfaaDoor
open Go.RowKit
open Vl (V)
/-- Get's own variables within a step: the value, the answer, what was found -/
structure NX (w W : World) (H : Nat) (t : V) (z0 z1 z2 z3 z4 z5 : Value) (B : Nat) (o : Option V) : Prop where
  below : Below w.heap.size w W
  res : Z6 W (w.heap.size + 1)
  cur : Row6 W w.heap.size z0 z1 z2 z3 z4 z5
  rep : Rep W H t (.agg #[z0, z1, z2, z3, z4, z5])
  nxt : ∃ n0 n1 n2 n3 n4 n5, Row6 W B n0 n1 n2 n3 n4 n5 ∧ Rep W H (o.getD zV) (.agg #[n0, n1, n2, n3, n4, n5])
  far : w.heap.size + 1 < B
  low : H ≤ w.heap.size
section
variable {w W W' : World} {H : Nat} {t : V} {z0 z1 z2 z3 z4 z5 : Value} {B : Nat} {o : Option V}
theorem NX.call (h : NX w W H t z0 z1 z2 z3 z4 z5 B o) (hb : Below W.heap.size W W') : NX w W' H t z0 z1 z2 z3 z4 z5 B o := by
  obtain ⟨n0, n1, n2, n3, n4, n5, h1, h2⟩ := h.nxt
  have hl : H ≤ W.heap.size := Nat.le_trans h.low h.below.size
  exact ⟨h.below.trans (hb.mono h.below.size), h.res.call hb, h.cur.call hb, rep_stays (hb.mono hl) (Nat.le_refl _) t _ h.rep, ⟨n0, n1, n2, n3, n4, n5, h1.call hb, rep_stays (hb.mono hl) (Nat.le_refl _) _ _ h2⟩, h.far, h.low⟩
theorem NX.put (h : NX w W H t z0 z1 z2 z3 z4 z5 B o) {x : V} {c0 c1 c2 c3 c4 c5 : Value} (hr : Rep W H x (.agg #[c0, c1, c2, c3, c4, c5])) : NX w (W.setCells B 0 [c0, c1, c2, c3, c4, c5]) H t z0 z1 z2 z3 z4 z5 B (some x) := by
  obtain ⟨n0, n1, n2, n3, n4, n5, h1, h2⟩ := h.nxt
  have hf := h.far
  have hl := h.low
  have hb : Below H W (W.setCells B 0 [c0, c1, c2, c3, c4, c5]) := below_setCells (by omega) _ _ (Below.refl _ _)
  have e : ∀ g, g ≠ B → (W.setCells B 0 [c0, c1, c2, c3, c4, c5]).heap[g]? = W.heap[g]? := fun g hg => heap_setCells_ne B g hg _ _ _
  exact ⟨below_setCells (by omega) _ _ h.below, ⟨by rw [size_setCells']; exact h.res.1, (e _ (by omega)).trans h.res.2⟩, ⟨by rw [size_setCells']; exact h.cur.1, (e _ (by omega)).trans h.cur.2⟩, rep_stays hb (Nat.le_refl _) t _ h.rep, ⟨c0, c1, c2, c3, c4, c5, Row6.put h1 _ _ _ _ _ _, rep_stays hb (Nat.le_refl _) x _ hr⟩, h.far, h.low⟩
theorem NX.fields {k : Nat} {b : Bool} {n : Int} {s : ByteArray} {l : List V} {f : List (ByteArray × V)} {fa : Option Addr} {nf fc : Nat} (h : NX w W H ⟨k, b, n, s, l, f⟩ z0 z1 z2 z3 z4 (.slice fa nf fc) B o) : 0 < f.length → ∃ g p, fa = some ⟨g, p, none⟩ ∧ g < H ∧ RepF W H g p f := by
  have hr := h.rep
  rw [Rep] at hr
  obtain ⟨ao, lc, fo, fc', e, _, _, _, _, _, _, h8⟩ := hr
  simp only [Value.agg.injEq, Array.mk.injEq, List.cons.injEq, and_true, Value.slice.injEq] at e
  obtain ⟨_, _, _, _, _, rfl, _, _⟩ := e
  exact h8
theorem NX.parts {k : Nat} {b : Bool} {n : Int} {s : ByteArray} {l : List V} {f : List (ByteArray × V)} {la : Option Addr} {nl lc : Nat} (h : NX w W H ⟨k, b, n, s, l, f⟩ z0 z1 z2 z3 (.slice la nl lc) z5 B o) : 0 < l.length → ∃ g p, la = some ⟨g, p, none⟩ ∧ g < H ∧ RepL W H g p l := by
  have hr := h.rep
  rw [Rep] at hr
  obtain ⟨ao, lc', fo, fc', e, _, _, _, _, _, h7, _⟩ := hr
  simp only [Value.agg.injEq, Array.mk.injEq, List.cons.injEq, and_true, Value.slice.injEq] at e
  obtain ⟨_, _, _, _, ⟨rfl, _, _⟩, _⟩ := e
  exact h7
/-- the value found is gone on with -/
theorem NX.on {x : V} {n0 n1 n2 n3 n4 n5 : Value} (h : NX w W H t z0 z1 z2 z3 z4 z5 B (some x)) (hx : Vl.small x) (hr : Rep W H x (.agg #[n0, n1, n2, n3, n4, n5])) : GS w (W.setCells w.heap.size 0 [n0, n1, n2, n3, n4, n5]) H x :=
  ⟨below_setCells (Nat.le_refl _) _ _ h.below, ⟨by rw [size_setCells']; exact h.res.1, (heap_setCells_ne _ _ (by omega) _ _ _).trans h.res.2⟩, hx, n0, n1, n2, n3, n4, n5, h.cur.put _ _ _ _ _ _, rep_stays (below_setCells h.low _ _ (Below.refl _ _)) (Nat.le_refl _) x _ hr⟩
end
/-- the part of a list that a name leads to, of the first ones -/
def nth (m : ByteArray) (l : List V) (j : Nat) : Option V := if 0 ≤ placeOf m ∧ (placeOf m).toNat < j then l[(placeOf m).toNat]? else none
theorem nth_zero (m : ByteArray) (l : List V) : nth m l 0 = none := by rw [nth, if_neg (by omega)]
theorem nth_next (m : ByteArray) (l : List V) (j : Nat) (x : V) (hx : l[j]? = some x) (hj : j < 1000000000000000000) : nth m l (j + 1) = if numT j = m then some x else nth m l j := by
  by_cases e : numT j = m
  · rw [if_pos e, nth, (place_num m j hj).2 e, if_pos (by omega)]
    simpa using hx
  · have h1 : placeOf m ≠ (j : Int) := fun h => e ((place_num m j hj).1 h)
    rw [if_neg e, nth, nth]
    by_cases h2 : 0 ≤ placeOf m ∧ (placeOf m).toNat < j
    · rw [if_pos h2, if_pos (by omega)]
    · rw [if_neg h2, if_neg (by omega)]
theorem nth_all (m : ByteArray) (b : Bool) (n : Int) (s : ByteArray) (l : List V) (f : List (ByteArray × V)) : nth m l l.length = stepV ⟨5, b, n, s, l, f⟩ m := by
  rw [nth, stepV, if_pos rfl]
  by_cases h : 0 ≤ placeOf m
  · rw [if_pos h]
    by_cases h2 : (placeOf m).toNat < l.length
    · rw [if_pos ⟨h, h2⟩]
    · rw [if_neg (by omega), List.getElem?_eq_none (by omega)]
  · rw [if_neg (by omega), if_neg h]
theorem look_next (m : ByteArray) (f : List (ByteArray × V)) (j : Nat) (a : ByteArray) (x : V) (hx : f[j]? = some (a, x)) : Vl.look (f.take (j + 1)) m = if (Vl.look (f.take j) m).isSome = true then Vl.look (f.take j) m else if a = m then some x else none := by
  rw [List.take_add_one, hx, Vl.look_append]
  cases Vl.look (f.take j) m with
  | some y => rfl
  | none =>
    show Vl.look [(a, x)] m = _
    rw [Vl.look_cons, Vl.look_nil]
    rfl
set_option maxHeartbeats 8000000 in
set_option maxRecDepth 100000 in
theorem rget11 (t : V) (ht : Vl.small t) (ss : List ByteArray) (ao : Option Addr) (cap : Nat) (w : World) (H : Nat) (v : Value) (hH : H ≤ w.heap.size) (hR : Rep w H t v) (hP : LiesP w ao ss) :
    Calls Tryd.prog 11 #[v, .slice ao ss.length cap] w fun e w' => Got (getV t ss) e w' ∧ Below w.heap.size w w' := by
  obtain ⟨xk, xb, xn, xs, xa, xl, xc, ya, yl, yc, hv⟩ := repA_form (rep_repA t v hR)
  subst hv
  obtain ⟨w1, hw1, hb1, hr1, hz1⟩ := two_new w (.int .u8 (xk : Int)) (.bool xb) (.int .i64 xn) (.string xs) (.slice xa xl xc) (.slice ya yl yc)
  have G1 : Hid (GS w w1 H t) := ⟨hb1, hz1, ht, _, _, _, _, _, _, hr1, rep_stays (hb1.mono hH) (Nat.le_refl _) t _ hR⟩
  have HW1 : Hid (w1 = _) := hw1
  have HP : Hid (LiesP w ao ss) := hP
  have HH : Hid (H ≤ w.heap.size) := hH
  have hl := maxLen_lt hP.1
  obtain ⟨np, hnp⟩ : ∃ n, n = ss.length := ⟨_, rfl⟩
  have HNP : Hid (np = ss.length) := hnp
  rw [← hnp] at hl ⊢
  obtain ⟨go, hgo⟩ : ∃ o, o = getV t ss := ⟨_, rfl⟩
  have HGO : Hid (go = getV t ss) := hgo
  rw [← hgo]
  clear hb1 hr1 hz1 hw1 hP hR ht hnp hgo hH
  go_enter Tryd.func11, Tryd.ntmps11
  go_wp2
  rw [← HW1.out]
  go_loopw [16] (fun i wr => ∃ (j : Nat) (t' : V), j ≤ np ∧ i = .int .i64 j ∧ GS w wr H t' ∧ getV t ss = getV t' (ss.drop j)) (fun i _ => np - (intOf i).toNat)
  case atStart => exact ⟨0, t, Nat.zero_le _, rfl, G1.out, rfl⟩
  case round =>
    obtain ⟨j, t', hj, rfl, hG, hgv⟩ := hrel
    clear G1 HW1
    have HG : Hid (GS w wr H t') := hG
    have HV : Hid (getV t ss = getV t' (ss.drop j)) := hgv
    obtain ⟨hB, hZ, hsm, z0, z1, z2, z3, z4, z5, hrow, hrep⟩ := hG
    by_cases hlt : j < np
    · have hlt' : j < ss.length := by rw [← HNP.out]; exact hlt
      obtain ⟨g, o, rfl, hg, hc⟩ := HP.out.2.2 (by omega)
      obtain ⟨m, hm⟩ : ∃ m, ss[j]? = some m := ⟨_, List.getElem?_eq_getElem hlt'⟩
      have hcell : wr.cell? ⟨g, o + j, none⟩ = some (.string m) := (hB.cell (p := ⟨g, o + j, none⟩) hg).trans (hc j m hm)
      have hdrop : ss.drop j = m :: ss.drop (j + 1) := by
        have := List.drop_eq_getElem_cons hlt'
        rw [this]
        congr 1
        exact Option.some.inj ((List.getElem?_eq_getElem hlt').symm.trans hm)
      obtain ⟨ho, hoe⟩ : ∃ ho, ho = stepV t' m := ⟨_, rfl⟩
      have HGX : Hid (go = ho.bind fun x => getV x (ss.drop (j + 1))) := by
        show _ = _
        rw [HGO.out, HV.out, hdrop, getV, hoe]
        cases stepV t' m <;> rfl
      have HSM : Hid (∀ x, ho = some x → Vl.small x) := fun x hx => small_step hsm (hoe.symm.trans hx)
      obtain ⟨k1, b1, n1, s1, l1, f1⟩ := t'
      have hrep' := hrep
      rw [Rep] at hrep'
      obtain ⟨la, lc, fa, fc, hz, hk, _, _, hll, hfl, hla, hfa⟩ := hrep'
      simp only [Value.agg.injEq, Array.mk.injEq, List.cons.injEq, and_true] at hz
      obtain ⟨rfl, rfl, rfl, rfl, rfl, rfl⟩ := hz
      have N0 : Hid (NX w (wr.alloc (.cells #[.int .u8 0, .bool false, .int .i64 0, .string ⟨#[]⟩, .slice none 0 0, .slice none 0 0] 26)) H ⟨k1, b1, n1, s1, l1, f1⟩ (.int .u8 (k1 : Int)) (.bool b1) (.int .i64 n1) (.string s1) (.slice la l1.length lc) (.slice fa f1.length fc) wr.heap.size none) := by
        have hbn := below_new wr (.cells #[.int .u8 0, .bool false, .int .i64 0, .string ⟨#[]⟩, .slice none 0 0, .slice none 0 0] 26)
        exact ⟨hB.trans (hbn.mono hB.size), hZ.call hbn, hrow.call hbn, rep_stays (hbn.mono (by have := HH.out; have := hB.size; omega)) (Nat.le_refl _) _ _ hrep, ⟨_, _, _, _, _, _, ⟨by simp, heap_alloc_new wr _⟩, rep_zV _ _⟩, by have := hZ.1; omega, HH.out⟩
      obtain ⟨nl, hnl⟩ : ∃ n, n = l1.length := ⟨_, rfl⟩
      obtain ⟨nf, hnf⟩ : ∃ n, n = f1.length := ⟨_, rfl⟩
      have HNL : Hid (nl = l1.length) := hnl
      have HNF : Hid (nf = f1.length) := hnf
      have hl2 := maxLen_lt hll
      have hf2 := maxLen_lt hfl
      have HLS : Hid (nl < 1000000000000000000) := by
        show _ < _
        rw [Vl.small] at hsm
        rw [hnl]; have := hsm.2.1; omega
      obtain ⟨p0, p1, p2, p3, p4, p5⟩ := hrow.cells
      rw [← hnl] at N0 hl2 p4
      rw [← hnf] at N0 hf2 p5
      have HOE : Hid (ho = stepV ⟨k1, b1, n1, s1, l1, f1⟩ m) := hoe
      clear hB hZ hsm hrow hrep hgv hdrop hc hm hlt' hoe hnl hnf hll hfl hla hfa HG HV
      go_upto_region 6 with fail
      obtain ⟨w2, hw2⟩ : ∃ w2, w2 = wr.alloc (.cells #[.int .u8 0, .bool false, .int .i64 0, .string ⟨#[]⟩, .slice none 0 0, .slice none 0 0] 26) := ⟨_, rfl⟩
      obtain ⟨B, hB⟩ : ∃ B, B = wr.heap.size := ⟨_, rfl⟩
      rw [← hw2, ← hB] at N0 ⊢
      clear hw2 hB p0 p1 p2 p3 p4 p5 hcell
      obtain ⟨p0, p1, p2, p3, p4, p5⟩ := N0.out.cur.cells
      by_cases h6 : k1 = 6
      · subst h6
        go_wp2
        clear p0 p1 p2 p3 p4 p5
        go_loopw [8, 27] (fun is i wr => ∃ (q : Nat) (o : Option V), q ≤ nf ∧ i = .int .i64 q ∧ is = .bool o.isSome ∧ o = Vl.look (f1.take q) m ∧ NX w wr H ⟨6, b1, n1, s1, l1, f1⟩ (.int .u8 6) (.bool b1) (.int .i64 n1) (.string s1) (.slice la nl lc) (.slice fa nf fc) B o) (fun _ i _ => nf - (intOf i).toNat)
        case atStart => exact ⟨0, none, Nat.zero_le _, rfl, rfl, by rw [List.take_zero, Vl.look_nil], N0.out⟩
        case round =>
          obtain ⟨q, oo, hq, rfl, rfl, hoo, hN⟩ := hrel
          have N : Hid (NX w wr H ⟨6, b1, n1, s1, l1, f1⟩ (.int .u8 6) (.bool b1) (.int .i64 n1) (.string s1) (.slice la nl lc) (.slice fa nf fc) B oo) := hN
          have HOO : Hid (oo = Vl.look (f1.take q) m) := hoo
          clear hN N0 hoo
          by_cases hlt2 : q < nf
          · have ha : q < f1.length := by rw [← HNF.out]; exact hlt2
            obtain ⟨gf, of, rfl, hgf, hrf⟩ := N.out.fields (by omega)
            obtain ⟨⟨a, x⟩, hx⟩ : ∃ x, f1[q]? = some x := ⟨_, List.getElem?_eq_getElem ha⟩
            obtain ⟨dm, _, c0, c1, c2, c3, c4, c5, ⟨d0, d1, d2, d3, d4, d5⟩, hrx⟩ := repF_at f1 of hrf q a x hx
            rw [show of + q * 7 + 1 + 1 = of + q * 7 + 2 by omega] at d1
            rw [show of + q * 7 + 1 + 2 = of + q * 7 + 3 by omega] at d2
            rw [show of + q * 7 + 1 + 3 = of + q * 7 + 4 by omega] at d3
            rw [show of + q * 7 + 1 + 4 = of + q * 7 + 5 by omega] at d4
            rw [show of + q * 7 + 1 + 5 = of + q * 7 + 6 by omega] at d5
            obtain ⟨yk, yb, yn, ys, yfa, yfl, yfc, yga, ygl, ygc, rfl, rfl, rfl, rfl, rfl, rfl⟩ := rep_form hrx
            have HLN : Hid (Vl.look (f1.take (q + 1)) m = if (Vl.look (f1.take q) m).isSome = true then Vl.look (f1.take q) m else if a = m then some x else none) := look_next m f1 q a x hx
            have HRX : Hid (Rep wr H x (.agg #[.int .u8 (yk : Int), .bool yb, .int .i64 yn, .string ys, .slice yfa yfl yfc, .slice yga ygl ygc])) := hrx
            clear hrf hx hrx ha
            go_upto_region 10 with fail
            obtain ⟨w3, hw3⟩ : ∃ w3, w3 = wr.alloc (.cells #[.string a, .int .u8 (yk : Int), .bool yb, .int .i64 yn, .string ys, .slice yfa yfl yfc, .slice yga ygl ygc] 39) := ⟨_, rfl⟩
            obtain ⟨B3, hB3⟩ : ∃ B, B = wr.heap.size := ⟨_, rfl⟩
            have hb3 : Below wr.heap.size wr w3 := by rw [hw3]; exact below_new _ _
            have HBX : Hid (Row7 w3 B3 (.string a) (.int .u8 (yk : Int)) (.bool yb) (.int .i64 yn) (.string ys) (.slice yfa yfl yfc) (.slice yga ygl ygc)) := by
              show Row7 _ _ _ _ _ _ _ _ _
              rw [hw3, hB3]; exact ⟨by simp, heap_alloc_new wr _⟩
            have N3 := N.out.call hb3
            have HRX3 : Hid (Rep w3 H x (.agg #[.int .u8 (yk : Int), .bool yb, .int .i64 yn, .string ys, .slice yfa yfl yfc, .slice yga ygl ygc])) := rep_stays (hb3.mono (by have := HH.out; have := N.out.below.size; omega)) (Nat.le_refl _) x _ HRX.out
            have N4 : Hid (NX w w3 H ⟨6, b1, n1, s1, l1, f1⟩ (.int .u8 6) (.bool b1) (.int .i64 n1) (.string s1) (.slice la nl lc) (.slice (some ⟨gf, of, none⟩) nf fc) B oo) := N3
            rw [← hw3, ← hB3]
            clear hw3 hB3 hb3 N3 dm d0 d1 d2 d3 d4 d5 N HRX
            obtain ⟨y0, y1, y2, y3, y4, y5, y6⟩ := HBX.out.cells
            by_cases ham : a = m
            · subst ham
              rcases oo with _ | y
              · have HO2 : Hid (some x = Vl.look (f1.take (q + 1)) a) := by
                  show _ = _
                  rw [HLN.out, ← HOO.out]; simp
                have N5 : Hid (NX w (w3.setCells B 0 [.int .u8 (yk : Int), .bool yb, .int .i64 yn, .string ys, .slice yfa yfl yfc, .slice yga ygl ygc]) H ⟨6, b1, n1, s1, l1, f1⟩ (.int .u8 6) (.bool b1) (.int .i64 n1) (.string s1) (.slice la nl lc) (.slice (some ⟨gf, of, none⟩) nf fc) B (some x)) := N4.out.put HRX3.out
                obtain ⟨e0, e1, e2, e3, e4, e5, he, _⟩ := N4.out.nxt
                obtain ⟨r0, r1, r2, r3, r4, r5⟩ := he.cells
                have fz := he.free
                have ltb := he.1
                clear he
                go_wp2
                rw [sets6]
                go_roundw
                case rel => first | exact ⟨q + 1, some x, by omega, by go_num, rfl, HO2.out, N5.out⟩ | ((repeat apply Exists.intro); exact ⟨⟨q + 1, some x, by omega, by go_num, rfl, HO2.out, N5.out⟩, rfl⟩)
                case measure => simp [intOf]; omega
              · have HO2 : Hid (some y = Vl.look (f1.take (q + 1)) a) := by
                  show _ = _
                  rw [HLN.out, ← HOO.out]; rfl
                go_wp2
                go_roundw
                case rel => first | exact ⟨q + 1, some y, by omega, by go_num, rfl, HO2.out, N4.out⟩ | ((repeat apply Exists.intro); exact ⟨⟨q + 1, some y, by omega, by go_num, rfl, HO2.out, N4.out⟩, rfl⟩)
                case measure => simp [intOf]; omega
            · have hane : (a.toList == m.toList) = false := by
                rw [Go.ByteArray.toList_eq, Go.ByteArray.toList_eq, beq_eq_false_iff_ne]
                intro e
                apply ham
                cases a; cases m
                exact congrArg ByteArray.mk (Array.toList_inj.1 e)
              have HO2 : Hid (oo = Vl.look (f1.take (q + 1)) m) := by
                show _ = _
                rw [HLN.out, ← HOO.out, if_neg ham]
                cases oo <;> rfl
              go_wp2
              go_roundw
              case rel => first | exact ⟨q + 1, oo, by omega, by go_num, rfl, HO2.out, N4.out⟩ | ((repeat apply Exists.intro); exact ⟨⟨q + 1, oo, by omega, by go_num, rfl, HO2.out, N4.out⟩, rfl⟩)
              case measure => simp [intOf]; omega
          · have hqn : q = nf := by omega
            have hoo : oo = ho := by
              rw [HOO.out, hqn, HNF.out, List.take_length, HOE.out, stepV, if_neg (by decide), if_pos rfl]
              rfl
            subst hoo
            obtain ⟨wq, rfl⟩ : ∃ wq, wq = wr := ⟨_, rfl⟩
            have NE : Hid (NX w wq H ⟨6, b1, n1, s1, l1, f1⟩ (.int .u8 6) (.bool b1) (.int .i64 n1) (.string s1) (.slice la nl lc) (.slice fa nf fc) B oo) := N.out
            clear N HOO HOE
            have NQ : Hid (NX w wq H ⟨6, b1, n1, s1, l1, f1⟩ (.int .u8 6) (.bool b1) (.int .i64 n1) (.string s1) (.slice la nl lc) (.slice fa nf fc) B oo) := NE.out
            rcases oo with _ | x
            · have hgo : go = none := HGX.out
              subst hgo
              obtain ⟨q0, q1, q2, q3, q4, q5⟩ := Row6.cells NQ.out.res
              have fz := Row6.free NQ.out.res
              have lt2 := NQ.out.res.1
              have HE : Hid ((wq.setCells (w.heap.size + 1) 0 [.int .u8 0, .bool false, .int .i64 0, .string ⟨#[]⟩, .slice none 0 0, .slice none 0 0]).heap[w.heap.size + 1]? = some (.cells #[.int .u8 0, .bool false, .int .i64 0, .string ⟨#[]⟩, .slice none 0 0, .slice none 0 0] 26 (0, 0)) ∧ Below w.heap.size w (wq.setCells (w.heap.size + 1) 0 [.int .u8 0, .bool false, .int .i64 0, .string ⟨#[]⟩, .slice none 0 0, .slice none 0 0])) := ⟨Z6.put NQ.out.res _ _ _ _ _ _, below_setCells (by omega) _ _ NQ.out.below⟩
              obtain ⟨p0, p1, p2, p3, p4, p5⟩ := NQ.out.cur.cells
              clear NE NQ
              go_wp2
              rw [sets6]
              exact bodyPost_ret (v := .tuple #[.agg #[.int .u8 0, .bool false, .int .i64 0, .string ⟨#[]⟩, .slice none 0 0, .slice none 0 0], .bool false]) ((results_row_tmp (fn := Tryd.f11) (p := 4) (u := 5) (ty := 26) (by rfl) _ _ (w.heap.size + 1) 26 _ (0, 0) _ (by rfl) HE.out.1 Tryd.underlying26 rfl info26).trans (by rfl)) rfl ⟨rfl, HE.out.2⟩
            · obtain ⟨n0, n1', n2, n3, n4, n5, hn, hnr⟩ := NQ.out.nxt
              obtain ⟨k3, b3, n3', s3, a3, l3, e3, a4, l4, e4, rfl, rfl, rfl, rfl, rfl, rfl⟩ := rep_form hnr
              have HGS : Hid (GS w (wq.setCells w.heap.size 0 [.int .u8 (k3 : Int), .bool b3, .int .i64 n3', .string s3, .slice a3 l3 e3, .slice a4 l4 e4]) H x) := NX.on NQ.out (HSM.out x rfl) hnr
              have HGN : Hid (getV t ss = getV x (ss.drop (j + 1))) := HGO.out.symm.trans HGX.out
              obtain ⟨r0, r1, r2, r3, r4, r5⟩ := hn.cells
              obtain ⟨p0, p1, p2, p3, p4, p5⟩ := NQ.out.cur.cells
              have fz := NQ.out.cur.free
              have ltv := NQ.out.cur.1
              have ltn := hn.1
              clear NE NQ hn hnr
              go_wp2
              rw [sets6]
              go_roundw
              case rel => exact ⟨j + 1, x, by omega, by go_num, HGS.out, HGN.out⟩
              case measure => simp [intOf]; omega
      · by_cases h5 : k1 = 5
        · subst h5
          go_wp2
          clear p0 p1 p2 p3 p4 p5
          go_loopw [8, 48] (fun is i wr => ∃ (q : Nat) (o : Option V), q ≤ nl ∧ i = .int .i64 q ∧ is = .bool o.isSome ∧ o = nth m l1 q ∧ NX w wr H ⟨5, b1, n1, s1, l1, f1⟩ (.int .u8 5) (.bool b1) (.int .i64 n1) (.string s1) (.slice la nl lc) (.slice fa nf fc) B o) (fun _ i _ => nl - (intOf i).toNat)
          case atStart => exact ⟨0, none, Nat.zero_le _, rfl, rfl, by rw [nth_zero], N0.out⟩
          case round =>
            obtain ⟨q, oo, hq, rfl, rfl, hoo, hN⟩ := hrel
            have N : Hid (NX w wr H ⟨5, b1, n1, s1, l1, f1⟩ (.int .u8 5) (.bool b1) (.int .i64 n1) (.string s1) (.slice la nl lc) (.slice fa nf fc) B oo) := hN
            have HOO : Hid (oo = nth m l1 q) := hoo
            clear hN N0 hoo
            by_cases hlt2 : q < nl
            · have ha : q < l1.length := by rw [← HNL.out]; exact hlt2
              obtain ⟨gf, of, rfl, hgf, hrf⟩ := N.out.parts (by omega)
              obtain ⟨x, hx⟩ : ∃ x, l1[q]? = some x := ⟨_, List.getElem?_eq_getElem ha⟩
              obtain ⟨c0, c1, c2, c3, c4, c5, ⟨d0, d1, d2, d3, d4, d5⟩, hrx⟩ := repL_at l1 of hrf q x hx
              obtain ⟨yk, yb, yn, ys, yfa, yfl, yfc, yga, ygl, ygc, rfl, rfl, rfl, rfl, rfl, rfl⟩ := rep_form hrx
              have HLN : Hid (nth m l1 (q + 1) = if numT q = m then some x else nth m l1 q) := nth_next m l1 q x hx (by have := HLS.out; omega)
              have HRX : Hid (Rep wr H x (.agg #[.int .u8 (yk : Int), .bool yb, .int .i64 yn, .string ys, .slice yfa yfl yfc, .slice yga ygl ygc])) := hrx
              clear hrf hx hrx ha
              go_upto_region 17 with fail
              obtain ⟨w3, hw3⟩ : ∃ w3, w3 = wr.alloc (.cells #[.int .u8 (yk : Int), .bool yb, .int .i64 yn, .string ys, .slice yfa yfl yfc, .slice yga ygl ygc] 26) := ⟨_, rfl⟩
              obtain ⟨B3, hB3⟩ : ∃ B, B = wr.heap.size := ⟨_, rfl⟩
              have hb3 : Below wr.heap.size wr w3 := by rw [hw3]; exact below_new _ _
              have HBX : Hid (Row6 w3 B3 (.int .u8 (yk : Int)) (.bool yb) (.int .i64 yn) (.string ys) (.slice yfa yfl yfc) (.slice yga ygl ygc)) := by
                show Row6 _ _ _ _ _ _ _ _
                rw [hw3, hB3]; exact ⟨by simp, heap_alloc_new wr _⟩
              have N3 := N.out.call hb3
              have HRX3 : Hid (Rep w3 H x (.agg #[.int .u8 (yk : Int), .bool yb, .int .i64 yn, .string ys, .slice yfa yfl yfc, .slice yga ygl ygc])) := rep_stays (hb3.mono (by have := HH.out; have := N.out.below.size; omega)) (Nat.le_refl _) x _ HRX.out
              have N4 : Hid (NX w w3 H ⟨5, b1, n1, s1, l1, f1⟩ (.int .u8 5) (.bool b1) (.int .i64 n1) (.string s1) (.slice (some ⟨gf, of, none⟩) nl lc) (.slice fa nf fc) B oo) := N3
              rw [← hw3, ← hB3]
              clear hw3 hB3 hb3 N3 d0 d1 d2 d3 d4 d5 N HRX
              obtain ⟨y0, y1, y2, y3, y4, y5⟩ := HBX.out.cells
              go_wp2_with fail
              refine (number32 q (by omega) _).mono ?_
              rintro e w4 ⟨rfl, rfl⟩
              obtain ⟨nq, hnq⟩ : ∃ s, s = numT q := ⟨_, rfl⟩
              have HNQ : Hid (nq = numT q) := hnq
              rw [← hnq]
              clear hnq
              by_cases ham : nq = m
              · subst ham
                have HO2 : Hid (some x = nth nq l1 (q + 1)) := by
                  show _ = _
                  rw [HLN.out, if_pos HNQ.out.symm]
                have N5 : Hid (NX w (w4.setCells B 0 [.int .u8 (yk : Int), .bool yb, .int .i64 yn, .string ys, .slice yfa yfl yfc, .slice yga ygl ygc]) H ⟨5, b1, n1, s1, l1, f1⟩ (.int .u8 5) (.bool b1) (.int .i64 n1) (.string s1) (.slice (some ⟨gf, of, none⟩) nl lc) (.slice fa nf fc) B (some x)) := N4.out.put HRX3.out
                obtain ⟨e0, e1, e2, e3, e4, e5, he, _⟩ := N4.out.nxt
                obtain ⟨r0, r1, r2, r3, r4, r5⟩ := he.cells
                have fz := he.free
                have ltb := he.1
                clear he
                go_wp2
                rw [sets6]
                go_roundw
                case rel => first | exact ⟨q + 1, some x, by omega, by go_num, rfl, HO2.out, N5.out⟩ | ((repeat apply Exists.intro); exact ⟨⟨q + 1, some x, by omega, by go_num, rfl, HO2.out, N5.out⟩, rfl⟩)
                case measure => simp [intOf]; omega
              · have hane : (nq.toList == m.toList) = false := by
                  rw [Go.ByteArray.toList_eq, Go.ByteArray.toList_eq, beq_eq_false_iff_ne]
                  intro e
                  apply ham
                  cases nq; cases m
                  exact congrArg ByteArray.mk (Array.toList_inj.1 e)
                have HO2 : Hid (oo = nth m l1 (q + 1)) := by
                  show _ = _
                  rw [HLN.out, if_neg (fun e => ham (HNQ.out.trans e)), ← HOO.out]
                go_wp2
                go_roundw
                case rel => first | exact ⟨q + 1, oo, by omega, by go_num, rfl, HO2.out, N4.out⟩ | ((repeat apply Exists.intro); exact ⟨⟨q + 1, oo, by omega, by go_num, rfl, HO2.out, N4.out⟩, rfl⟩)
                case measure => simp [intOf]; omega
            · have hqn : q = nl := by omega
              have hoo : oo = ho := by
                rw [HOO.out, hqn, HNL.out, HOE.out, nth_all]
              subst hoo
              obtain ⟨wq, rfl⟩ : ∃ wq, wq = wr := ⟨_, rfl⟩
              have NE : Hid (NX w wq H ⟨5, b1, n1, s1, l1, f1⟩ (.int .u8 5) (.bool b1) (.int .i64 n1) (.string s1) (.slice la nl lc) (.slice fa nf fc) B oo) := N.out
              clear N HOO HOE
              have NQ : Hid (NX w wq H ⟨5, b1, n1, s1, l1, f1⟩ (.int .u8 5) (.bool b1) (.int .i64 n1) (.string s1) (.slice la nl lc) (.slice fa nf fc) B oo) := NE.out
              rcases oo with _ | x
              · have hgo : go = none := HGX.out
                subst hgo
                obtain ⟨q0, q1, q2, q3, q4, q5⟩ := Row6.cells NQ.out.res
                have fz := Row6.free NQ.out.res
                have lt2 := NQ.out.res.1
                have HE : Hid ((wq.setCells (w.heap.size + 1) 0 [.int .u8 0, .bool false, .int .i64 0, .string ⟨#[]⟩, .slice none 0 0, .slice none 0 0]).heap[w.heap.size + 1]? = some (.cells #[.int .u8 0, .bool false, .int .i64 0, .string ⟨#[]⟩, .slice none 0 0, .slice none 0 0] 26 (0, 0)) ∧ Below w.heap.size w (wq.setCells (w.heap.size + 1) 0 [.int .u8 0, .bool false, .int .i64 0, .string ⟨#[]⟩, .slice none 0 0, .slice none 0 0])) := ⟨Z6.put NQ.out.res _ _ _ _ _ _, below_setCells (by omega) _ _ NQ.out.below⟩
                obtain ⟨p0, p1, p2, p3, p4, p5⟩ := NQ.out.cur.cells
                clear NE NQ
                go_wp2
                rw [sets6]
                exact bodyPost_ret (v := .tuple #[.agg #[.int .u8 0, .bool false, .int .i64 0, .string ⟨#[]⟩, .slice none 0 0, .slice none 0 0], .bool false]) ((results_row_tmp (fn := Tryd.f11) (p := 4) (u := 5) (ty := 26) (by rfl) _ _ (w.heap.size + 1) 26 _ (0, 0) _ (by rfl) HE.out.1 Tryd.underlying26 rfl info26).trans (by rfl)) rfl ⟨rfl, HE.out.2⟩
              · obtain ⟨n0, n1', n2, n3, n4, n5, hn, hnr⟩ := NQ.out.nxt
                obtain ⟨k3, b3, n3', s3, a3, l3, e3, a4, l4, e4, rfl, rfl, rfl, rfl, rfl, rfl⟩ := rep_form hnr
                have HGS : Hid (GS w (wq.setCells w.heap.size 0 [.int .u8 (k3 : Int), .bool b3, .int .i64 n3', .string s3, .slice a3 l3 e3, .slice a4 l4 e4]) H x) := NX.on NQ.out (HSM.out x rfl) hnr
                have HGN : Hid (getV t ss = getV x (ss.drop (j + 1))) := HGO.out.symm.trans HGX.out
                obtain ⟨r0, r1, r2, r3, r4, r5⟩ := hn.cells
                obtain ⟨p0, p1, p2, p3, p4, p5⟩ := NQ.out.cur.cells
                have fz := NQ.out.cur.free
                have ltv := NQ.out.cur.1
                have ltn := hn.1
                clear NE NQ hn hnr
                go_wp2
                rw [sets6]
                go_roundw
                case rel => exact ⟨j + 1, x, by omega, by go_num, HGS.out, HGN.out⟩
                case measure => simp [intOf]; omega
        · have h6' : ¬ ((k1 : Int) = 6) := by omega
          have h5' : ¬ ((k1 : Int) = 5) := by omega
          have hho : ho = none := by rw [HOE.out, stepV, if_neg h5, if_neg h6]
          subst hho
          obtain ⟨wq, rfl⟩ : ∃ wq, wq = w2 := ⟨_, rfl⟩
          have hgo : go = none := HGX.out
          subst hgo
          obtain ⟨q0, q1, q2, q3, q4, q5⟩ := Row6.cells N0.out.res
          have fz := Row6.free N0.out.res
          have lt2 := N0.out.res.1
          have HE : Hid ((wq.setCells (w.heap.size + 1) 0 [.int .u8 0, .bool false, .int .i64 0, .string ⟨#[]⟩, .slice none 0 0, .slice none 0 0]).heap[w.heap.size + 1]? = some (.cells #[.int .u8 0, .bool false, .int .i64 0, .string ⟨#[]⟩, .slice none 0 0, .slice none 0 0] 26 (0, 0)) ∧ Below w.heap.size w (wq.setCells (w.heap.size + 1) 0 [.int .u8 0, .bool false, .int .i64 0, .string ⟨#[]⟩, .slice none 0 0, .slice none 0 0])) := ⟨Z6.put N0.out.res _ _ _ _ _ _, below_setCells (by omega) _ _ N0.out.below⟩
          clear N0
          go_wp2
          rw [sets6]
          exact bodyPost_ret (v := .tuple #[.agg #[.int .u8 0, .bool false, .int .i64 0, .string ⟨#[]⟩, .slice none 0 0, .slice none 0 0], .bool false]) ((results_row_tmp (fn := Tryd.f11) (p := 4) (u := 5) (ty := 26) (by rfl) _ _ (w.heap.size + 1) 26 _ (0, 0) _ (by rfl) HE.out.1 Tryd.underlying26 rfl info26).trans (by rfl)) rfl ⟨rfl, HE.out.2⟩
    · have hj' : j = np := by omega
      subst hj'
      have hgo : go = some t' := by rw [HGO.out, HV.out, HNP.out, List.drop_length, getV]
      subst hgo
      obtain ⟨k1, b1, n1, s1, a1, l1, e1, a2, l2, e2, rfl, rfl, rfl, rfl, rfl, rfl⟩ := rep_form hrep
      obtain ⟨p0, p1, p2, p3, p4, p5⟩ := hrow.cells
      have C9 : Hid (Calls Tryd.prog 9 #[.agg #[.int .u8 (k1 : Int), .bool b1, .int .i64 n1, .string s1, .slice a1 l1 e1, .slice a2 l2 e2]] wr fun e w' => ∃ v', e = .returned v' ∧ Below wr.heap.size wr w' ∧ RepA w' (fun g => wr.heap.size ≤ g ∧ g < w'.heap.size) t' v') := copy9 _ t' (Nat.le_refl _) hsm wr H _ (by have := hB.size; have := HH.out; omega) hrep
      have HZB : Hid (Z6 wr (w.heap.size + 1) ∧ Below w.heap.size w wr) := ⟨hZ, hB⟩
      clear hB hZ hsm hrow hrep hgv HG HV HGO HP
      go_wp2_with fail
      refine C9.out.mono ?_
      rintro e w2 ⟨v', rfl, hb2, hr2⟩
      obtain ⟨k3, b3, n3, s3, a3, l3, e3, a4, l4, e4, hv'⟩ := repA_form hr2
      subst hv'
      have Z2 := HZB.out.1.call hb2
      obtain ⟨q0, q1, q2, q3, q4, q5⟩ := Row6.cells Z2
      have fz := Row6.free Z2
      have lt2 := Z2.1
      obtain ⟨a1', a2', a3'⟩ := answer_own Z2 (HZB.out.2.trans (hb2.mono HZB.out.2.size)) (repA_stays (fun _ _ => rfl) (fun g hg => ⟨by have := HZB.out.1.1; omega, hg.2⟩) t' _ hr2)
      have HA1 : Hid _ := a1'
      have HA2 : Hid _ := a2'
      have HA3 : Hid _ := a3'
      clear hb2 hr2 Z2 p0 p1 p2 p3 p4 p5 a1' a2' a3'
      go_wp2
      rw [sets6]
      exact bodyPost_ret (v := .tuple #[.agg #[.int .u8 (k3 : Int), .bool b3, .int .i64 n3, .string s3, .slice a3 l3 e3, .slice a4 l4 e4], .bool true]) ((results_row_tmp (fn := Tryd.f11) (p := 4) (u := 5) (ty := 26) (by rfl) _ _ (w.heap.size + 1) 26 _ (0, 0) _ (by rfl) HA1.out Tryd.underlying26 rfl info26).trans (by rfl)) rfl ⟨⟨_, rfl, repA_rep (fun g hg => hg.2) _ _ HA3.out⟩, HA2.out⟩
end Go.Proofs.YtbogggnnmbjlfaaDoor
