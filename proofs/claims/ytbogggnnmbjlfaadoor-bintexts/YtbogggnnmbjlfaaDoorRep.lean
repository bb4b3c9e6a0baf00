/- How a value lies in memory: six cells, its list and its fields as rows in blocks below a bound; what stays of it when new blocks come. -/
import Derived.Test.YtbogggnnmbjlfaaDoorMath
import Derived.Test.YtbogggnnmbjlfaaDoorProg
import Derived.ProofKit
import Derived.OpenShut
import Derived.Deep.RegionHeld3
import Derived.Deep.MidRow
import Derived.Deep.DrawnRows
import Derived.LoopTactic
import Derived.WalkSpells
import Derived.BigRegion
namespace Go.Proofs.YtbogggnnmbjlfaaDoor
open Go.RowKit
open Vl (V)
/-- six cells that lie in a row -/
def Six (w : World) (g o : Nat) (c0 c1 c2 c3 c4 c5 : Value) : Prop :=
  w.cell? ⟨g, o, none⟩ = some c0 ∧ w.cell? ⟨g, o + 1, none⟩ = some c1 ∧ w.cell? ⟨g, o + 2, none⟩ = some c2 ∧ w.cell? ⟨g, o + 3, none⟩ = some c3 ∧ w.cell? ⟨g, o + 4, none⟩ = some c4 ∧ w.cell? ⟨g, o + 5, none⟩ = some c5
mutual
/-- a value as its six cells are -/
def Rep (w : World) (H : Nat) : V → Value → Prop
  | ⟨k, b, n, s, l, f⟩, v => ∃ (ao : Option Addr) (lc : Nat) (fo : Option Addr) (fc : Nat),
      v = .agg #[.int .u8 (k : Int), .bool b, .int .i64 n, .string s, .slice ao l.length lc, .slice fo f.length fc] ∧
      k < 256 ∧ (-9223372036854775808 ≤ n ∧ n < 9223372036854775808) ∧ s.size ≤ maxLen ∧ l.length ≤ maxLen ∧ f.length ≤ maxLen ∧
      (0 < l.length → ∃ g o, ao = some ⟨g, o, none⟩ ∧ g < H ∧ RepL w H g o l) ∧
      (0 < f.length → ∃ g o, fo = some ⟨g, o, none⟩ ∧ g < H ∧ RepF w H g o f)
/-- the parts of a list from a place on -/
def RepL (w : World) (H g : Nat) : Nat → List V → Prop
  | _, [] => True
  | o, x :: r => (∃ c0 c1 c2 c3 c4 c5, Six w g o c0 c1 c2 c3 c4 c5 ∧ Rep w H x (.agg #[c0, c1, c2, c3, c4, c5])) ∧ RepL w H g (o + 6) r
/-- fields from a place on: the name, and the value behind it -/
def RepF (w : World) (H g : Nat) : Nat → List (ByteArray × V) → Prop
  | _, [] => True
  | o, (m, x) :: r => (w.cell? ⟨g, o, none⟩ = some (.string m) ∧ m.size ≤ maxLen ∧ ∃ c0 c1 c2 c3 c4 c5, Six w g (o + 1) c0 c1 c2 c3 c4 c5 ∧ Rep w H x (.agg #[c0, c1, c2, c3, c4, c5])) ∧ RepF w H g (o + 7) r
end
theorem Six.stays {w w' : World} {H g o : Nat} {c0 c1 c2 c3 c4 c5 : Value} (hb : Below H w w') (hg : g < H) (h : Six w g o c0 c1 c2 c3 c4 c5) : Six w' g o c0 c1 c2 c3 c4 c5 := by
  obtain ⟨h0, h1, h2, h3, h4, h5⟩ := h
  exact ⟨(hb.cell (p := ⟨g, o, none⟩) hg).trans h0, (hb.cell (p := ⟨g, o + 1, none⟩) hg).trans h1, (hb.cell (p := ⟨g, o + 2, none⟩) hg).trans h2, (hb.cell (p := ⟨g, o + 3, none⟩) hg).trans h3, (hb.cell (p := ⟨g, o + 4, none⟩) hg).trans h4, (hb.cell (p := ⟨g, o + 5, none⟩) hg).trans h5⟩
mutual
theorem rep_stays {w w' : World} {H K : Nat} (hb : Below H w w') (hK : H ≤ K) : ∀ (t : V) (v : Value), Rep w H t v → Rep w' K t v
  | ⟨k, b, n, s, l, f⟩, v, h => by
    rw [Rep] at h ⊢
    obtain ⟨ao, lc, fo, fc, h1, h2, h3, h4, h5, h6, h7, h8⟩ := h
    refine ⟨ao, lc, fo, fc, h1, h2, h3, h4, h5, h6, fun hp => ?_, fun hp => ?_⟩
    · obtain ⟨g, o, e, hg, hr⟩ := h7 hp
      exact ⟨g, o, e, by omega, repL_stays hb hK hg l o hr⟩
    · obtain ⟨g, o, e, hg, hr⟩ := h8 hp
      exact ⟨g, o, e, by omega, repF_stays hb hK hg f o hr⟩
theorem repL_stays {w w' : World} {H K g : Nat} (hb : Below H w w') (hK : H ≤ K) (hg : g < H) : ∀ (l : List V) (o : Nat), RepL w H g o l → RepL w' K g o l
  | [], _, _ => by rw [RepL]; trivial
  | x :: r, o, h => by
    rw [RepL] at h ⊢
    obtain ⟨⟨c0, c1, c2, c3, c4, c5, h1, h2⟩, h3⟩ := h
    exact ⟨⟨c0, c1, c2, c3, c4, c5, h1.stays hb hg, rep_stays hb hK x _ h2⟩, repL_stays hb hK hg r _ h3⟩
theorem repF_stays {w w' : World} {H K g : Nat} (hb : Below H w w') (hK : H ≤ K) (hg : g < H) : ∀ (l : List (ByteArray × V)) (o : Nat), RepF w H g o l → RepF w' K g o l
  | [], _, _ => by rw [RepF]; trivial
  | (m, x) :: r, o, h => by
    rw [RepF] at h ⊢
    obtain ⟨⟨h0, hm, c0, c1, c2, c3, c4, c5, h1, h2⟩, h3⟩ := h
    exact ⟨⟨(hb.cell (p := ⟨g, o, none⟩) hg).trans h0, hm, c0, c1, c2, c3, c4, c5, h1.stays hb hg, rep_stays hb hK x _ h2⟩, repF_stays hb hK hg r _ h3⟩
end
/-- one part of a list -/
theorem repL_at {w : World} {H g : Nat} : ∀ (l : List V) (o : Nat), RepL w H g o l → ∀ (j : Nat) (x : V), l[j]? = some x →
    ∃ c0 c1 c2 c3 c4 c5, Six w g (o + j * 6) c0 c1 c2 c3 c4 c5 ∧ Rep w H x (.agg #[c0, c1, c2, c3, c4, c5])
  | [], _, _, j, x, e => by simp at e
  | y :: r, o, h, 0, x, e => by
    rw [RepL] at h
    simp only [List.getElem?_cons_zero, Option.some.injEq] at e
    subst e
    simpa using h.1
  | y :: r, o, h, j + 1, x, e => by
    rw [RepL] at h
    have := repL_at r (o + 6) h.2 j x (by simpa using e)
    rw [show o + 6 + j * 6 = o + (j + 1) * 6 by omega] at this
    exact this
theorem repF_at {w : World} {H g : Nat} : ∀ (l : List (ByteArray × V)) (o : Nat), RepF w H g o l → ∀ (j : Nat) (m : ByteArray) (x : V), l[j]? = some (m, x) →
    w.cell? ⟨g, o + j * 7, none⟩ = some (.string m) ∧ m.size ≤ maxLen ∧ ∃ c0 c1 c2 c3 c4 c5, Six w g (o + j * 7 + 1) c0 c1 c2 c3 c4 c5 ∧ Rep w H x (.agg #[c0, c1, c2, c3, c4, c5])
  | [], _, _, j, m, x, e => by simp at e
  | (m', y) :: r, o, h, 0, m, x, e => by
    rw [RepF] at h
    simp only [List.getElem?_cons_zero, Option.some.injEq, Prod.mk.injEq] at e
    obtain ⟨rfl, rfl⟩ := e
    simpa using h.1
  | (m', y) :: r, o, h, j + 1, m, x, e => by
    rw [RepF] at h
    have := repF_at r (o + 7) h.2 j m x (by simpa using e)
    rw [show o + 7 + j * 7 = o + (j + 1) * 7 by omega] at this
    exact this
/-- a list that lies, made of its parts -/
theorem repL_mk {w : World} {H g : Nat} : ∀ (l : List V) (o : Nat), (∀ (j : Nat) (x : V), l[j]? = some x → ∃ c0 c1 c2 c3 c4 c5, Six w g (o + j * 6) c0 c1 c2 c3 c4 c5 ∧ Rep w H x (.agg #[c0, c1, c2, c3, c4, c5])) → RepL w H g o l
  | [], _, _ => by rw [RepL]; trivial
  | y :: r, o, h => by
    rw [RepL]
    refine ⟨by simpa using h 0 y rfl, repL_mk r (o + 6) fun j x e => ?_⟩
    have := h (j + 1) x (by simpa using e)
    rw [show o + (j + 1) * 6 = o + 6 + j * 6 by omega] at this
    exact this
theorem repF_mk {w : World} {H g : Nat} : ∀ (l : List (ByteArray × V)) (o : Nat), (∀ (j : Nat) (m : ByteArray) (x : V), l[j]? = some (m, x) →
    w.cell? ⟨g, o + j * 7, none⟩ = some (.string m) ∧ m.size ≤ maxLen ∧ ∃ c0 c1 c2 c3 c4 c5, Six w g (o + j * 7 + 1) c0 c1 c2 c3 c4 c5 ∧ Rep w H x (.agg #[c0, c1, c2, c3, c4, c5])) → RepF w H g o l
  | [], _, _ => by rw [RepF]; trivial
  | (m, y) :: r, o, h => by
    rw [RepF]
    refine ⟨by simpa using h 0 m y rfl, repF_mk r (o + 7) fun j m' x e => ?_⟩
    have := h (j + 1) m' x (by simpa using e)
    rw [show o + (j + 1) * 7 = o + 7 + j * 7 by omega] at this
    exact this
/-- what the six cells are -/
theorem rep_form {w : World} {H : Nat} {x : V} {c0 c1 c2 c3 c4 c5 : Value} (h : Rep w H x (.agg #[c0, c1, c2, c3, c4, c5])) :
    ∃ (k : Nat) (b : Bool) (n : Int) (s : ByteArray) (ao : Option Addr) (ll lc : Nat) (fo : Option Addr) (fl fc : Nat), c0 = .int .u8 (k : Int) ∧ c1 = .bool b ∧ c2 = .int .i64 n ∧ c3 = .string s ∧ c4 = .slice ao ll lc ∧ c5 = .slice fo fl fc := by
  obtain ⟨k, b, n, s, l, f⟩ := x
  rw [Rep] at h
  obtain ⟨ao, lc, fo, fc, h1, _⟩ := h
  simp only [Value.agg.injEq, Array.mk.injEq, List.cons.injEq, and_true] at h1
  obtain ⟨e0, e1, e2, e3, e4, e5⟩ := h1
  exact ⟨k, b, n, s, ao, l.length, lc, fo, f.length, fc, e0, e1, e2, e3, e4, e5⟩
end Go.Proofs.YtbogggnnmbjlfaaDoor
