/- LexJoins, walked. -/
import Derived.Test.YtdejnphiejkglaaGreatDoorLxY
namespace Go.Proofs.YtdejnphiejkglaaGreatDoor
open Go.RowKit
/-- the tokens of both texts, and of the joined one -/
structure JS (w W : World) (B1 B2 B3 : Nat) (lv mv kv : Value) (ts us ks : List Lx.Tk) : Prop where
  below : Below w.heap.size w W
  sz : B3 ≤ W.heap.size
  l : W.ownsRow B1 24 4 lv ts.length (Lx.tcs ts)
  m : W.ownsRow B2 24 4 mv us.length (Lx.tcs us)
  k : W.ownsRow B3 24 4 kv ks.length (Lx.tcs ks)
theorem JS.set {w W : World} {B1 B2 B3 g cap j p : Nat} {lv kv : Value} {ts us ks : List Lx.Tk} {t : Lx.Tk} {n : Nat} (h : JS w W B1 B2 B3 lv (.slice (some ⟨g, 0, none⟩) n cap) kv ts us ks) (hn : n = us.length) (ht : us[j]? = some t) (hw : w.heap.size ≤ g) (hl : some g ≠ lv.ownBlock) (hk : some g ≠ kv.ownBlock) :
    JS w (W.setCell ⟨g, j * 4 + 3, none⟩ (.int .i64 (p : Int))) B1 B2 B3 lv (.slice (some ⟨g, 0, none⟩) n cap) kv ts (us.set j ⟨t.kind, t.text, t.n, p⟩) ks := by
  subst hn
  refine ⟨h.below.setCell hw _, by simpa [World.setCell] using h.sz, own_setL h.l hl, ?_, own_setL h.k hk⟩
  rw [List.length_set, Lx.tcs_set us j t p ht]
  exact own_stored h.m
theorem Lx.cat (a b : Lx.Bs) : (Lx.bs a ++ { data := #[32] } ++ Lx.bs b : ByteArray) = Lx.bs (a ++ 32 :: b) := by
  apply ByteArray.ext
  simp [Lx.bs, ByteArray.data_append]
theorem cat_run (x y : ByteArray) (h : x.size + y.size ≤ 9223372036854775807) (w : World) : (binOp .add 9 (.string x) (.string y)).run Tryz.prog w = .ok (.string (x ++ y)) w := by
  have h1 := run_string_add_sum (P := Tryz.prog) w x y h
  simp [binOp, h1]
theorem Lx.arE {a b : Nat} {na nb : Int} (ha : na = (a : Int)) (hb : nb = (b : Int)) (h1 : a ≤ 140737488351232) (h2 : b ≤ 140737488351232) : wrap64 (na + nb) = ((a + b : Nat) : Int) := by unfold wrap64; omega
theorem Lx.arF {a p : Nat} {na : Int} (ha : na = (a : Int)) (h1 : a ≤ 16384) (hp : p ≤ 16384) : wrap64 (wrap64 ((p : Int) + na) + 1) = ((p + (a + 1) : Nat) : Int) := by unfold wrap64; omega
theorem Lx.arG {a : Nat} {na : Int} (ha : na = (a : Int)) (h1 : a ≤ 16384) : wrap64 (na + 1) = ((a + 1 : Nat) : Int) := by unfold wrap64; omega
theorem Lx.arH {a p : Nat} (h1 : a ≤ 16384) (hp : p ≤ 16384) : wrap64 ((p : Int) + ((a + 1 : Nat) : Int)) = ((p + (a + 1) : Nat) : Int) := by unfold wrap64; omega
end Go.Proofs.YtdejnphiejkglaaGreatDoor
