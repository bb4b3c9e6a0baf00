/- Several texts, joined: MkC, MkD, MkE -/
import Derived.Test.YtlafdlcpelkdpaaGreatDoorJIM
import Derived.Test.YtlafdlcpelkdpaaGreatDoorShelf
import Derived.Shelf.SlicesE.Kit
import Derived.Lib.OwnBridge
import Derived.Deep.AppendLies
import Derived.Deep.RegionLaw
import Derived.Deep.CutRange
/- The greatest power of 2 below a number; the turns to a text, and to what was there. -/
namespace Go.Proofs.YtlafdlcpelkdpaaGreatDoor
open Go.RowKit
theorem bitLen_log : ∀ x : Fin 1024, x.val = 0 ∨ Lib.bitLen x.val = Nat.log2 x.val + 1 := by decide +kernel
theorem log_le : ∀ x : Fin 1024, Nat.log2 x.val ≤ 9 := by decide +kernel
theorem pow_wrap : ∀ k : Fin 10, wrap64 ((2 : Int) ^ k.val) = ((2 ^ k.val : Nat) : Int) := by decide +kernel
set_option maxHeartbeats 1000000 in
theorem half_c (n : Nat) (h2 : 2 ≤ n) (hn : n ≤ 1024) (w : World) :
    Calls Tryz.prog 101 #[.int .i64 (n : Int)] w fun e w' => e = .returned (.int .i64 ((Mk.half n : Nat) : Int)) ∧ w = w' := by
  obtain ⟨k, hk⟩ : ∃ k, k = Nat.log2 (n - 1) := ⟨_, rfl⟩
  have hk9 : k ≤ 9 := by rw [hk]; exact log_le ⟨n - 1, by omega⟩
  have hb : Lib.bitLen (n - 1) = k + 1 := by
    have := bitLen_log ⟨n - 1, by omega⟩
    rw [hk]; rcases this with h | h
    · simp at h; omega
    · exact h
  have C : Hid (∀ W, Calls Tryz.prog 110 #[.int .u64 ((n : Int) - 1)] W fun e w' => e = .returned (.int .i64 ((k : Int) + 1)) ∧ W = w') := fun W =>
    (Tryz.bits_Len ((n : Int) - 1) W (by omega) (by omega)).mono (fun e w' h => by
      rw [show ((n : Int) - 1).toNat = n - 1 by omega, hb] at h
      exact ⟨h.1.trans (by simp), h.2.symm⟩)
  have HH : Hid (Mk.half n = 2 ^ k) := by show _ = _; rw [Mk.half, hk]
  clear hk hb
  go_enter Tryz.func101, Tryz.ntmps101
  go_wp2_with fail
  refine (C.out _).mono ?_
  rintro e w1 ⟨rfl, rfl⟩
  go_wp2
  go_ret
  refine ⟨?_, rfl⟩
  rw [HH.out]
  exact congrArg (fun z => Ending.returned (.int .i64 z)) (pow_wrap ⟨k, by omega⟩)
/-- cells of turns -/
def bcs (l : List Bool) : List Value := l.map Value.bool
theorem bcs_length (l : List Bool) : (bcs l).length = l.length := by simp [bcs]
theorem info4 : (Tryz.prog.info? 4).map (fun i => (i.zero, i.size, i.bytes)) = some (some (.bool false), 1, 1) := by kernel_rfl
theorem own_le {w : World} {base n t sz : Nat} {v : Value} {xs : List Value} (h : w.ownsRow base t sz v n xs) : ∀ k, v.ownBlock = some k → base ≤ k := by
  intro k hk
  rcases h.2 with ⟨rfl, _⟩ | ⟨g, cap, cur, rfl, hg, _⟩
  · simp [Value.ownBlock] at hk
  · simp [Value.ownBlock] at hk; omega
/-- turns that are owned, as turns in a row -/
theorem own_bl {w : World} {base : Nat} {v : Value} {l : List Bool} (h : w.ownsRow base 4 1 v l.length (bcs l)) : Bl w w.heap.size v l := by
  rcases h.2 with ⟨rfl, h2⟩ | ⟨g, cap, cur, rfl, hg, hc, h3, h4, h5, h6⟩
  · exact ⟨.inl ⟨List.eq_nil_of_length_eq_zero h2, none, 0, rfl⟩, fun ad n c e => by cases e⟩
  · refine ⟨.inr ⟨g, 0, cap, rfl, (Array.getElem?_eq_some_iff.1 hc).1, fun k x hk => ?_⟩, fun ad n c e => ⟨g, 0, by injection e with e; injection e with e; exact e.symm⟩⟩
    have hkl := (List.getElem?_eq_some_iff.1 hk).1
    rw [Nat.zero_add, h.cellAt k (by omega)]
    simp [bcs, hk]
end Go.Proofs.YtlafdlcpelkdpaaGreatDoor
/- Rows that are turned round; turns in the order in which digests are put together. -/
namespace Go.Proofs.YtlafdlcpelkdpaaGreatDoor
open Go.RowKit
open Go.Sort (Holds putRow)
/-- a row that is owned is turned round -/
theorem rev_own {α : Type} [Inhabited α] (enc : α → Value) (F : Nat)
    (hrev : ∀ (blk off cap : Nat) (zs : List α) (w : World), Holds enc w blk off zs.toArray → zs.length ≤ 9223372036854775807 → Calls Tryz.prog F #[.slice (some ⟨blk, off, none⟩) zs.length cap] w fun e w' => e = .returned (.tuple #[]) ∧ ∃ n, w' = putRow enc (Sort.ahead w n) blk off zs.reverse.toArray)
    (hemp : ∀ (a : Option Addr) (cap : Nat) (w : World), Calls Tryz.prog F #[.slice a 0 cap] w fun e w' => e = .returned (.tuple #[]) ∧ w' = w)
    (base t : Nat) (v : Value) (zs : List α) (w : World) (hz : zs.length ≤ 9223372036854775807) (h : w.ownsRow base t 1 v zs.length (zs.map enc)) :
    Calls Tryz.prog F #[v] w fun e w' => e = .returned (.tuple #[]) ∧ w'.ownsRow base t 1 v zs.length (zs.reverse.map enc) ∧ Below base w w' := by
  have h0 := h
  rcases h.2 with ⟨rfl, h2⟩ | ⟨g, cap, cur, rfl, hg, hc, h3, h4, h5, h6⟩
  · have e : zs = [] := List.eq_nil_of_length_eq_zero h2
    subst e
    refine (hemp none 0 w).mono fun e w' ⟨a, b⟩ => ?_
    subst b
    exact ⟨a, h0, Below.refl _ _⟩
  · have hH : Holds enc w g 0 zs.toArray := by
      intro j hj
      have hj' : j < zs.length := by simpa using hj
      refine ⟨?_, ?_⟩
      · rw [Nat.zero_add, h.cellAt j (by omega), List.getElem?_map, List.getElem?_eq_getElem hj']
        simp [hj']
      · rw [Nat.zero_add]; exact h.frozenAt j
    refine (hrev g 0 cap zs w hH hz).mono fun e w' ⟨a, q, b⟩ => ?_
    subst b
    refine ⟨a, ?_, Lib.below_putRow (Below.refl _ _) hg⟩
    have := Lib.ownsRow_putRow (q := q) (k := zs.length) (ys := zs.reverse) h (by simp) (Nat.le_refl _)
    rwa [List.take_of_length_le (by simp)] at this
theorem oneB : Go.Proofs.OneCell Value.bool := fun _ => rfl
/-- cells of texts -/
def scs (l : List (List UInt8)) : List Value := l.map encS
theorem scs_length (l : List (List UInt8)) : (scs l).length = l.length := by simp [scs]
theorem oneS : Go.Proofs.OneCell encS := fun _ => rfl
theorem own_sl {w : World} {base : Nat} {v : Value} {l : List (List UInt8)} (h : w.ownsRow base 9 1 v l.length (scs l)) : Sl w w.heap.size v l := by
  rcases h.2 with ⟨rfl, h2⟩ | ⟨g, cap, cur, rfl, hg, hc, h3, h4, h5, h6⟩
  · exact .inl ⟨List.eq_nil_of_length_eq_zero h2, none, 0, rfl⟩
  · refine .inr ⟨g, 0, cap, rfl, (Array.getElem?_eq_some_iff.1 hc).1, fun k x hk => ?_⟩
    have hkl := (List.getElem?_eq_some_iff.1 hk).1
    rw [Nat.zero_add, h.cellAt k (by omega)]
    simp [scs, hk]
/-- a row that is owned stays as it is where nothing below has turned -/
theorem own_stays {w w' : World} {base t sz n : Nat} {v : Value} {xs : List Value} (h : w.ownsRow base t sz v n xs) (hb : Below w.heap.size w w') : w'.ownsRow base t sz v n xs := by
  refine ⟨h.1, ?_⟩
  rcases h.2 with h2 | ⟨g, cap, cur, h1, hg, hc, h3⟩
  · exact .inl h2
  · exact .inr ⟨g, cap, cur, h1, hg, (hb.block g (Array.getElem?_eq_some_iff.1 hc).1).trans hc, h3⟩
end Go.Proofs.YtlafdlcpelkdpaaGreatDoor
/- What a text and its path make, from the leaf up. -/
namespace Go.Proofs.YtlafdlcpelkdpaaGreatDoor
open Go.RowKit
attribute [local go_sem ↓] Go.wp_at_zero Go.wp_at_succ
namespace Mk
/-- the last text of a chain -/
def lastT (t : Bs) : List Bool → List Bs → Bs
  | b :: bs, p :: ps => lastT (jt (Sh.sum t) p b) bs ps
  | _, _ => t
theorem climb_last (bs : List Bool) : ∀ (ps : List Bs) (t : Bs), climb (Sh.sum t) bs ps = Sh.sum (lastT t bs ps) := by
  induction bs with
  | nil => intro ps t; rfl
  | cons b bs ih => intro ps t; cases ps with
    | nil => rfl
    | cons p ps => exact ih ps _
theorem chainT_length (bs : List Bool) : ∀ (ps : List Bs) (t : Bs), bs.length = ps.length → (chainT t bs ps).length = bs.length + 1 := by
  induction bs with
  | nil => intro ps t _; rfl
  | cons b bs ih => intro ps t h; cases ps with
    | nil => simp at h
    | cons p ps => simp only [chainT, List.length_cons]; rw [ih ps _ (by simpa using h)]
theorem chainT_last (bs : List Bool) : ∀ (ps : List Bs) (t : Bs), bs.length = ps.length → (chainT t bs ps)[bs.length]? = some (lastT t bs ps) := by
  induction bs with
  | nil => intro ps t _; rfl
  | cons b bs ih => intro ps t h; cases ps with
    | nil => simp at h
    | cons p ps => simp only [chainT, List.length_cons, List.getElem?_cons_succ]; exact ih ps _ (by simpa using h)
theorem chainT_snoc (bs : List Bool) : ∀ (ps : List Bs) (t : Bs) (b : Bool) (p : Bs), bs.length = ps.length → chainT t (bs ++ [b]) (ps ++ [p]) = chainT t bs ps ++ [jt (Sh.sum (lastT t bs ps)) p b] := by
  induction bs with
  | nil => intro ps t b p h; cases ps with
    | nil => rfl
    | cons => simp at h
  | cons c bs ih => intro ps t b p h; cases ps with
    | nil => simp at h
    | cons q ps => simp only [List.cons_append, chainT, lastT]; rw [ih ps _ b p (by simpa using h)]
end Mk
/-- cells of texts and their digests -/
def mcs (l : List (List UInt8)) : List Value := l.flatMap fun t => [.string (bs t), .string (bs (Sh.sum t))]
theorem mcs_length (l : List (List UInt8)) : (mcs l).length = l.length * 2 := by
  induction l with
  | nil => rfl
  | cons x l ih => simp only [mcs, List.flatMap_cons, List.length_append, List.length_cons, List.length_nil] at *; omega
theorem mcs_app (a b : List (List UInt8)) : mcs (a ++ b) = mcs a ++ mcs b := by simp [mcs]
theorem mcs_at (l : List (List UInt8)) : ∀ (j : Nat) (t : List UInt8), l[j]? = some t → (mcs l)[j * 2]? = some (.string (bs t)) ∧ (mcs l)[j * 2 + 1]? = some (.string (bs (Sh.sum t))) := by
  induction l with
  | nil => intro j t h; simp at h
  | cons x l ih =>
    intro j t h
    cases j with
    | zero => simp at h; subst h; exact ⟨rfl, rfl⟩
    | succ j =>
      have := ih j t (by simpa using h)
      have e : mcs (x :: l) = .string (bs x) :: .string (bs (Sh.sum x)) :: mcs l := rfl
      rw [e, show (j + 1) * 2 = j * 2 + 1 + 1 by omega, show j * 2 + 1 + 1 + 1 = (j * 2 + 1) + 1 + 1 by omega]
      simpa only [List.getElem?_cons_succ] using this
theorem info_made' : (Tryz.prog.info? 174).map (fun i => (i.zero, i.size, i.bytes)) = some (some (.agg #[.string ⟨#[]⟩, .string ⟨#[]⟩]), 2, 32) := by kernel_rfl
/-- the first text and its digest in a block of their own -/
theorem own_first (w : World) (t d : Value) : (w.alloc (.cells #[t, d] 174)).ownsRow w.heap.size 174 2 (.slice (some ⟨w.heap.size, 0, none⟩) 1 1) 1 [t, d] :=
  ⟨rfl, .inr ⟨w.heap.size, 1, #[t, d], rfl, Nat.le_refl _, heap_alloc_new w _, Nat.le_refl _, by decide, rfl, rfl⟩⟩
theorem own_mono {w : World} {base base' t sz n : Nat} {v : Value} {xs : List Value} (h : w.ownsRow base t sz v n xs) (hb : base' ≤ base) : w.ownsRow base' t sz v n xs := by
  refine ⟨h.1, ?_⟩
  rcases h.2 with h2 | ⟨g, cap, cur, h1, hg, h3⟩
  · exact .inl h2
  · exact .inr ⟨g, cap, cur, h1, by omega, h3⟩
/-- a row that is not the one that grows stays as it is -/
theorem row_grown {W W' : World} {H b o c n : Nat} {l : List Bool} {row : Option Nat} (h : Bl W H (.slice (some ⟨b, o, none⟩) n c) l) (hH : H ≤ W.heap.size) (hg : W.grownBy W' row) (hne : some b ≠ row) : Bl W' W'.heap.size (.slice (some ⟨b, o, none⟩) n c) l := by
  refine ⟨?_, h.2⟩
  rcases h.1 with h | ⟨b', o', c', h1, h2, h3⟩
  · exact .inl h
  · injection h1 with e1 e2 e3
    injection e1 with e1
    injection e1 with e4 e5
    subst e4 e5 e2 e3
    exact .inr ⟨b, o, c, rfl, Nat.lt_of_lt_of_le (by omega) hg.size, fun k x hk => (World.cell?_of_block (a := ⟨b, o + k, none⟩) (hg.block b (by omega) hne)).trans (h3 k x hk)⟩
end Go.Proofs.YtlafdlcpelkdpaaGreatDoor
