/- What a token's text says: words, numbers, texts, signs; the readers, walked. -/
import Derived.Test.YtdejnphiejkglaaGreatDoorLxF
import Derived.Laws.ResultCell
namespace Go.Proofs.YtdejnphiejkglaaGreatDoor
open Go.RowKit
theorem infoTok : (Tryz.prog.info? 24).map (·.size) = some 4 := by kernel_rfl
theorem results_row2 {P : Program} {fn : Func} {p u v : Tmp} {ty : TypeId} (h : fn.results = #[.cell p ty, .tmp u, .tmp v]) (tmps : Array Value) (w : World) (g : Nat) (t : TypeId) (cs : Array Value) (fr : Nat × Nat) (d : TypeDesc)
    (hp : tmps.getD p undef = .pointer (some ⟨g, 0, none⟩)) (hg : w.heap[g]? = some (.cells cs t fr))
    (hu : P.underlying ty = some d) (hd : (match d with | .struct _ | .array _ _ => true | _ => false) = true) (hi : (P.info? ty).map (·.size) = some cs.size) :
    (results fn tmps).run P w = .ok (.tuple #[.agg cs, tmps.getD u undef, tmps.getD v undef]) w := by
  have h1 : (results fn tmps).run P w = ((asAddr (tmps.getD p undef)).run P w).andThen fun a w₁ => ((loadVar ty a).run P w₁).andThen fun x w₂ => .ok (.tuple #[x, tmps.getD u undef, tmps.getD v undef]) w₂ := by
    simp only [results, h]
    simp [Sem.run_bind, Result.andThen]
  rw [h1, hp]
  simp [asAddr, run_loadVar_row w g t ty cs fr d hg hu hd hi]
namespace Lx
/-- what comes of reading a token: an error, or its kind, its text, its number, and how many bytes it takes -/
structure R where
  err : Nat
  kind : Nat
  text : Bs
  n : Int
  size : Nat
def no (e : Nat) : R := ⟨e, 0, [], 0, 0⟩
def word (l : Bs) : R := if isKey (l.take (wsz l)) then ⟨0, 2, great (l.take (wsz l)), 0, wsz l⟩ else if 64 < wsz l then no 13 else ⟨0, 1, l.take (wsz l), 0, wsz l⟩
def numOf (d : Bs) : Option Int := match Lib.parseIntB 64 d with
  | .ok v => if Lib.itoa v = d then some v else none
  | _ => none
def numb (l : Bs) : R := match numOf (l.take (wsz l)) with
  | some v => ⟨0, 3, [], v, wsz l⟩
  | none => no 13
def tok (t : Bs) (n : Nat) : R := if 1024 < t.length then no 4 else if Lib.validD t = false then no 9 else ⟨0, 4, t, 0, n⟩
/-- a text up to the ' that ends it, and how many bytes that takes -/
def quo : Bs → Option (Bs × Nat)
  | [] => none
  | 39 :: 39 :: r => (quo r).map fun x => (39 :: x.1, x.2 + 2)
  | 39 :: _ => some ([], 1)
  | b :: r => (quo r).map fun x => (b :: x.1, x.2 + 1)
def text (l : Bs) : R := match quo (l.drop 1) with
  | some (t, n) => tok t (n + 1)
  | none => no 13
def sign (l : Bs) : R := ⟨0, 5, l.take (sgn l), 0, sgn l⟩
/-- a token's cells -/
def tc (k : Nat) (t : Bs) (n : Int) (a : Nat) : Array Value := #[.int .u8 (k : Int), .string (bs t), .int .i64 n, .int .i64 (a : Int)]
/-- what is answered -/
def gave (r : R) : Ending := .returned (.tuple #[.agg (tc r.kind r.text r.n 0), .int .i64 (r.size : Int), .int .i64 (r.err : Int)])
end Lx
theorem sets4 (W : World) (B : Nat) (v0 v1 v2 v3 : Value) : ((((W.setCell ⟨B, 0, none⟩ v0).setCell ⟨B, 1, none⟩ v1).setCell ⟨B, 2, none⟩ v2).setCell ⟨B, 3, none⟩ v3) = W.setCells B 0 [v0, v1, v2, v3] := rfl
/-- the result's block -/
def T4 (w W : World) : Prop := Below w.heap.size w W ∧ W.heap[w.heap.size]? = some (.cells #[.int .u8 0, .string ⟨#[]⟩, .int .i64 0, .int .i64 0] 24 (0, 0))
theorem T4.call {w W W' : World} (h : T4 w W) (hb : Below W.heap.size W W') : T4 w W' := ⟨h.1.trans (hb.mono h.1.size), (hb.block _ (Array.getElem?_eq_some_iff.1 h.2).1).trans h.2⟩
theorem T4.start (w : World) : T4 w (w.alloc (.cells #[.int .u8 0, .string ⟨#[]⟩, .int .i64 0, .int .i64 0] 24)) := ⟨(Below.refl _ _).alloc (Nat.le_refl _) _, heap_alloc_new w _⟩
theorem T4.cells {w W : World} (h : T4 w W) : W.cell? ⟨w.heap.size, 0, none⟩ = some (.int .u8 0) ∧ W.cell? ⟨w.heap.size, 1, none⟩ = some (.string ⟨#[]⟩) ∧ W.cell? ⟨w.heap.size, 2, none⟩ = some (.int .i64 0) ∧ W.cell? ⟨w.heap.size, 3, none⟩ = some (.int .i64 0) ∧ ∀ r, W.frozen? ⟨w.heap.size, r, none⟩ = false := by
  refine ⟨?_, ?_, ?_, ?_, fun r => ?_⟩
  · rw [cell_of_row _ _ _ _ _ _ h.2]; rfl
  · rw [cell_of_row _ _ _ _ _ _ h.2]; rfl
  · rw [cell_of_row _ _ _ _ _ _ h.2]; rfl
  · rw [cell_of_row _ _ _ _ _ _ h.2]; rfl
  · exact Lib.frozen_of_heap h.2 r
theorem T4.put {w W : World} (h : T4 w W) (a0 a1 a2 a3 : Value) : (W.setCells w.heap.size 0 [a0, a1, a2, a3]).heap[w.heap.size]? = some (.cells #[a0, a1, a2, a3] 24 (0, 0)) ∧ Below w.heap.size w (W.setCells w.heap.size 0 [a0, a1, a2, a3]) := by
  have e : W.setCells w.heap.size 0 [a0, a1, a2, a3] = ((((W.setCell ⟨w.heap.size, 0, none⟩ a0).setCell ⟨w.heap.size, 1, none⟩ a1).setCell ⟨w.heap.size, 2, none⟩ a2).setCell ⟨w.heap.size, 3, none⟩ a3) := rfl
  rw [e]
  refine ⟨?_, (((h.1.setCell (Nat.le_refl _) _).setCell (Nat.le_refl _) _).setCell (Nat.le_refl _) _).setCell (Nat.le_refl _) _⟩
  have h1 := heap_setCell_same W _ 0 _ 24 a0 h.2
  have h2 := heap_setCell_same _ _ 1 _ 24 a1 h1
  have h3 := heap_setCell_same _ _ 2 _ 24 a2 h2
  have h4 := heap_setCell_same _ _ 3 _ 24 a3 h3
  exact h4
theorem tok_end {fn : Func} {p u v : Tmp} {w W : World} {tmps : Array Value} {r : Lx.R} (hr : fn.results = #[.cell p 24, .tmp u, .tmp v]) (h : T4 w W) (hp : tmps.getD p undef = .pointer (some ⟨w.heap.size, 0, none⟩)) (hu : tmps.getD u undef = .int .i64 (r.size : Int)) (hv : tmps.getD v undef = .int .i64 (r.err : Int)) :
    bodyPost Tryz.prog fn (fun e w' => e = Lx.gave r ∧ Below w.heap.size w w') .ret ⟨tmps, []⟩ ((((W.setCell ⟨w.heap.size, 0, none⟩ (.int .u8 (r.kind : Int))).setCell ⟨w.heap.size, 1, none⟩ (.string (Lx.bs r.text))).setCell ⟨w.heap.size, 2, none⟩ (.int .i64 r.n)).setCell ⟨w.heap.size, 3, none⟩ (.int .i64 0)) := by
  obtain ⟨HA, HB⟩ := h.put (.int .u8 (r.kind : Int)) (.string (Lx.bs r.text)) (.int .i64 r.n) (.int .i64 0)
  refine bodyPost_ret (results_row2 hr tmps _ w.heap.size 24 _ (0, 0) _ hp HA Tryz.underlying24 rfl infoTok) rfl ⟨?_, HB⟩
  rw [hu, hv]
  rfl
set_option maxHeartbeats 2000000 in
set_option maxRecDepth 100000 in
theorem textToken_c (t : Lx.Bs) (n : Nat) (ht : t.length ≤ 16384) (w : World) (hL : HasL w) : Calls Tryz.prog 47 #[.string (Lx.bs t), .int .i64 (n : Int)] w fun e w' => e = Lx.gave (Lx.tok t n) ∧ Below w.heap.size w w' := by
  obtain ⟨w1, hw1⟩ : ∃ w1, w1 = w.alloc (.cells #[.int .u8 0, .string ⟨#[]⟩, .int .i64 0, .int .i64 0] 24) := ⟨_, rfl⟩
  have X1 : Hid (T4 w w1) := by rw [hw1]; exact T4.start w
  obtain ⟨s, hs⟩ : ∃ s, s = Lx.bs t := ⟨_, rfl⟩
  obtain ⟨u, hu⟩ : ∃ u, u = Lib.validD t := ⟨_, rfl⟩
  have hsz : (s.size : Int) = (t.length : Int) := by rw [hs, Lx.bs_size]
  have CV : Hid (Calls Tryz.prog 60 #[.string s] w1 fun e w' => e = .returned (.bool u) ∧ Below w1.heap.size w1 w') := by
    have h := Any.utf8_ValidString Tryz.laysValid s w1 (by omega) (hL.stays (X1.out.1)).utf
    rw [hs, Lx.bs_data, ← hu] at h
    rw [hs]
    exact h
  have HU : Hid (u = Lib.validD t) := hu
  have HS : Hid (s = Lx.bs t) := hs
  rw [← hs]
  clear hs hu
  go_enter Tryz.func47, Tryz.ntmps47
  go_upto_region 1 with fail
  rw [← hw1]
  clear hw1
  by_cases h1 : 1024 < t.length
  · have q1 : (1024 : Int) < (s.size : Int) := by omega
    have HR : Hid (Lx.tok t n = Lx.no 4) := by show _ = _; rw [Lx.tok, if_pos h1]
    obtain ⟨p0, p1, p2, p3, fz⟩ := X1.out.cells
    go_wp2
    rw [HR.out]
    exact tok_end (r := Lx.no 4) rfl X1.out rfl rfl rfl
  · have q1 : ¬ (1024 : Int) < (s.size : Int) := by omega
    go_wp2_with fail
    refine CV.out.mono ?_
    rintro e w2 ⟨rfl, hb2⟩
    have X2 : Hid (T4 w w2) := X1.out.call hb2
    obtain ⟨p0, p1, p2, p3, fz⟩ := X2.out.cells
    clear hb2 X1 CV
    cases u with
    | false =>
      have HR : Hid (Lx.tok t n = Lx.no 9) := by show _ = _; rw [Lx.tok, if_neg h1, if_pos HU.out.symm]
      go_wp2
      rw [HR.out]
      exact tok_end (r := Lx.no 9) rfl X2.out rfl rfl rfl
    | true =>
      have HR : Hid (Lx.tok t n = ⟨0, 4, t, 0, n⟩) := by show _ = _; rw [Lx.tok, if_neg h1, if_neg (by rw [← HU.out]; decide)]
      go_wp2
      rw [HR.out, HS.out]
      exact tok_end (r := ⟨0, 4, t, 0, n⟩) rfl X2.out rfl rfl rfl
end Go.Proofs.YtdejnphiejkglaaGreatDoor
