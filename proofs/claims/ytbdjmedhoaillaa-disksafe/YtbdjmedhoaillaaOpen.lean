/- A disk and a step handed in, opened; and what every law's contract ends in. -/
import Derived.Test.YtbdjmedhoaillaaRows
import Derived.ProofKit
import Derived.OpenShut
import Derived.Deep.Strs
import Derived.SizedLaws
import Derived.ChangeSame
import Derived.JoinedOf
import Derived.JoinedAt
import Derived.RowKit3
import Derived.Carry
namespace Go.Proofs.Ytbdjmedhoaillaa
open Go.ChangeShapes Go.WideShapes Go.ChangeAt Go.RowKit
open Go.ChangeMaps (open_string shut_string)
theorem own : ownKnob Try.prog.godebug = none := by kernel_rfl
theorem laidOut : laidOutB Try.prog = true := by kernel_rfl
theorem cells24 : Try.prog.cellsOf 24 = 5 := by kernel_rfl
theorem cells30 : Try.prog.cellsOf 30 = 3 := by kernel_rfl
theorem cells9 : Try.prog.cellsOf 9 = 1 := by kernel_rfl
theorem cells3 : Try.prog.cellsOf 3 = 1 := by kernel_rfl
theorem cells4 : Try.prog.cellsOf 4 = 1 := by kernel_rfl
theorem cells28 : Try.prog.cellsOf 28 = 1 := by kernel_rfl
theorem open_disk {H : Type} {enc : TypeId × Value → H} {W : World} {r : Reach} {b0 base : Nat} {sp : Nat → Bool} {held : Bool} {v : Value} {d : DataW H} {p : List MemPlace}
    (hv : Value.okWide Try.prog W r b0 24 v) (h : DataW.Trod enc Try.prog W base sp held 24 v d p) :
    ∃ (s : ByteArray) (y c f : Int) (dn : Bool), s.size ≤ maxLen ∧ (-9223372036854775808 ≤ f ∧ f ≤ 9223372036854775807) ∧ v = .agg #[.string s, .int .i64 y, .int .i64 c, .bool dn, .int .i64 f] ∧ p = [] := by
  obtain ⟨cs, rfl, hsz⟩ := okWide_struct Try.underlying24 hv
  rw [cells24] at hsz
  obtain ⟨l⟩ := cs
  match l, hsz with
  | [c0, c1, c2, c3, c4], _ =>
  obtain ⟨fuel, hf⟩ := h
  obtain ⟨xs, n, _, hx, _, hlen, hi⟩ := DataW.trod_struct Try.underlying24 hf
  match xs, hlen with
  | [y0, y1, y2, y3, y4], _ =>
  have g0 : DataW.trod enc Try.prog W base sp held n 9 [c0] = some y0 := by simpa [cells9, Value.cells] using hi 0 _ rfl
  have g1 : DataW.trod enc Try.prog W base sp held n 3 [c1] = some y1 := by simpa [cells3, Value.cells] using hi 1 _ rfl
  have g2 : DataW.trod enc Try.prog W base sp held n 3 [c2] = some y2 := by simpa [cells3, Value.cells] using hi 2 _ rfl
  have g3 : DataW.trod enc Try.prog W base sp held n 4 [c3] = some y3 := by simpa [cells4, Value.cells] using hi 3 _ rfl
  have g4 : DataW.trod enc Try.prog W base sp held n 3 [c4] = some y4 := by simpa [cells3, Value.cells] using hi 4 _ rfl
  obtain ⟨s, e0, z0, hs⟩ := DataW.trod_string Try.underlying9 g0
  obtain ⟨a, e1, z1, wa⟩ := DataW.trod_int Try.underlying3 g1
  obtain ⟨b, e2, z2, wb⟩ := DataW.trod_int Try.underlying3 g2
  obtain ⟨q, e3, z3⟩ := DataW.trod_bool Try.underlying4 g3
  obtain ⟨f, e4, z4, wf⟩ := DataW.trod_int Try.underlying3 g4
  have e0' : c0 = .string s := by simpa using e0
  have e1' : c1 = .int .i64 a := by simpa using e1
  have e2' : c2 = .int .i64 b := by simpa using e2
  have e3' : c3 = .bool q := by simpa using e3
  have e4' : c4 = .int .i64 f := by simpa using e4
  subst e0' e1' e2' e3' e4'
  refine ⟨s, a, b, f, q, hs, bounds_i64 wf, rfl, ?_⟩
  simp only [Prod.mk.injEq] at hx
  rw [hx.2]
  have k0 : y0.2 = [] := by rw [z0]
  have k1 : y1.2 = [] := by rw [z1]
  have k2 : y2.2 = [] := by rw [z2]
  have k3 : y3.2 = [] := by rw [z3]
  have k4 : y4.2 = [] := by rw [z4]
  simp [k0, k1, k2, k3, k4]
theorem open_step {H : Type} {enc : TypeId × Value → H} {W : World} {r : Reach} {b0 base : Nat} {sp : Nat → Bool} {held : Bool} {v : Value} {d : DataW H} {p : List MemPlace}
    (hv : Value.okWide Try.prog W r b0 30 v) (h : DataW.Trod enc Try.prog W base sp held 30 v d p) :
    ∃ (t : ByteArray) (z k : Int), t.size ≤ maxLen ∧ (0 ≤ k ∧ k ≤ 255) ∧ v = .agg #[.int .u8 k, .string t, .int .i64 z] ∧ p = [] := by
  obtain ⟨cs, rfl, hsz⟩ := okWide_struct Try.underlying30 hv
  rw [cells30] at hsz
  obtain ⟨l⟩ := cs
  match l, hsz with
  | [c0, c1, c2], _ =>
  obtain ⟨fuel, hf⟩ := h
  obtain ⟨xs, n, _, hx, _, hlen, hi⟩ := DataW.trod_struct Try.underlying30 hf
  match xs, hlen with
  | [y0, y1, y2], _ =>
  have g0 : DataW.trod enc Try.prog W base sp held n 28 [c0] = some y0 := by simpa [cells28, Value.cells] using hi 0 _ rfl
  have g1 : DataW.trod enc Try.prog W base sp held n 9 [c1] = some y1 := by simpa [cells9, Value.cells] using hi 1 _ rfl
  have g2 : DataW.trod enc Try.prog W base sp held n 3 [c2] = some y2 := by simpa [cells3, Value.cells] using hi 2 _ rfl
  obtain ⟨k, e0, z0, wk⟩ := DataW.trod_int Try.underlying28 g0
  obtain ⟨s, e1, z1, hs⟩ := DataW.trod_string Try.underlying9 g1
  obtain ⟨z, e2, z2, wz⟩ := DataW.trod_int Try.underlying3 g2
  have e0' : c0 = .int .u8 k := by simpa using e0
  have e1' : c1 = .string s := by simpa using e1
  have e2' : c2 = .int .i64 z := by simpa using e2
  subst e0' e1' e2'
  refine ⟨s, z, k, hs, bounds_u8 wk, rfl, ?_⟩
  simp only [Prod.mk.injEq] at hx
  rw [hx.2]
  have k0 : y0.2 = [] := by rw [z0]
  have k1 : y1.2 = [] := by rw [z1]
  have k2 : y2.2 = [] := by rw [z2]
  simp [k0, k1, k2]
/-- what every law's contract ends in: true is handed back, and each argument reads as it did -/
theorem law_post {H : Type} {enc : TypeId × Value → H} {f : Func} {sp : ChangeSpec} {W W' : World} {args : Array Value} {ds gs : List (DataW H)} {before pa : List MemPlace}
    (hW : DataW.Whole enc Try.prog f.params.toList sp.vars false W args.toList ds gs before) (hb : Below W.heap.size W W')
    (hres : f.resultTypes = #[4]) (hfr : (sp.fn H (ds ++ gs)).results = [.lit (.bool true)]) (hfa : (sp.fn H (ds ++ gs)).args = ds) (hfv : sp.vars = []) (hfv2 : (sp.fn H (ds ++ gs)).vars = [])
    (hargs : DataW.TrodAll enc Try.prog W' 0 (fun b => decide (b < W.heap.size)) true f.params.toList args.toList ds pa) :
    sp.post enc Try.prog f false true false false W args (.bool true) W' := by
  refine ⟨ds, gs, before, [], pa, [], hW, ?_, ?_, ?_, hb.frame _, fun h => by cases h⟩
  · rw [hres, hfr]
    exact trodAll_cons_mk (shut_bool Try.underlying4 _) trodAll_mk0
  · rw [hfa]; exact hargs
  · rw [hfv, hfv2]; rfl
end Go.Proofs.Ytbdjmedhoaillaa
