/- A state handed in, opened into its words, its count and its rest; shut again; and the table of constants out of what a row lists. -/
import Derived.Test.YtojeoiiobpdccaaDoorEq
import Derived.Test.YtojeoiiobpdccaaDoorCards
import Derived.Test.YtojeoiiobpdccaaDoorTie
import Derived.ProofKit
import Derived.OpenShut
import Derived.Deep.Strs
import Derived.Deep.DeepHandedRow
import Derived.Lib.LaidTab
import Derived.SizedLaws
namespace Go.Proofs.YtojeoiiobpdccaaDoor
open Go.ChangeShapes Go.WideShapes Go.ChangeAt Go.RowKit
open Go.ChangeMaps (open_string shut_string)
theorem own : ownKnob Tryd.prog.godebug = none := by kernel_rfl
theorem gTab : Tryd.prog.globalNamed "codicil/sha.constants" = some 0 := by kernel_rfl
theorem gTabType : (Tryd.prog.globals[0]?).map (·.type) = some 50 := by kernel_rfl
theorem cells50 : Tryd.prog.cellsOf 50 = 64 := by kernel_rfl
theorem cells29 : Tryd.prog.cellsOf 29 = 10 := by kernel_rfl
theorem cells26 : Tryd.prog.cellsOf 26 = 8 := by kernel_rfl
theorem cells27 : Tryd.prog.cellsOf 27 = 1 := by kernel_rfl
theorem cells9 : Tryd.prog.cellsOf 9 = 1 := by kernel_rfl
def KI : List Int := [1116352408, 1899447441, 3049323471, 3921009573, 961987163, 1508970993, 2453635748, 2870763221, 3624381080, 310598401, 607225278, 1426881987, 1925078388, 2162078206, 2614888103, 3248222580, 3835390401, 4022224774, 264347078, 604807628, 770255983, 1249150122, 1555081692, 1996064986, 2554220882, 2821834349, 2952996808, 3210313671, 3336571891, 3584528711, 113926993, 338241895, 666307205, 773529912, 1294757372, 1396182291, 1695183700, 1986661051, 2177026350, 2456956037, 2730485921, 2820302411, 3259730800, 3345764771, 3516065817, 3600352804, 4094571909, 275423344, 430227734, 506948616, 659060556, 883997877, 958139571, 1322822218, 1537002063, 1747873779, 1955562222, 2024104815, 2227730452, 2361852424, 2428436474, 2756734187, 3204031479, 3329325298]
theorem KI_eq : ∀ i, i < 64 → KI.getD i 0 = ((Sh.K.getD i 0 : Nat) : Int) := by decide
/-- what a row's list gives: the constants lie where the program has them -/
theorem hasK_of {W : World} {rest : List (String × DataW Unit)} (h : laidMet Tryd.prog (("codicil/sha.constants", Lib.tabData .u32 KI) :: rest) W) : HasK W := by
  have t : Lib.TabIs Tryd.prog W "codicil/sha.constants" .u32 KI := Lib.tabIs_of_head gTab gTabType Tryd.underlying50 Tryd.underlying25 cells25 cells50 h
  refine ⟨?_, fun i hi => ?_⟩
  · have := t.cell gTab 0 (by decide)
    unfold World.cell? at this
    cases hh : W.heap[0]? with
    | none => simp [hh] at this
    | some o => exact (Array.getElem?_eq_some_iff.1 hh).1
  · rw [t.cell gTab i hi, KI_eq i hi]
theorem array10 {cs : Array Value} (h : cs.size = 10) : ∃ c0 c1 c2 c3 c4 c5 c6 c7 c8 c9, cs = #[c0, c1, c2, c3, c4, c5, c6, c7, c8, c9] := by
  obtain ⟨l⟩ := cs
  match l, h with
  | [c0, c1, c2, c3, c4, c5, c6, c7, c8, c9], _ => exact ⟨c0, c1, c2, c3, c4, c5, c6, c7, c8, c9, rfl⟩
theorem list8 {α : Type} {l : List α} (h : l.length = 8) : ∃ x0 x1 x2 x3 x4 x5 x6 x7, l = [x0, x1, x2, x3, x4, x5, x6, x7] := by
  match l, h with
  | [x0, x1, x2, x3, x4, x5, x6, x7], _ => exact ⟨x0, x1, x2, x3, x4, x5, x6, x7, rfl⟩
theorem open_u32 {H : Type} {enc : TypeId × Value → H} {W : World} {base : Nat} {sp : Nat → Bool} {held : Bool} {n : Nat} {c : Value} {x : DataW H × List MemPlace} (h : DataW.trod enc Tryd.prog W base sp held n 25 [c] = some x) :
    ∃ k : Nat, k < 4294967296 ∧ c = .int .u32 (k : Int) ∧ x = (.lit (.int .u32 (k : Int)), []) := by
  obtain ⟨z, hc, hx, wf⟩ := DataW.trod_int Tryd.underlying25 h
  have hb := bounds_u32 wf
  refine ⟨z.toNat, by omega, ?_, ?_⟩
  · rw [show ((z.toNat : Nat) : Int) = z by omega]; simpa using hc
  · rw [show ((z.toNat : Nat) : Int) = z by omega]; exact hx
theorem open_sha {H : Type} {enc : TypeId × Value → H} {W : World} {r : Reach} {b0 base : Nat} {sp : Nat → Bool} {held : Bool} {v : Value} {d : DataW H} {p : List MemPlace}
    (hv : Value.okWide Tryd.prog W r b0 29 v) (h : DataW.Trod enc Tryd.prog W base sp held 29 v d p) :
    ∃ (s : Sh.S8) (c : Nat) (r : ByteArray), s.ok ∧ c < 18446744073709551616 ∧ r.size ≤ maxLen ∧ v = .agg #[.int .u32 s.a, .int .u32 s.b, .int .u32 s.c, .int .u32 s.d, .int .u32 s.e, .int .u32 s.f, .int .u32 s.g, .int .u32 s.h, .int .u64 c, .string r] ∧ d = .agg [.agg [.lit (.int .u32 s.a), .lit (.int .u32 s.b), .lit (.int .u32 s.c), .lit (.int .u32 s.d), .lit (.int .u32 s.e), .lit (.int .u32 s.f), .lit (.int .u32 s.g), .lit (.int .u32 s.h)], .lit (.int .u64 c), .lit (.string r.data.toList)] ∧ p = [] := by
  obtain ⟨cs, rfl, hsz⟩ := okWide_struct Tryd.underlying29 hv
  obtain ⟨c0, c1, c2, c3, c4, c5, c6, c7, c8, c9, rfl⟩ := array10 (hsz.trans cells29)
  obtain ⟨fuel, hf⟩ := h
  obtain ⟨y0, y1, y2, n, hx, _, h0, h1, h2⟩ := Go.Deep.trod_struct3 Tryd.underlying29 hf
  simp only [Prod.mk.injEq] at hx
  obtain ⟨xs, m, _, hy0, _, hlen, hi⟩ := DataW.trod_array Tryd.underlying26 h0
  obtain ⟨z0, z1, z2, z3, z4, z5, z6, z7, rfl⟩ := list8 hlen
  have g0 := hi 0 (by omega)
  have g1 := hi 1 (by omega)
  have g2 := hi 2 (by omega)
  have g3 := hi 3 (by omega)
  have g4 := hi 4 (by omega)
  have g5 := hi 5 (by omega)
  have g6 := hi 6 (by omega)
  have g7 := hi 7 (by omega)
  simp only [cells25, cells26, cells27, cells9] at g0 g1 g2 g3 g4 g5 g6 g7 h1 h2
  obtain ⟨k0, l0, rfl, rfl⟩ := open_u32 (c := c0) (x := z0) (by simpa [Value.cells] using g0)
  obtain ⟨k1, l1, rfl, rfl⟩ := open_u32 (c := c1) (x := z1) (by simpa [Value.cells] using g1)
  obtain ⟨k2, l2, rfl, rfl⟩ := open_u32 (c := c2) (x := z2) (by simpa [Value.cells] using g2)
  obtain ⟨k3, l3, rfl, rfl⟩ := open_u32 (c := c3) (x := z3) (by simpa [Value.cells] using g3)
  obtain ⟨k4, l4, rfl, rfl⟩ := open_u32 (c := c4) (x := z4) (by simpa [Value.cells] using g4)
  obtain ⟨k5, l5, rfl, rfl⟩ := open_u32 (c := c5) (x := z5) (by simpa [Value.cells] using g5)
  obtain ⟨k6, l6, rfl, rfl⟩ := open_u32 (c := c6) (x := z6) (by simpa [Value.cells] using g6)
  obtain ⟨k7, l7, rfl, rfl⟩ := open_u32 (c := c7) (x := z7) (by simpa [Value.cells] using g7)
  obtain ⟨z, hc8, hy1, wf⟩ := DataW.trod_int Tryd.underlying27 h1
  have hb := bounds_u64 wf
  obtain ⟨str, hc9, hy2, hstr⟩ := DataW.trod_string Tryd.underlying9 h2
  have e8 : c8 = .int .u64 ((z.toNat : Nat) : Int) := by
    rw [show ((z.toNat : Nat) : Int) = z by omega]; simpa [Value.cells] using hc8
  have e9 : c9 = .string str := by simpa [Value.cells] using hc9
  refine ⟨⟨k0, k1, k2, k3, k4, k5, k6, k7⟩, z.toNat, str, ⟨l0, l1, l2, l3, l4, l5, l6, l7⟩, by omega, hstr, ?_, ?_, ?_⟩
  · rw [e8, e9]
  · rw [hx.1, hy0, hy1, hy2, show ((z.toNat : Nat) : Int) = z by omega]; rfl
  · rw [hx.2, hy0, hy1, hy2]; rfl
theorem laidOut : laidOutB Tryd.prog = true := by kernel_rfl
/-- a string's length, out of the bound -/
theorem string_le {H : Type} {l : List (DataW H)} {s : ByteArray} (hk : Rows.uptoSmall H l = true) (hm : DataW.lit (.string s.data.toList) ∈ l) : s.size ≤ 1048576 := by
  have h : Rows.uptoBulkAll l ≤ 1048576 := of_decide_eq_true hk
  have part : ∀ (d : DataW H) (l : List (DataW H)), d ∈ l → Rows.uptoBulk d ≤ Rows.uptoBulkAll l := by
    intro d l hd
    induction l with
    | nil => cases hd
    | cons x r ih =>
      simp only [Rows.uptoBulkAll]
      cases List.mem_cons.1 hd with
      | inl e => subst e; omega
      | inr e => have := ih e; omega
  have h1 := part _ _ hm
  simp only [Rows.uptoBulk] at h1
  rw [Lib.size_eq]
  omega
/-- what every law's contract ends in: true is handed back, and each argument reads as it did -/
theorem law_post {H : Type} {enc : TypeId × Value → H} {f : Func} {sp : ChangeSpec} {W W' : World} {args : Array Value} {ds gs : List (DataW H)} {before pa : List MemPlace}
    (hW : DataW.Whole enc Tryd.prog f.params.toList sp.vars false W args.toList ds gs before) (hb : Below W.heap.size W W')
    (hres : f.resultTypes = #[4]) (hfr : (sp.fn H (ds ++ gs)).results = [.lit (.bool true)]) (hfa : (sp.fn H (ds ++ gs)).args = ds) (hfv : sp.vars = []) (hfv2 : (sp.fn H (ds ++ gs)).vars = [])
    (hargs : DataW.TrodAll enc Tryd.prog W' 0 (fun b => decide (b < W.heap.size)) true f.params.toList args.toList ds pa) :
    sp.post enc Tryd.prog f false true false false W args (.bool true) W' := by
  refine ⟨ds, gs, before, [], pa, [], hW, ?_, ?_, ?_, hb.frame _, fun h => by cases h⟩
  · rw [hres, hfr]
    exact trodAll_cons_mk (shut_bool Tryd.underlying4 _) trodAll_mk0
  · rw [hfa]; exact hargs
  · rw [hfv, hfv2]; rfl
/-- a world for a witness: the table of constants laid over whatever its block holds -/
def withTable (w : World) : World :=
  { w with heap := w.heap.modify 0 fun
      | .cells _ t frozen => .cells (KI.map fun z => Value.int .u32 z).toArray t frozen
      | o => o }
end Go.Proofs.YtojeoiiobpdccaaDoor
