/- Texts handed in, opened, with what the form's reach bounds; the table of constants out of what a row lists. -/
import Derived.Test.YtoldfepeldbcpaaDoorMkB
import Derived.Test.YtoldfepeldbcpaaDoorCards
import Derived.Test.YtoldfepeldbcpaaDoorTie
import Derived.ProofKit
import Derived.OpenShut
import Derived.SliceStrings
import Derived.Deep.DeepHandedRow
import Derived.Deep.DeepWitnessRowRef
import Derived.Lib.LaidTab
import Derived.SizedLaws
import Derived.Lay
namespace Go.Proofs.YtoldfepeldbcpaaDoor
open Go.ChangeShapes Go.WideShapes Go.ChangeAt Go.RowKit
open Go.ChangeMaps (open_string shut_string)
theorem own : ownKnob Tryd.prog.godebug = none := by kernel_rfl
theorem gTab : Tryd.prog.globalNamed "codicil/sha.constants" = some 0 := by kernel_rfl
theorem gTabType : (Tryd.prog.globals[0]?).map (·.type) = some 99 := by kernel_rfl
theorem cells50 : Tryd.prog.cellsOf 99 = 64 := by kernel_rfl
theorem cells25 : Tryd.prog.cellsOf 46 = 1 := by kernel_rfl
theorem cells9 : Tryd.prog.cellsOf 9 = 1 := by kernel_rfl
def KI : List Int := [1116352408, 1899447441, 3049323471, 3921009573, 961987163, 1508970993, 2453635748, 2870763221, 3624381080, 310598401, 607225278, 1426881987, 1925078388, 2162078206, 2614888103, 3248222580, 3835390401, 4022224774, 264347078, 604807628, 770255983, 1249150122, 1555081692, 1996064986, 2554220882, 2821834349, 2952996808, 3210313671, 3336571891, 3584528711, 113926993, 338241895, 666307205, 773529912, 1294757372, 1396182291, 1695183700, 1986661051, 2177026350, 2456956037, 2730485921, 2820302411, 3259730800, 3345764771, 3516065817, 3600352804, 4094571909, 275423344, 430227734, 506948616, 659060556, 883997877, 958139571, 1322822218, 1537002063, 1747873779, 1955562222, 2024104815, 2227730452, 2361852424, 2428436474, 2756734187, 3204031479, 3329325298]
theorem KI_eq : ∀ i, i < 64 → KI.getD i 0 = ((Sh.K.getD i 0 : Nat) : Int) := by decide
/-- what a row's list gives: the constants lie where the program has them -/
theorem hasK_of {W : World} {rest : List (String × DataW Unit)} (h : laidMet Tryd.prog (("codicil/sha.constants", Lib.tabData .u32 KI) :: rest) W) : HasK W := by
  have t : Lib.TabIs Tryd.prog W "codicil/sha.constants" .u32 KI := Lib.tabIs_of_head gTab gTabType Tryd.underlying99 Tryd.underlying46 cells25 cells50 h
  refine ⟨?_, fun i hi => ?_⟩
  · have := t.cell gTab 0 (by decide)
    unfold World.cell? at this
    cases hh : W.heap[0]? with
    | none => simp [hh] at this
    | some o => exact (Array.getElem?_eq_some_iff.1 hh).1
  · rw [t.cell gTab i hi, KI_eq i hi]
theorem laidOut : laidOutB Tryd.prog = true := by kernel_rfl
/-- what every law's contract ends in: true is handed back, and each argument reads as it did -/
theorem law_post {H : Type} {enc : TypeId × Value → H} {f : Func} {sp : ChangeSpec} {W W' : World} {args : Array Value} {ds gs : List (DataW H)} {before pa : List MemPlace}
    (hW : DataW.Whole enc Tryd.prog f.params.toList sp.vars false W args.toList ds gs before) (hb : Below W.heap.size W W')
    (hres : f.resultTypes = #[4]) (hfr : (sp.fn H (ds ++ gs)).results = [.lit (.bool true)]) (hfa : (sp.fn H (ds ++ gs)).args = ds) (hfv : sp.vars = []) (hfv2 : (sp.fn H (ds ++ gs)).vars = [])
    (hargs : DataW.TrodAll enc Tryd.prog W' 0 (fun b => decide (b < W.heap.size)) true f.params.toList args.toList ds pa) :
    sp.post enc Tryd.prog f false true false false W args (.bool true) W' := by
  refine ⟨ds, gs, before, [], pa, [], hW, ?_, ?_, ?_, hb.frame _, fun h => by cases h⟩
  · rw [hres, hfr]
    exact trodAll_cons_mk (shut_bool Tryd.underlying4 _) trodAll_mk0
  · rw [hfa]; exact hargs
  · rw [hfv, hfv2]; rfl
theorem weights_mem_all {H : Type} {e : TypeId} : ∀ (l : List (DataW H)) (d : DataW H), d ∈ l → ∀ n ∈ d.weights Tryd.prog e, n ∈ DataW.weightsAll Tryd.prog e l
  | [], _, h => by cases h
  | x :: r, d, h => by
    intro n hn
    simp only [DataW.weightsAll, List.mem_append]
    cases List.mem_cons.1 h with
    | inl e => subst e; exact Or.inl hn
    | inr e => exact Or.inr (weights_mem_all r d e n hn)
set_option maxRecDepth 100000 in
/-- texts that came in -/
theorem open_sl {H : Type} {enc : TypeId × Value → H} {W : World} {r : Reach} {b0 base : Nat} {sp : Nat → Bool} {held : Bool} {v : Value} {d : DataW H} {p : List MemPlace}
    (hv : Value.okWide Tryd.prog W r b0 22 v) (h : DataW.Trod enc Tryd.prog W base sp held 22 v d p) (hz : ∀ n ∈ d.weights Tryd.prog 22, n ≤ 140737488351232) :
    ∃ a n c l, v = .slice a n c ∧ n ≤ c ∧ l.length ≤ 9223372036854775807 ∧ Sl W W.heap.size (.slice a n c) l ∧ ∀ x ∈ l, x.length ≤ 140737488351232 := by
  obtain ⟨a0, len, cap, rfl⟩ := okWide_slice Tryd.underlying22 hv
  obtain ⟨fuel, hf⟩ := h
  rcases open_strings Tryd.underlying22 Tryd.underlying9 cells9 hf with ⟨hcs, hx⟩ | ⟨a, len', cap', ss, hcs, _, hl, hm, hz', hx, hcell, _⟩
  · simp [Value.cells] at hcs
    obtain ⟨rfl, rfl, rfl⟩ := hcs
    exact ⟨none, 0, 0, [], rfl, Nat.le_refl _, by simp, .inl ⟨rfl, none, 0, rfl⟩, fun x hx => by cases hx⟩
  · simp [Value.cells] at hcs
    obtain ⟨rfl, rfl, rfl⟩ := hcs
    simp only [Prod.mk.injEq] at hx
    obtain ⟨hd, hp⟩ := hx
    have hss : len ≤ ss.length := by rw [hz']; split <;> omega
    have hlen : (ss.take len).length = len := by rw [List.length_take]; omega
    have hw : ∀ x ∈ (ss.take len).map (fun s => s.data.toList), x.length ≤ 140737488351232 := by
      intro x hx
      obtain ⟨s, hs, rfl⟩ := List.mem_map.1 hx
      apply hz
      rw [hd]
      simp only [DataW.weights, Tryd.underlying22]
      refine List.mem_cons_of_mem _ (List.mem_append.2 (Or.inl ?_))
      refine weights_mem_all _ (.lit (.string s.data.toList)) (List.mem_map.2 ⟨s, hs, rfl⟩) _ ?_
      simp [DataW.weights]
    unfold maxLen at hm
    by_cases h0 : 0 < ss.length
    · obtain ⟨b, off, spot⟩ := a
      have hspot : spot = none := by simpa [Addr.add] using World.cell?_spot (hcell 0 h0)
      subst hspot
      have hc : ∀ j, j < ss.length → W.cell? ⟨b, off + j, none⟩ = some (.string (ss.getD j ByteArray.empty)) := fun j hj => by rw [← Go.WideShapes.add_plain]; exact hcell j hj
      have hb : b < W.heap.size := by
        have h1 := hc 0 h0
        cases hh : W.heap[b]? with
        | none => simp [World.cell?, hh] at h1
        | some o => exact (Array.getElem?_eq_some_iff.1 hh).1
      refine ⟨_, len, cap, (ss.take len).map (fun s => s.data.toList), rfl, hl, by rw [List.length_map]; omega, .inr ⟨b, off, cap, by rw [List.length_map, hlen], hb, fun k x hk => ?_⟩, hw⟩
      rw [List.getElem?_map, Option.map_eq_some_iff] at hk
      obtain ⟨s, hs, rfl⟩ := hk
      rw [List.getElem?_take] at hs
      split at hs
      · obtain ⟨hkl, e⟩ := List.getElem?_eq_some_iff.1 hs
        rw [hc k hkl, List.getD_eq_getElem?_getD, hs]
        simp [encS, bs_data]
      · cases hs
    · have e : ss = [] := List.eq_nil_of_length_eq_zero (by omega)
      have hl0 : len = 0 := by rw [e] at hss; simpa using hss
      subst hl0
      exact ⟨_, 0, cap, [], rfl, hl, by simp, .inl ⟨rfl, _, _, rfl⟩, fun x hx => by cases hx⟩
end Go.Proofs.YtoldfepeldbcpaaDoor
