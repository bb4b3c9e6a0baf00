/- For every value and every path the law ValueInside answers true: a list of a value is right just if the value is, and it is not too deep; a path leads into it; the library's tables and errors starting as the program's text lays them. -/
import Derived.Test.YtcgkoogdgagddaaDoorOpenZ
import Derived.Test.YtcgkoogdgagddaaDoorInsideW
namespace Go.Proofs.YtcgkoogdgagddaaDoor
open Go.ChangeShapes Go.WideShapes Go.ChangeAt Go.RowKit
open Vl (V)
namespace inside
theorem lies_none (W : World) (ao : Option Addr) : LiesP W ao [] := by
  unfold LiesP
  refine ⟨by simp, fun s hs => ?_, fun h => ?_⟩
  · simp at hs
  · simp at h
theorem open_path {H : Type} {enc : TypeId × Value → H} {W : World} {base : Nat} {sp : Nat → Bool} {held : Bool} {a0 : Option Addr} {len cap : Nat} {d : DataW H} {p : List MemPlace} (h : DataW.Trod enc Tryd.prog W base sp held 39 (.slice a0 len cap) d p) (hb : Z 39 d) :
    ∃ ss : List ByteArray, len = ss.length ∧ LiesP W a0 ss ∧ ss.length ≤ 8796093021952 ∧ ss.length ≤ cap := by
  obtain ⟨F, hf⟩ := h
  have hc1 : (Value.slice a0 len cap).cells.toList = [.slice a0 len cap] := rfl
  rw [hc1] at hf
  rcases DataW.trod_slice Tryd.underlying39 hf with ⟨hc, _⟩ | ⟨a, len', cap', elems, rest, q, hq, hc, hx, _, hlc, hcm, hel, he, _, _⟩
  · simp only [List.cons.injEq, and_true, Value.slice.injEq] at hc
    obtain ⟨rfl, rfl, rfl⟩ := hc
    exact ⟨[], rfl, lies_none _ _, by simp, by simp⟩
  · simp only [List.cons.injEq, and_true, Value.slice.injEq] at hc
    obtain ⟨rfl, rfl, rfl⟩ := hc
    have hb1 : Z 39 ((d, p) : DataW H × List MemPlace).1 := hb
    have hlen : len ≤ 8796093021952 := by
      have := z_len Tryd.underlying39 bytes9 hx hb1
      rw [hel] at this
      omega
    rw [cells9] at he
    have key : ∀ i, i < len → ∃ s : ByteArray, s.size ≤ 140737488351232 ∧ W.cells? base (a.add (i * 1)) 1 = some [.string s] := fun i hi => by
      have h1 := he i hi
      have h4 : elems[i]? = some elems[i] := List.getElem?_eq_getElem (by omega)
      rw [h4] at h1
      obtain ⟨cs', h2, h3⟩ := Option.bind_eq_some_iff.1 h1
      obtain ⟨s, hs, hy, _⟩ := DataW.trod_string Tryd.underlying9 h3
      refine ⟨s, ?_, by rw [h2, hs]⟩
      have hz := z_elem Tryd.underlying39 hx h4 hb1
      rw [hy] at hz
      exact z_text s hz
    by_cases hpos : 0 < len
    · obtain ⟨s0, _, hc0⟩ := key 0 hpos
      rw [Nat.zero_mul] at hc0
      obtain ⟨g, o, rfl, hg⟩ := spot_none hc0 (by omega)
      obtain ⟨ss, hss, hp⟩ := gather len key
      subst hss
      refine ⟨ss, rfl, ⟨by unfold maxLen; omega, fun s hs => ?_, fun _ => ⟨g, o, rfl, hg, fun j s hj => ?_⟩⟩, hlen, hlc⟩
      · obtain ⟨j, hj⟩ := List.getElem?_of_mem hs
        exact (hp j s hj).1
      · obtain ⟨_, _, hcell⟩ := World.cells?_some (hp j s hj).2
        have := hcell 0 (by omega)
        rw [Addr.add_mid, Addr.add_mid] at this
        simpa using this
    · have h0 : len = 0 := by omega
      subst h0
      exact ⟨[], rfl, lies_none _ _, by simp, by simp⟩
theorem sameLaid : Rows.valueInsideRow.laid = Rows.valueOrderRow.laid := by kernel_rfl
set_option maxRecDepth 100000 in
theorem contract (H : Type) (enc : TypeId × Value → H) (W : World) (base : Nat) (args : Array Value) (ds gs : List (DataW H)) (before : List MemPlace)
    (hval : ∀ (j : Nat) t v, Tryd.f6.params[j]? = some t → args[j]? = some v → Value.okWide Tryd.prog W .any base t v)
    (hW : DataW.Whole enc Tryd.prog Tryd.f6.params.toList Rows.valueInsideSpec.vars false W args.toList ds gs before) (hsz0 : (DataW.weightsEach Tryd.prog (Tryd.f6.params.toList ++ (OpenSpec.ofChange Rows.valueInsideSpec).bare.plain.varTypes Tryd.prog) (ds ++ gs)).all (· ≤ reachBytes) = true) (hL : laidMetH Tryd.prog Rows.valueInsideRow.laid W) :
    Calls Tryd.prog 6 args W fun e W' => ∃ v, e = .returned v ∧ Rows.valueInsideSpec.post enc Tryd.prog Tryd.f6 false true false false W args v W' := by
  rw [sameLaid] at hL
  have hW' := hW
  obtain ⟨p, q, hA0, hV, rfl, hfz, hnd⟩ := hW
  have hA : DataW.TrodAll enc Tryd.prog W 0 (fun _ => true) true Tryd.f6.params.toList args.toList ds p := hA0
  have hsz : (DataW.weightsEach Tryd.prog (Tryd.f6.params.toList ++ []) (ds ++ gs)).all (· ≤ reachBytes) = true := hsz0
  rw [Tryd.params6] at hA hval hsz
  obtain ⟨v0, vs0, d0, ds0, p0, q0, hargs, rfl, rfl, h0, r0⟩ := trodAll_cons hA
  obtain ⟨v1, vs1, d1, ds1, p1, q1, rfl, rfl, rfl, h1, r1⟩ := trodAll_cons r0
  obtain ⟨rfl, rfl, rfl⟩ := trodAll_nil r1
  obtain rfl : args = #[v0, v1] := by cases args; simp_all
  obtain ⟨rfl, rfl⟩ := trodVars_none hV
  obtain ⟨a, ha, hsa⟩ := open_sized (hval 0 26 v0 rfl rfl) h0
  obtain ⟨a0, len, cap, rfl⟩ := okWide_slice Tryd.underlying39 (hval 1 39 v1 rfl rfl)
  have hbk : Z 26 d0 := sized_at hsz (j := 0) rfl rfl
  have hbk1 : Z 39 d1 := sized_at hsz (j := 1) rfl rfl
  obtain ⟨ss, hss, hlp, hln, hlc⟩ := open_path h1 hbk1
  subst hss
  refine (inside6_head a (hsa hbk) ss a0 cap W (hasT_of (met_of hL)) W.heap.size v0 (Nat.le_refl _) ha hlp hln hlc).mono fun e W' ⟨he, hg⟩ => ?_
  subst he
  have hlt0 : ∀ x ∈ p0, x.block < W.heap.size := fun x hx => by
    have := hW'.lt x (by simp [hx])
    simpa using this
  have hlt1 : ∀ x ∈ p1, x.block < W.heap.size := fun x hx => by
    have := hW'.lt x (by simp [hx])
    simpa using this
  exact ⟨_, rfl, law_post hW' hg rfl rfl rfl rfl rfl
    (trodAll_cons_mk (Below.trod laidOut (by kernel_rfl) (of_decide_eq_true (by kernel_rfl)) h0 hg hlt0)
      (trodAll_cons_mk (Below.trod laidOut (by kernel_rfl) (of_decide_eq_true (by kernel_rfl)) h1 hg hlt1) trodAll_mk0))⟩
theorem laid_met (os : Os) : laidMet Tryd.prog Rows.valueInsideRow.laid ((World.laidAll Tryd.prog os Rows.valueInsideRow.laid).forCall (fun _ _ => 0) ⟨#[], #[.agg #[.int .u8 0, .bool false, .int .i64 0, .string .empty, .slice none 0 0, .slice none 0 0], .slice none 0 0], []⟩).memory :=
  laidMet_laidAll _ (by kernel_rfl) (by kernel_rfl)
theorem reads (os : Os) {H : Type} (enc : TypeId × Value → H) : ∃ places, DataW.whole enc Tryd.prog ((World.laidAll Tryd.prog os Rows.valueInsideRow.laid).forCall (fun _ _ => 0) ⟨#[], #[.agg #[.int .u8 0, .bool false, .int .i64 0, .string .empty, .slice none 0 0, .slice none 0 0], .slice none 0 0], []⟩).memory Tryd.f6.params.toList Rows.valueInsideSpec.vars false (#[.agg #[.int .u8 0, .bool false, .int .i64 0, .string .empty, .slice none 0 0, .slice none 0 0], .slice none 0 0] : Array Value).toList 8 = some ([.agg [.lit (.int .u8 0), .lit (.bool false), .lit (.int .i64 0), .lit (.string []), .nil, .nil], .nil], [], places) :=
  ⟨[], by kernel_rfl⟩
set_option maxRecDepth 100000 in
theorem lifted (os : Os) (started : os.Started) (H : Type) (enc : TypeId × Value → H) (F : Stop.Interp) :
    ReturnsInHanded {} Tryd.checked os 6 .any ((OpenSpec.ofChange Rows.valueInsideSpec).preRow enc Tryd.prog Tryd.f6 Rows.valueInsideRow.domain false Rows.valueInsideRow.laid) (((OpenSpec.ofChange Rows.valueInsideSpec).at F).post enc Tryd.prog Tryd.f6 false true false false) := by
  obtain ⟨places, hx⟩ := reads os enc
  refine returnsInHanded_of_row (C := Tryd.checked) (s := OpenSpec.ofChange Rows.valueInsideSpec) own started (by kernel_rfl) Tryd.func6
    (witness_row_atRef (enc := enc) (C := Tryd.checked) false (World.laidAll Tryd.prog os Rows.valueInsideRow.laid) #[.agg #[.int .u8 0, .bool false, .int .i64 0, .string .empty, .slice none 0 0, .slice none 0 0], .slice none 0 0] (World.laidAll_os _ _ _) (by kernel_rfl) (by kernel_rfl) (by kernel_rfl)
      (OpenSpec.preRow_of_cond 8 hx (by kernel_rfl) (fun k hk => by cases hk) (by kernel_rfl) (laid_met os))) ?_
  intro W base args ds gs before hval hW _ _ hsz hL _ _
  exact contract H enc W base args ds gs before hval hW hsz hL
theorem said : Rows.ValueInsideSaid :=
  OpenClaim.holds_of_cond 6 Tryd.f6 rfl rfl rfl rfl rfl rfl rfl ⟨rfl, rfl, rfl, rfl, rfl⟩ rfl rfl rfl rfl rfl (by kernel_rfl) Tryd.func6 (by kernel_rfl)
    (of_decide_eq_true (by kernel_rfl)) (by unfold Func.isWrapper; first | (rw [if_pos (by decide +kernel)]; kernel_rfl) | (rw [if_neg (by decide +kernel)]; exact ⟨rfl, rfl⟩))
    (fun os started H enc _ F => by rw [OpenClaim.pre_eq_preRow]; exact lifted os started H enc F)
theorem plain (f : FuncId) (fn : Func) (hf : Tryd.pinned.checked.prog.funcNamed "codicil/codicillaw02.ValueInside" = some f) (hfn : Tryd.pinned.checked.prog.funcs[f]? = some fn) :
    true = Tryd.pinned.checked.prog.looks [] ∧ ∀ (j : Nat) t, fn.params[j]? = some t → Tryd.pinned.checked.prog.wantsStandIn t = false := by
  obtain rfl : f = 6 := Option.some.inj ((show Tryd.prog.funcNamed "codicil/codicillaw02.ValueInside" = some 6 by kernel_rfl).symm.trans hf) |>.symm
  obtain rfl : fn = Tryd.f6 := (Option.some.inj (Tryd.func6.symm.trans hfn)).symm
  refine ⟨by kernel_rfl, fun j t ht => ?_⟩
  rw [Tryd.params6] at ht
  have hm : t = 26 ∨ t = 39 := by simpa using Array.mem_of_getElem? ht
  rcases hm with rfl | rfl
  · exact (show Tryd.prog.wantsStandIn 26 = false by kernel_rfl)
  · exact (show Tryd.prog.wantsStandIn 39 = false by kernel_rfl)
/-- the card -/
theorem card : Rows.ValueInsideCardSaid :=
  Claim7.holds_tied_plain_at .later [] _ _ _ _ said (fun _ h => by cases h) (by kernel_rfl) (fun _ h => by cases h) valueInside_row_tie rfl ⟨rfl, rfl⟩ (by kernel_rfl) rfl plain (by kernel_rfl)
end inside
theorem valueInside_card : Rows.ValueInsideCardSaid := inside.card
end Go.Proofs.YtcgkoogdgagddaaDoor
