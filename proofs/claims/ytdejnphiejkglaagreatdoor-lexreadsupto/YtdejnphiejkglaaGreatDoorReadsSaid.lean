/- LexReads, of bulk at most 1048576: any text has the tokens that the document says, or is told to have none, and where; any token is shown as it says. -/
import Derived.Test.YtdejnphiejkglaaGreatDoorLxRl
import Derived.Test.YtdejnphiejkglaaGreatDoorTOpen
import Derived.Test.YtdejnphiejkglaaGreatDoorLOpen
namespace Go.Proofs.YtdejnphiejkglaaGreatDoor
open Go.ChangeShapes Go.WideShapes Go.ChangeAt Go.RowKit
open Go.ChangeMaps (open_string shut_string)
theorem bulk_memT {H : Type} : ∀ (l : List (DataW H)) (d : DataW H), d ∈ l → Rows.uptoBulk d ≤ Rows.uptoBulkAll l
  | [], d, h => by cases h
  | x :: r, d, h => by
    rw [Rows.uptoBulkAll]
    rcases List.mem_cons.1 h with rfl | h
    · omega
    · have := bulk_memT r d h
      omega
theorem open_tokB {H : Type} {enc : TypeId × Value → H} {W : World} {base : Nat} {sp : Nat → Bool} {held : Bool} {F : Nat} {cs : List Value} {d : DataW H} {p : List MemPlace} (h : DataW.trod enc Tryz.prog W base sp held F 24 cs = some (d, p)) :
    ∃ t : Lx.At, cs = [.int .u8 (t.kind : Int), .string (Lx.bs t.text), .int .i64 t.n, .int .i64 t.at'] ∧ (-9223372036854775808 ≤ t.n ∧ t.n ≤ 9223372036854775807) ∧ t.text.length ≤ Rows.uptoBulk d := by
  obtain ⟨xs, n, hn, hagg, hl, hxl, hf⟩ := DataW.trod_struct Tryz.underlying24 h
  rw [cellsTok] at hl
  obtain ⟨c0, c1, c2, c3, rfl⟩ := list4T hl
  have f0 : DataW.trod enc Tryz.prog W base sp held n 22 (([c0, c1, c2, c3].drop 0).take (Tryz.prog.cellsOf 22)) = xs[0]? := hf 0 _ rfl
  have f1 : DataW.trod enc Tryz.prog W base sp held n 9 (([c0, c1, c2, c3].drop 1).take (Tryz.prog.cellsOf 9)) = xs[1]? := hf 1 _ rfl
  have f2 : DataW.trod enc Tryz.prog W base sp held n 2 (([c0, c1, c2, c3].drop 2).take (Tryz.prog.cellsOf 2)) = xs[2]? := hf 2 _ rfl
  have f3 : DataW.trod enc Tryz.prog W base sp held n 3 (([c0, c1, c2, c3].drop 3).take (Tryz.prog.cellsOf 3)) = xs[3]? := hf 3 _ rfl
  have get : ∀ i, i < 4 → ∃ y, xs[i]? = some y := fun i hi => ⟨_, List.getElem?_eq_getElem (by rw [hxl]; exact hi)⟩
  obtain ⟨y0, e0⟩ := get 0 (by omega)
  obtain ⟨y1, e1⟩ := get 1 (by omega)
  obtain ⟨y2, e2⟩ := get 2 (by omega)
  obtain ⟨y3, e3⟩ := get 3 (by omega)
  rw [e0, cellsTk] at f0
  rw [e1, cellsT9] at f1
  rw [e2, cellsT2] at f2
  rw [e3, cellsT3] at f3
  simp only [List.drop_zero, List.drop_succ_cons, List.take_succ_cons, List.take_zero] at f0 f1 f2 f3
  obtain ⟨k, hk, _, wk⟩ := DataW.trod_int Tryz.underlying22 f0
  obtain ⟨s, hs, hy, _⟩ := DataW.trod_string Tryz.underlying9 f1
  obtain ⟨dn, hd, _, wd⟩ := DataW.trod_int Tryz.underlying2 f2
  obtain ⟨v, hv, _, _⟩ := DataW.trod_int Tryz.underlying3 f3
  simp only [List.cons.injEq, and_true] at hk hs hd hv
  obtain ⟨kn, rfl⟩ := nat_u8T wk
  subst hk hs hd hv
  refine ⟨⟨kn, s.data.toList, dn, v⟩, by rw [Lx.bs_of], int_i64T wd, ?_⟩
  have hd1 : d = .agg (xs.map (·.1)) := (Prod.mk.inj hagg).1
  rw [hd1, Rows.uptoBulk]
  have hm : (DataW.lit (.string s.data.toList) : DataW H) ∈ xs.map (·.1) := by
    have h1 := List.mem_of_getElem? e1
    rw [hy] at h1
    exact List.mem_map.2 ⟨_, h1, rfl⟩
  have h2 := bulk_memT _ _ hm
  rw [Rows.uptoBulk] at h2
  show s.data.toList.length ≤ _
  omega
set_option maxRecDepth 100000 in
/-- a token that is handed in -/
theorem open_tokA {H : Type} {enc : TypeId × Value → H} {W : World} {r : Reach} {b0 base : Nat} {sp : Nat → Bool} {held : Bool} {v : Value} {d : DataW H} {p : List MemPlace}
    (hv : Value.okWide Tryz.prog W r b0 24 v) (h : DataW.Trod enc Tryz.prog W base sp held 24 v d p) : ∃ t : Lx.At, v = .agg #[.int .u8 (t.kind : Int), .string (Lx.bs t.text), .int .i64 t.n, .int .i64 t.at'] ∧ t.text.length ≤ Rows.uptoBulk d ∧ (-9223372036854775808 ≤ t.n ∧ t.n ≤ 9223372036854775807) := by
  obtain ⟨cs, rfl, _⟩ := okWide_struct Tryz.underlying24 hv
  obtain ⟨fuel, hf⟩ := h
  obtain ⟨t, hc, hn, hb⟩ := open_tokB hf
  have e : cs = #[.int .u8 (t.kind : Int), .string (Lx.bs t.text), .int .i64 t.n, .int .i64 t.at'] := by
    have h1 : cs.toList = [.int .u8 (t.kind : Int), .string (Lx.bs t.text), .int .i64 t.n, .int .i64 t.at'] := hc
    rw [← Array.toArray_toList (xs := cs), h1]
  exact ⟨t, by rw [e], hb, hn⟩
namespace lexReadsx
set_option maxRecDepth 100000 in
theorem contract (H : Type) (enc : TypeId × Value → H) (W : World) (base : Nat) (args : Array Value) (ds gs : List (DataW H)) (before : List MemPlace)
    (hval : ∀ (j : Nat) t v, Tryz.f3.params[j]? = some t → args[j]? = some v → Value.okWide Tryz.prog W .any base t v)
    (hW : DataW.Whole enc Tryz.prog Tryz.f3.params.toList Rows.lexReadsSpec.vars false W args.toList ds gs before) (hk : Rows.uptoSmall H (ds ++ gs) = true) (hL : laidMetH Tryz.prog Rows.lexReadsUptoRow.laid W) (hSh : W.ShapedOpen Tryz.prog) :
    Calls Tryz.prog 3 args W fun e W' => ∃ v, e = .returned v ∧ Rows.lexReadsSpec.post enc Tryz.prog Tryz.f3 false true false false W args v W' := by
  have hW' := hW
  obtain ⟨p, q, hA0, hV, rfl, hfz, hnd⟩ := hW
  have hA : DataW.TrodAll enc Tryz.prog W 0 (fun _ => true) true Tryz.f3.params.toList args.toList ds p := hA0
  rw [Tryz.params3] at hA hval
  obtain ⟨v0, vs0, d0, ds0, p0, q0, hargs, rfl, rfl, h0, r0⟩ := trodAll_cons hA
  obtain ⟨v1, vs1, d1, ds1, p1, q1, rfl, rfl, rfl, h1, r1⟩ := trodAll_cons r0
  obtain ⟨rfl, rfl, rfl⟩ := trodAll_nil r1
  obtain rfl : args = #[v0, v1] := by cases args; simp_all
  obtain ⟨rfl, rfl⟩ := trodVars_none hV
  have k0 := h0
  obtain ⟨s0, rfl, rfl, rfl, _⟩ := open_string Tryz.underlying9 (hval 0 9 v0 rfl rfl) h0
  have hlt0 : ∀ x ∈ ([] : List MemPlace), x.block < W.heap.size := fun x hx => by cases hx
  have k1 := h1
  have hlt1 : ∀ x ∈ p1, x.block < W.heap.size := fun x hx => by
    have := hW'.lt x (by simp [hx])
    simpa using this
  obtain ⟨t1, rfl, ht1, hb1⟩ := open_tokA (hval 1 24 v1 rfl rfl) h1
  have hbk : Rows.uptoBulkAll ([DataW.lit (.string s0.data.toList), d1] ++ []) ≤ 1048576 := of_decide_eq_true hk
  have hs0 : s0.data.toList.length ≤ 1048576 := by
    simp only [List.append_nil, Rows.uptoBulkAll, Rows.uptoBulk] at hbk
    omega
  have ht0 : t1.text.length ≤ 1048576 := by
    simp only [List.append_nil, Rows.uptoBulkAll] at hbk
    omega
  have hM := met_of (L := Rows.lexReadsUptoRow.laid) (by kernel_rfl) hL
  have hLx : HasL W := hasL_of hM (by simp [Rows.lexReadsUptoRow]) (by simp [Rows.lexReadsUptoRow]) (by simp [Rows.lexReadsUptoRow]) (by simp [Rows.lexReadsUptoRow]) (by simp [Rows.lexReadsUptoRow]) hSh
  have main : Calls Tryz.prog 3 #[.string s0, .agg #[.int .u8 (t1.kind : Int), .string (Lx.bs t1.text), .int .i64 t1.n, .int .i64 t1.at']] W fun e w' => e = .returned (.bool true) ∧ Below W.heap.size W w' := (by have h := lexReads_c s0.data.toList t1.text t1.kind t1.n t1.at' hs0 ht0 hb1 W hLx; rw [Lx.bs_of] at h; exact h)
  refine main.mono fun e W' ⟨he, hg⟩ => ?_
  subst he
  exact ⟨_, rfl, law_post hW' hg rfl rfl rfl rfl rfl (trodAll_cons_mk (Below.trod laidOut (by kernel_rfl) (of_decide_eq_true (by kernel_rfl)) k0 hg hlt0) (trodAll_cons_mk (Below.trod laidOut (by kernel_rfl) (of_decide_eq_true (by kernel_rfl)) k1 hg hlt1) trodAll_mk0))⟩
theorem laid_met (os : Os) : laidMet Tryz.prog Rows.lexReadsUptoRow.laid ((World.laidAll Tryz.prog os Rows.lexReadsUptoRow.laid).forCall (fun _ _ => 0) ⟨#[], #[.string .empty, .agg #[.int .u8 0, .string .empty, .int .i64 0, .int .i64 0]], []⟩).memory :=
  laidMet_laidAll _ (by kernel_rfl) (by kernel_rfl)
theorem reads (os : Os) {H : Type} (enc : TypeId × Value → H) : ∃ places, DataW.whole enc Tryz.prog ((World.laidAll Tryz.prog os Rows.lexReadsUptoRow.laid).forCall (fun _ _ => 0) ⟨#[], #[.string .empty, .agg #[.int .u8 0, .string .empty, .int .i64 0, .int .i64 0]], []⟩).memory Tryz.f3.params.toList Rows.lexReadsSpec.vars false (#[.string .empty, .agg #[.int .u8 0, .string .empty, .int .i64 0, .int .i64 0]] : Array Value).toList 8 = some ([.lit (.string []), .agg [.lit (.int .u8 0), .lit (.string []), .lit (.int .i64 0), .lit (.int .i64 0)]], [], places) :=
  ⟨[], by kernel_rfl⟩
set_option maxRecDepth 100000 in
theorem lifted (os : Os) (started : os.Started) (H : Type) (enc : TypeId × Value → H) (F : Stop.Interp) :
    ReturnsInHanded {} Tryz.checked os 3 .any ((Rows.OpenSpec.upto Rows.lexReadsSpec).preRow enc Tryz.prog Tryz.f3 Rows.lexReadsUptoRow.domain false Rows.lexReadsUptoRow.laid) (((Rows.OpenSpec.upto Rows.lexReadsSpec).at F).post enc Tryz.prog Tryz.f3 false true false false) := by
  obtain ⟨places, hx⟩ := reads os enc
  refine returnsInHanded_of_row (C := Tryz.checked) (s := Rows.OpenSpec.upto Rows.lexReadsSpec) own started (by kernel_rfl) Tryz.func3
    (witness_row_atRef (enc := enc) (C := Tryz.checked) false (World.laidAll Tryz.prog os Rows.lexReadsUptoRow.laid) #[.string .empty, .agg #[.int .u8 0, .string .empty, .int .i64 0, .int .i64 0]] (World.laidAll_os _ _ _) (by kernel_rfl) (by kernel_rfl) (by kernel_rfl)
      (OpenSpec.preRow_of_cond 8 hx (by kernel_rfl) (fun k hk => by cases hk; kernel_rfl) (by kernel_rfl) (laid_met os))) ?_
  intro W base args ds gs before hval hW _ hcond _ hL hSh _
  exact contract H enc W base args ds gs before hval hW (hcond _ rfl) hL hSh
theorem said : Rows.LexReadsUptoSaid :=
  OpenClaim.holds_of_cond 3 Tryz.f3 rfl rfl rfl rfl rfl rfl rfl ⟨rfl, rfl, rfl, rfl, rfl⟩ rfl rfl rfl rfl rfl (by kernel_rfl) Tryz.func3 (by kernel_rfl)
    (of_decide_eq_true (by kernel_rfl)) (by unfold Func.isWrapper; first | (rw [if_pos (by decide +kernel)]; kernel_rfl) | (rw [if_neg (by decide +kernel)]; exact ⟨rfl, rfl⟩))
    (fun os started H enc _ F => by rw [OpenClaim.pre_eq_preRow]; exact lifted os started H enc F)
theorem plain (f : FuncId) (fn : Func) (hf : Tryz.pinned.checked.prog.funcNamed "codicil/codicillaw09.LexReads" = some f) (hfn : Tryz.pinned.checked.prog.funcs[f]? = some fn) :
    true = Tryz.pinned.checked.prog.looks [] ∧ ∀ (j : Nat) t, fn.params[j]? = some t → Tryz.pinned.checked.prog.wantsStandIn t = false := by
  obtain rfl : f = 3 := Option.some.inj ((show Tryz.prog.funcNamed "codicil/codicillaw09.LexReads" = some 3 by kernel_rfl).symm.trans hf) |>.symm
  obtain rfl : fn = Tryz.f3 := (Option.some.inj (Tryz.func3.symm.trans hfn)).symm
  refine ⟨by kernel_rfl, fun j t ht => ?_⟩
  rw [Tryz.params3] at ht
  have hm : t = 9 ∨ t = 24 := by simpa [or_comm, or_left_comm, or_assoc] using Array.mem_of_getElem? ht
  rcases hm with rfl | rfl
  · exact (show Tryz.prog.wantsStandIn 9 = false by kernel_rfl)
  · exact (show Tryz.prog.wantsStandIn 24 = false by kernel_rfl)
/-- the card -/
theorem card : Rows.LexReadsUptoCardSaid :=
  Claim7.holds_tied_plain_at .later [] _ _ _ _ said (fun _ h => by cases h) (by kernel_rfl) (fun _ h => by cases h) lexReadsUpto_row_tie rfl ⟨rfl, rfl⟩ (by kernel_rfl) rfl plain (by kernel_rfl)
end lexReadsx
theorem lexReads_card : Rows.LexReadsUptoCardSaid := lexReadsx.card
end Go.Proofs.YtdejnphiejkglaaGreatDoor
