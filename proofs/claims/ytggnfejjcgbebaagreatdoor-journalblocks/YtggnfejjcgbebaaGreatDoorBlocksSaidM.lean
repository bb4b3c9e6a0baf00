/- JournalBlocks: any parts make a block, or are told why not; any block is right or not, and has the texts, the head and the frame, that the document says: for whatever parts, block and revision the form lets in. -/
import Derived.Test.YtggnfejjcgbebaaGreatDoorYZM
import Derived.Test.YtggnfejjcgbebaaGreatDoorXFM
import Derived.Test.YtggnfejjcgbebaaGreatDoorJKM
namespace Go.Proofs.YtggnfejjcgbebaaGreatDoor
open Go.ChangeShapes Go.WideShapes Go.ChangeAt Go.RowKit
open Go.ChangeMaps (open_string shut_string)
open Vl (V)
namespace journalBlocksx
set_option maxRecDepth 100000 in
theorem contract (H : Type) (enc : TypeId × Value → H) (W : World) (base : Nat) (args : Array Value) (ds gs : List (DataW H)) (before : List MemPlace)
    (hval : ∀ (j : Nat) t v, Tryz.f3.params[j]? = some t → args[j]? = some v → Value.okWide Tryz.prog W .any base t v)
    (hW : DataW.Whole enc Tryz.prog Tryz.f3.params.toList Rows.journalBlocksSpec.vars false W args.toList ds gs before) (hsz0 : (DataW.weightsEach Tryz.prog (Tryz.f3.params.toList ++ (OpenSpec.ofChange Rows.journalBlocksSpec).bare.plain.varTypes Tryz.prog) (ds ++ gs)).all (· ≤ reachBytes) = true) (hL : laidMetH Tryz.prog Rows.journalBlocksRow.laid W) :
    Calls Tryz.prog 3 args W fun e W' => ∃ v, e = .returned v ∧ Rows.journalBlocksSpec.post enc Tryz.prog Tryz.f3 false true false false W args v W' := by
  have hW' := hW
  obtain ⟨p, q, hA0, hV, rfl, hfz, hnd⟩ := hW
  have hA : DataW.TrodAll enc Tryz.prog W 0 (fun _ => true) true Tryz.f3.params.toList args.toList ds p := hA0
  have hsz : (DataW.weightsEach Tryz.prog (Tryz.f3.params.toList ++ []) (ds ++ gs)).all (· ≤ reachBytes) = true := hsz0
  rw [Tryz.params3] at hA hval hsz
  obtain ⟨v0, vs0, d0, ds0, p0, q0, hargs, rfl, rfl, h0, r0⟩ := trodAll_cons hA
  obtain ⟨v1, vs1, d1, ds1, p1, q1, rfl, rfl, rfl, h1, r1⟩ := trodAll_cons r0
  obtain ⟨v2, vs2, d2, ds2, p2, q2, rfl, rfl, rfl, h2, r2⟩ := trodAll_cons r1
  obtain ⟨v3, vs3, d3, ds3, p3, q3, rfl, rfl, rfl, h3, r3⟩ := trodAll_cons r2
  obtain ⟨v4, vs4, d4, ds4, p4, q4, rfl, rfl, rfl, h4, r4⟩ := trodAll_cons r3
  obtain ⟨v5, vs5, d5, ds5, p5, q5, rfl, rfl, rfl, h5, r5⟩ := trodAll_cons r4
  obtain ⟨rfl, rfl, rfl⟩ := trodAll_nil r5
  obtain rfl : args = #[v0, v1, v2, v3, v4, v5] := by cases args; simp_all
  obtain ⟨rfl, rfl⟩ := trodVars_none hV
  have k0 := h0
  obtain ⟨z0, rfl, rfl, rfl, hw0⟩ := open_int Tryz.underlying22 (hval 0 22 v0 rfl rfl) h0
  obtain ⟨n0, rfl, hn0⟩ := nat_u64 hw0
  have hlt0 : ∀ x ∈ ([] : List MemPlace), x.block < W.heap.size := fun x hx => by cases hx
  have k1 := h1
  obtain ⟨s1, rfl, rfl, rfl, _⟩ := open_string Tryz.underlying9 (hval 1 9 v1 rfl rfl) h1
  have hs1 : s1.size ≤ 140737488351232 := by
    have := sized_string hsz (j := 1) (t := 9) rfl rfl
    rw [Lib.size_eq]; exact this
  have hlt1 : ∀ x ∈ ([] : List MemPlace), x.block < W.heap.size := fun x hx => by cases hx
  have k2 := h2
  have hlt2 : ∀ x ∈ p2, x.block < W.heap.size := fun x hx => by
    have := hW'.lt x (by simp [hx])
    simpa using this
  obtain ⟨a2, n2, c2, l2, rfl, hS2, hx2⟩ := open_strs (hval 2 23 v2 rfl rfl) h2
  have k3 := h3
  have hlt3 : ∀ x ∈ p3, x.block < W.heap.size := fun x hx => by
    have := hW'.lt x (by simp [hx])
    simpa using this
  obtain ⟨l3, a3, c3, rfl, hl3, hz3, hR3⟩ := open_revz (hval 3 24 v3 rfl rfl) h3 (fun n hn => by
    have := List.all_eq_true.1 hsz n (DataW.weights_mem_each (j := 3) rfl rfl n hn)
    exact of_decide_eq_true this)
  have k4 := h4
  have hlt4 : ∀ x ∈ p4, x.block < W.heap.size := fun x hx => by
    have := hW'.lt x (by simp [hx])
    simpa using this
  obtain ⟨b4, sa4, sn4, sc4, ra4, rn4, rc4, rfl, hB4⟩ := open_block (hval 4 26 v4 rfl rfl) h4
  have k5 := h5
  have hlt5 : ∀ x ∈ p5, x.block < W.heap.size := fun x hx => by
    have := hW'.lt x (by simp [hx])
    simpa using this
  obtain ⟨r5e, xk5, xb5, xn5, xs5, xa5, xl5, xc5, ya5, yl5, yc5, rfl, hR5, hx5, hf5⟩ := open_reva (hval 5 34 v5 rfl rfl) h5
  have hM := met_of (L := Rows.journalBlocksRow.laid) (by kernel_rfl) hL
  have hK : HasK W := hasK_in hM (by rw [← constants_is]; simp [Rows.journalBlocksRow])
  have hU : Bn.HasU W := hasU_of hM (by simp [Rows.journalBlocksRow]) (by simp [Rows.journalBlocksRow])
  have main : Calls Tryz.prog 3 #[.int .u64 (n0 : Int), .string s1, .slice a2 n2 c2, .slice a3 l3.length c3, .agg #[.int .u64 (b4.seq : Int), .string b4.prev, .string b4.root, .slice sa4 sn4 sc4, .slice ra4 rn4 rc4], .agg #[.int .u8 (r5e.kind : Int), .string r5e.table, .int .u64 (r5e.doc : Int), .int .u64 (r5e.ver : Int), .int .u8 (xk5 : Int), .bool xb5, .int .i64 xn5, .string xs5, .slice xa5 xl5 xc5, .slice ya5 yl5 yc5]] W fun e w' => e = .returned (.bool true) ∧ Below W.heap.size W w' := blocks_c n0 s1 l2 l3 a2 n2 c2 a3 l3.length c3 b4 sa4 sn4 sc4 ra4 rn4 rc4 r5e xk5 xb5 xn5 xs5 xa5 xl5 xc5 ya5 yl5 yc5 W hU hK ⟨hn0, by show s1.size ≤ maxLen; unfold maxLen; omega, by show Jn.ahead.size ≤ maxLen; decide, hS2, hx2, rfl, by show l3.length ≤ maxLen; unfold maxLen; omega, hR3⟩ hz3 hB4 hR5 hx5 hf5
  refine main.mono fun e W' ⟨he, hg⟩ => ?_
  subst he
  exact ⟨_, rfl, law_post hW' hg rfl rfl rfl rfl rfl (trodAll_cons_mk (Below.trod laidOut (by kernel_rfl) (of_decide_eq_true (by kernel_rfl)) k0 hg hlt0) (trodAll_cons_mk (Below.trod laidOut (by kernel_rfl) (of_decide_eq_true (by kernel_rfl)) k1 hg hlt1) (trodAll_cons_mk (Below.trod laidOut (by kernel_rfl) (of_decide_eq_true (by kernel_rfl)) k2 hg hlt2) (trodAll_cons_mk (Below.trod laidOut (by kernel_rfl) (of_decide_eq_true (by kernel_rfl)) k3 hg hlt3) (trodAll_cons_mk (Below.trod laidOut (by kernel_rfl) (of_decide_eq_true (by kernel_rfl)) k4 hg hlt4) (trodAll_cons_mk (Below.trod laidOut (by kernel_rfl) (of_decide_eq_true (by kernel_rfl)) k5 hg hlt5) trodAll_mk0))))))⟩
theorem laid_met (os : Os) : laidMet Tryz.prog Rows.journalBlocksRow.laid ((World.laidAll Tryz.prog os Rows.journalBlocksRow.laid).forCall (fun _ _ => 0) ⟨#[], #[.int .u64 0, .string .empty, .slice none 0 0, .slice none 0 0, .agg #[.int .u64 0, .string .empty, .string .empty, .slice none 0 0, .slice none 0 0], .agg #[.int .u8 0, .string .empty, .int .u64 0, .int .u64 0, .int .u8 0, .bool false, .int .i64 0, .string .empty, .slice none 0 0, .slice none 0 0]], []⟩).memory :=
  laidMet_laidAll _ (by kernel_rfl) (by kernel_rfl)
theorem reads (os : Os) {H : Type} (enc : TypeId × Value → H) : ∃ places, DataW.whole enc Tryz.prog ((World.laidAll Tryz.prog os Rows.journalBlocksRow.laid).forCall (fun _ _ => 0) ⟨#[], #[.int .u64 0, .string .empty, .slice none 0 0, .slice none 0 0, .agg #[.int .u64 0, .string .empty, .string .empty, .slice none 0 0, .slice none 0 0], .agg #[.int .u8 0, .string .empty, .int .u64 0, .int .u64 0, .int .u8 0, .bool false, .int .i64 0, .string .empty, .slice none 0 0, .slice none 0 0]], []⟩).memory Tryz.f3.params.toList Rows.journalBlocksSpec.vars false (#[.int .u64 0, .string .empty, .slice none 0 0, .slice none 0 0, .agg #[.int .u64 0, .string .empty, .string .empty, .slice none 0 0, .slice none 0 0], .agg #[.int .u8 0, .string .empty, .int .u64 0, .int .u64 0, .int .u8 0, .bool false, .int .i64 0, .string .empty, .slice none 0 0, .slice none 0 0]] : Array Value).toList 8 = some ([.lit (.int .u64 0), .lit (.string []), .nil, .nil, .agg [.lit (.int .u64 0), .lit (.string []), .lit (.string []), .nil, .nil], .agg [.lit (.int .u8 0), .lit (.string []), .lit (.int .u64 0), .lit (.int .u64 0), .agg [.lit (.int .u8 0), .lit (.bool false), .lit (.int .i64 0), .lit (.string []), .nil, .nil]]], [], places) :=
  ⟨[], by kernel_rfl⟩
set_option maxRecDepth 100000 in
theorem lifted (os : Os) (started : os.Started) (H : Type) (enc : TypeId × Value → H) (F : Stop.Interp) :
    ReturnsInHanded {} Tryz.checked os 3 .any ((OpenSpec.ofChange Rows.journalBlocksSpec).preRow enc Tryz.prog Tryz.f3 Rows.journalBlocksRow.domain false Rows.journalBlocksRow.laid) (((OpenSpec.ofChange Rows.journalBlocksSpec).at F).post enc Tryz.prog Tryz.f3 false true false false) := by
  obtain ⟨places, hx⟩ := reads os enc
  refine returnsInHanded_of_row (C := Tryz.checked) (s := OpenSpec.ofChange Rows.journalBlocksSpec) own started (by kernel_rfl) Tryz.func3
    (witness_row_atRef (enc := enc) (C := Tryz.checked) false (World.laidAll Tryz.prog os Rows.journalBlocksRow.laid) #[.int .u64 0, .string .empty, .slice none 0 0, .slice none 0 0, .agg #[.int .u64 0, .string .empty, .string .empty, .slice none 0 0, .slice none 0 0], .agg #[.int .u8 0, .string .empty, .int .u64 0, .int .u64 0, .int .u8 0, .bool false, .int .i64 0, .string .empty, .slice none 0 0, .slice none 0 0]] (World.laidAll_os _ _ _) (by kernel_rfl) (by kernel_rfl) (by kernel_rfl)
      (OpenSpec.preRow_of_cond 8 hx (by kernel_rfl) (fun k hk => by cases hk) (by kernel_rfl) (laid_met os))) ?_
  intro W base args ds gs before hval hW _ _ hsz hL _ _
  exact contract H enc W base args ds gs before hval hW hsz hL
theorem said : Rows.JournalBlocksSaid :=
  OpenClaim.holds_of_cond 3 Tryz.f3 rfl rfl rfl rfl rfl rfl rfl ⟨rfl, rfl, rfl, rfl, rfl⟩ rfl rfl rfl rfl rfl (by kernel_rfl) Tryz.func3 (by kernel_rfl)
    (of_decide_eq_true (by kernel_rfl)) (by unfold Func.isWrapper; first | (rw [if_pos (by decide +kernel)]; kernel_rfl) | (rw [if_neg (by decide +kernel)]; exact ⟨rfl, rfl⟩))
    (fun os started H enc _ F => by rw [OpenClaim.pre_eq_preRow]; exact lifted os started H enc F)
theorem plain (f : FuncId) (fn : Func) (hf : Tryz.pinned.checked.prog.funcNamed "codicil/codicillaw06.JournalBlocks" = some f) (hfn : Tryz.pinned.checked.prog.funcs[f]? = some fn) :
    false = Tryz.pinned.checked.prog.looks [] ∧ ∀ (j : Nat) t, fn.params[j]? = some t → Tryz.pinned.checked.prog.wantsStandIn t = false := by
  obtain rfl : f = 3 := Option.some.inj ((show Tryz.prog.funcNamed "codicil/codicillaw06.JournalBlocks" = some 3 by kernel_rfl).symm.trans hf) |>.symm
  obtain rfl : fn = Tryz.f3 := (Option.some.inj (Tryz.func3.symm.trans hfn)).symm
  refine ⟨by kernel_rfl, fun j t ht => ?_⟩
  rw [Tryz.params3] at ht
  have hm : t = 22 ∨ t = 9 ∨ t = 23 ∨ t = 24 ∨ t = 26 ∨ t = 34 := by simpa [or_comm, or_left_comm, or_assoc] using Array.mem_of_getElem? ht
  rcases hm with rfl | rfl | rfl | rfl | rfl | rfl
  · exact (show Tryz.prog.wantsStandIn 22 = false by kernel_rfl)
  · exact (show Tryz.prog.wantsStandIn 9 = false by kernel_rfl)
  · exact (show Tryz.prog.wantsStandIn 23 = false by kernel_rfl)
  · exact (show Tryz.prog.wantsStandIn 24 = false by kernel_rfl)
  · exact (show Tryz.prog.wantsStandIn 26 = false by kernel_rfl)
  · exact (show Tryz.prog.wantsStandIn 34 = false by kernel_rfl)
/-- the card -/
theorem card : Rows.JournalBlocksCardSaid :=
  Claim7.holds_tied_plain_at .later [] _ _ _ _ said (fun _ h => by cases h) (by kernel_rfl) (fun _ h => by cases h) journalBlocks_row_tie rfl ⟨rfl, rfl⟩ (by kernel_rfl) rfl plain (by kernel_rfl)
end journalBlocksx
theorem journalBlocks_card : Rows.JournalBlocksCardSaid := journalBlocksx.card
end Go.Proofs.YtggnfejjcgbebaaGreatDoor
