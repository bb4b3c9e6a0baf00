/- One more key in a tree of at most one node that has room: walked. -/
import Derived.Test.YtkigenldiinioabGreatDoorBtLM
import Derived.Test.YtkigenldiinioabGreatDoorBtNM
namespace Go.Proofs.YtkigenldiinioabGreatDoor
open Go.RowKit
open Vl (V)
attribute [local go_sem ↓] Go.wp_at_zero Go.wp_at_succ
/-- nothing but a few blocks has turned -/
structure Only (M : List Nat) (w w' : World) : Prop where
  os : w'.os = w.os
  tape : w'.tape = w.tape
  output : w'.output = w.output
  size : w.heap.size ≤ w'.heap.size
  block : ∀ k, k < w.heap.size → k ∉ M → w'.heap[k]? = w.heap[k]?
set_option maxHeartbeats 4000000 in
set_option maxRecDepth 100000 in
theorem with_nil (e lv : Nat) (w : World) :
    Calls Tryz.prog 26 #[.pointer none, .pointer (some ⟨e, 0, none⟩), .int .i64 (lv : Int)] w fun ex w' => ∃ g r, ex = .returned (.pointer (some ⟨g, 0, none⟩)) ∧ Below w.heap.size w w' ∧ NT w' (.node g r [e] .nil .nil .nil .nil) ∧ w.heap.size ≤ g ∧ w.heap.size ≤ r := by
  have C : Hid (∀ c, Calls Tryz.prog 52 #[.slice (some ⟨w.heap.size, 0, none⟩) 1 c] (w.alloc (.cells #[.pointer (some ⟨e, 0, none⟩)] 60)) fun ex w' => ∃ g r, ex = .returned (.pointer (some ⟨g, 0, none⟩)) ∧ Hid (Below w.heap.size w w' ∧ NT w' (.node g r [e] .nil .nil .nil .nil) ∧ w.heap.size ≤ g ∧ w.heap.size ≤ r)) := fun c => by
    refine (lay_small w.heap.size 0 1 c [e] _ rfl (by omega) (by omega) (fun j x hj => ?_)).mono ?_
    · cases j with
      | zero =>
        simp at hj
        subst hj
        exact cells_at (heap_alloc_new w _) 0 _ rfl
      | succ j => simp at hj
    · rintro ex w' ⟨g, r, rfl, hb, hN, h1, h2⟩
      have hs : w.heap.size ≤ (w.alloc (.cells #[.pointer (some ⟨e, 0, none⟩)] 60)).heap.size := by simp
      exact ⟨g, r, rfl, (below_new w _).trans (hb.mono hs), hN, Nat.le_trans hs h1, Nat.le_trans hs h2⟩
  go_enter Tryz.func26, Tryz.ntmps26
  go_wp2_with (go_at_call 52; refine (C.out _).mono ?_; rintro ex w2 ⟨g, r, rfl, HV⟩)
  go_ret
  exact ⟨g, r, rfl, HV.out⟩
theorem ptrs_one {l : List Nat} : ∀ u ∈ Bt.ptrs l, u.oneCell' = true := fun u hu => by
  rw [Bt.ptrs, List.mem_map] at hu
  obtain ⟨e, _, rfl⟩ := hu
  rfl
set_option maxHeartbeats 4000000 in
set_option maxRecDepth 100000 in
theorem with_few (g r e lv H : Nat) (es : List Nat) (key : Nat → V) (w : World) (hN : NT w (.node g r es .nil .nil .nil .nil)) (h1 : 1 ≤ es.length) (h3 : es.length < 3) (hk : ∀ x ∈ es, EK w H (key x) x) (he : EK w H (key e) e) (hr : Bt.Rises key es) (hH : H ≤ w.heap.size) :
    Calls Tryz.prog 26 #[.pointer (some ⟨g, 0, none⟩), .pointer (some ⟨e, 0, none⟩), .int .i64 (lv : Int)] w fun ex w' => ∃ r', ex = .returned (.pointer (some ⟨g, 0, none⟩)) ∧ Only [g, r] w w' ∧ NT w' (.node g r' (es.take (Bt.spot key (key e) es) ++ e :: es.drop (Bt.spot key (key e) es)) .nil .nil .nil .nil) ∧ (r' = r ∨ w.heap.size ≤ r') := by
  obtain ⟨⟨cap, hc, ho⟩, _⟩ := hN
  rw [Bt.flat_one _ _ _ (by omega)] at hc
  obtain ⟨n, hn⟩ : ∃ n, n = es.length := ⟨_, rfl⟩
  obtain ⟨i, hi⟩ : ∃ i, i = Bt.spot key (key e) es := ⟨_, rfl⟩
  have hil : i ≤ es.length := by rw [hi]; exact (Bt.spot_cut hr).1
  rw [← hn] at hc ho
  rw [← hi]
  have hrow : ∃ cur, w.heap[r]? = some (.cells cur 60 (0, 0)) := by
    rcases ho.2 with ⟨h, _⟩ | ⟨g', cap', cur, h, _, hcr, _⟩
    · cases h
    · cases h; exact ⟨cur, hcr⟩
  obtain ⟨cur, hcr⟩ := hrow
  have hgr : g ≠ r := fun q => by
    subst q
    rw [hc] at hcr
    simp only [Option.some.injEq, Obj.cells.injEq] at hcr
    exact absurd hcr.2.1 (by decide)
  have hgl := lt_of_row hc
  have hrl := lt_of_row hcr
  have hcell : ∀ j x, es[j]? = some x → w.cell? ⟨r, 0 + j, none⟩ = some (.pointer (some ⟨x, 0, none⟩)) := fun j x hj => by
    rw [Nat.zero_add]
    rcases ho.2 with ⟨h, _⟩ | ⟨g', cap', cur', h, _, hcr', _, _, _, htk⟩
    · cases h
    · cases h
      refine cells_at hcr' j _ ?_
      have hlt := (List.getElem?_eq_some_iff.1 hj).1
      have : (es.map fun e => Bt.ptr (some e))[j]? = some (.pointer (some ⟨x, 0, none⟩)) := by rw [List.getElem?_map, hj]; rfl
      rw [← htk, List.getElem?_take_of_lt (by omega), Array.getElem?_toList] at this
      exact this
  obtain ⟨hel, c0, c1, c2, c3, c4, c5, row, he1, he2⟩ := he
  have hel' : e < w.heap.size := lt_of_row he1
  have CP : Hid (∀ W', Below w.heap.size w W' → Calls Tryz.prog 53 #[.slice (some ⟨r, 0, none⟩) n cap, .agg #[c0, c1, c2, c3, c4, c5]] W' fun ex w' => ex = .returned (.tuple #[.int .i64 (i : Int), .bool (Bt.hit key (key e) es)]) ∧ Below W'.heap.size W' w') := fun W' hW => by
    rw [hi]
    exact placeOf_c r 0 n cap H es key (key e) _ W' hn (by omega) (by have := hW.size; omega) (fun j x hx => (hW.cell (p := ⟨r, 0 + j, none⟩) hrl).trans (hcell j x hx)) (fun x hx => (hk x hx).stays (hW.mono hH)) hr (Nat.le_trans hH hW.size) (rep_stays (hW.mono hH) (Nat.le_refl _) _ _ he2)
  have p0 : ∀ p : BelowOf w.heap.size w, p.W.cell? ⟨g, 0, none⟩ = some (.slice (some ⟨r, 0, none⟩) n cap) := fun p => cells_at ((p.h.block _ hgl).trans hc) 0 _ rfl
  have a0 : ∀ p : BelowOf w.heap.size w, p.W.cell? ⟨e, 0, none⟩ = some c0 := fun p => cells_at ((p.h.block _ hel').trans he1) 0 _ rfl
  have a1 : ∀ p : BelowOf w.heap.size w, p.W.cell? ⟨e, 1, none⟩ = some c1 := fun p => cells_at ((p.h.block _ hel').trans he1) 1 _ rfl
  have a2 : ∀ p : BelowOf w.heap.size w, p.W.cell? ⟨e, 2, none⟩ = some c2 := fun p => cells_at ((p.h.block _ hel').trans he1) 2 _ rfl
  have a3 : ∀ p : BelowOf w.heap.size w, p.W.cell? ⟨e, 3, none⟩ = some c3 := fun p => cells_at ((p.h.block _ hel').trans he1) 3 _ rfl
  have a4 : ∀ p : BelowOf w.heap.size w, p.W.cell? ⟨e, 4, none⟩ = some c4 := fun p => cells_at ((p.h.block _ hel').trans he1) 4 _ rfl
  have a5 : ∀ p : BelowOf w.heap.size w, p.W.cell? ⟨e, 5, none⟩ = some c5 := fun p => cells_at ((p.h.block _ hel').trans he1) 5 _ rfl
  obtain ⟨ht, hht⟩ : ∃ ht, ht = Bt.hit key (key e) es := ⟨_, rfl⟩
  rw [← hht] at CP
  -- what Insert makes, in whatever world
  have CI6 : Hid (∀ W, Below w.heap.size w W → Calls Tryz.prog 54 #[.slice (some ⟨r, 0, none⟩) n cap, .int .i64 (i : Int), .slice (some ⟨W.heap.size, 0, none⟩) 1 1] (W.alloc (.cells #[.pointer (some ⟨e, 0, none⟩)] 60)) fun ex w' => ∃ r' cap', ex = .returned (.slice (some ⟨r', 0, none⟩) (n + 1) cap') ∧ Hid (w'.ownsRow 0 60 1 (.slice (some ⟨r', 0, none⟩) (n + 1) cap') (n + 1) (Bt.ptrs (es.take i ++ e :: es.drop i)) ∧ Only [r] w w' ∧ (r' = r ∨ w.heap.size ≤ r') ∧ w'.heap[g]? = some (.cells #[.slice (some ⟨r, 0, none⟩) n cap, .pointer none, .pointer none, .pointer none, .pointer none, .int .i64 (n : Int)] 87 (0, 0)) ∧ r' ≠ g)) := fun W hW => by
    obtain ⟨X, hX⟩ : ∃ X, X = W.alloc (.cells #[.pointer (some ⟨e, 0, none⟩)] 60) := ⟨_, rfl⟩
    have bX : Below w.heap.size w X := by rw [hX]; exact hW.alloc hW.size _
    have sX : X.heap.size = W.heap.size + 1 := by rw [hX]; simp
    rw [← hX]
    have hoX : X.ownsRow 0 60 1 (.slice (some ⟨r, 0, none⟩) n cap) n (Bt.ptrs es) := by
      refine ⟨by rw [Bt.ptrs, List.length_map]; omega, ?_⟩
      rcases ho.2 with ⟨h, _⟩ | ⟨g', cap', cur', h, h2, h4, h5⟩
      · cases h
      · exact .inr ⟨g', cap', cur', h, h2, (bX.block _ (lt_of_row h4)).trans h4, h5⟩
    refine (insE_c n i W.heap.size (Bt.ptrs es) (.pointer (some ⟨e, 0, none⟩)) _ X hoX (by omega) (by omega) (by rw [hX]; exact heap_alloc_new W _) (fun q => absurd (Option.some.inj (show some r = some W.heap.size from q)) (by have := hW.size; omega)) ptrs_one rfl).mono ?_
    rintro ex w' ⟨v', rfl, o1, g1, at1⟩
    have e1 : (Bt.ptrs es).take i ++ Value.pointer (some ⟨e, 0, none⟩) :: (Bt.ptrs es).drop i = Bt.ptrs (es.take i ++ e :: es.drop i) := by simp [Bt.ptrs]
    rw [e1] at o1
    obtain ⟨r', cap', rfl⟩ := ownsRow_succ o1
    have hr' : r' = r ∨ w.heap.size ≤ r' := by
      rcases at1 with q | q
      · left; exact Option.some.inj (show some r' = some r from q)
      · right
        have q2 := Option.some.inj (show some r' = some X.heap.size from q)
        have := bX.size
        omega
    refine ⟨r', cap', rfl, o1, ⟨g1.os.trans bX.os, g1.tape.trans bX.tape, g1.output.trans bX.output, Nat.le_trans bX.size g1.size, fun k hk hm => ?_⟩, hr', ?_, ?_⟩
    · exact (g1.block k (Nat.lt_of_lt_of_le hk bX.size) (fun q => hm (by rw [Option.some.inj (show some k = some r from q)]; simp))).trans (bX.block k hk)
    · exact (g1.block g (Nat.lt_of_lt_of_le hgl bX.size) (fun q => hgr (Option.some.inj (show some g = some r from q)))).trans ((bX.block g hgl).trans hc)
    · rcases hr' with q | q
      · rw [q]; exact fun q => hgr q.symm
      · omega
  have HG : Hid (∀ W, Below w.heap.size w W → W.cell? ⟨g, 0, none⟩ = some (.slice (some ⟨r, 0, none⟩) n cap)) := fun W hW => cells_at ((hW.block _ hgl).trans hc) 0 _ rfl
  have HL : Hid (n = es.length ∧ n < 3 ∧ i ≤ es.length ∧ g < w.heap.size) := ⟨hn, by omega, hil, hgl⟩
  have q3 : (n : Int) < 3 := by omega
  obtain ⟨n1, hn1⟩ : ∃ n1, n1 = n + 1 := ⟨_, rfl⟩
  obtain ⟨v1, v2⟩ : IntKind.i64.wrap ((n : Int) + 1) = (n1 : Int) ∧ wrap64 ((n : Int) + 1) = (n1 : Int) := Bt.wr (by omega) (by omega)
  have HN1 : Hid (n1 = n + 1) := hn1
  clear hn1 hht hi hn hil h1 h3 hk hr hH hel hel' he1 he2 hcell hcr hgr hgl hrl hc ho
  go_enter Tryz.func26, Tryz.ntmps26
  go_upto_region 3 with fail
  refine wp_region_below w.heap.size w (Below.refl _ _) (by kernel_rfl) (by kernel_rfl) ?_
  repeat (go_big_quiet_step (first | (go_at_call 53; exact below_call _ (Nat.le_refl _) (CP.out _ (BelowOf.h _)))))
  refine wpQuiet_nil ?_
  intro _ hw'
  obtain ⟨pq, hw''⟩ := hw'
  subst hw''
  have HB2 : Hid (Below w.heap.size w pq.W) := pq.h
  have c0 := HG.out _ pq.h
  clear p0 a0 a1 a2 a3 a4 a5 CP
  go_wp2_with fail
  refine (CI6.out _ HB2.out).mono ?_
  rintro ex w4 ⟨r', cap', rfl, HV⟩
  clear c0 CI6
  have d0 : w4.cell? ⟨g, 0, none⟩ = some (.slice (some ⟨r, 0, none⟩) n cap) := cells_at HV.out.2.2.2.1 0 _ rfl
  have d5 : w4.cell? ⟨g, 5, none⟩ = some (.int .i64 (n : Int)) := cells_at HV.out.2.2.2.1 5 _ rfl
  have fz := row_freeV HV.out.2.2.2.1
  go_wp2
  clear v1 v2
  go_ret
  obtain ⟨o1, on, hr', hg4, hne⟩ := HV.out
  have e5 := heap_setCell_same w4 g 0 _ 87 (.slice (some ⟨r', 0, none⟩) (n + 1) cap') hg4
  have e6 := heap_setCell_same _ g 5 _ 87 (.int .i64 (n1 : Int)) e5
  refine ⟨r', rfl, ⟨on.os, on.tape, on.output, by simpa using on.size, fun k hk hm => ?_⟩, ⟨⟨cap', ?_, ?_⟩, trivial, trivial, trivial, trivial⟩, hr'⟩
  · rw [heap_setCell_other _ _ _ _ (fun q => hm (by simp [q])), heap_setCell_other _ _ _ _ (fun q => hm (by simp [q]))]
    exact on.block k hk (fun q => hm (by simp at q; simp [q]))
  · have hlen : (es.take i ++ e :: es.drop i).length = n + 1 := by have := HL.out; simp; omega
    rw [Bt.flat_one _ _ _ (by have := HL.out; omega), hlen, ← HN1.out]
    rw [HN1.out] at e6 ⊢
    exact e6
  · have hlen : (es.take i ++ e :: es.drop i).length = n + 1 := by have := HL.out; simp; omega
    rw [hlen]
    refine ⟨by rw [List.length_map, hlen, Nat.mul_one], ?_⟩
    rcases o1.2 with ⟨h, _⟩ | ⟨g', cap2, cur', h, h2, h4, h5⟩
    · cases h
    · refine .inr ⟨g', cap2, cur', h, h2, ?_, h5⟩
      have hg' : g' ≠ g := by cases h; exact hne
      rw [heap_setCell_other _ _ _ _ hg', heap_setCell_other _ _ _ _ hg']
      exact h4
end Go.Proofs.YtkigenldiinioabGreatDoor
