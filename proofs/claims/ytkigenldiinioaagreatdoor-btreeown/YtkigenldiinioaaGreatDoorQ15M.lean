/- Several texts, joined: BtR, BtD, ShelfV, BinU -/
import Derived.Test.YtkigenldiinioaaGreatDoorQ13M
import Derived.Test.YtkigenldiinioaaGreatDoorBtNM
import Derived.Test.YtkigenldiinioaaGreatDoorQ12M
import Derived.Shelf.LaysC
import Derived.Shelf.Unicode.ValidAny
import Derived.Test.YtkigenldiinioaaGreatDoorProg
import Derived.Test.YtkigenldiinioaaGreatDoorCheckWM
import Derived.Test.YtkigenldiinioaaGreatDoorQ10M
/- One more key in a tree of at most one node that has room: walked. -/
namespace Go.Proofs.YtkigenldiinioaaGreatDoor
open Go.RowKit
open Vl (V)
attribute [local go_sem ↓] Go.wp_at_zero Go.wp_at_succ
/-- nothing but a few blocks has turned -/
structure Only (M : List Nat) (w w' : World) : Prop where
  os : w'.os = w.os
  tape : w'.tape = w.tape
  output : w'.output = w.output
  size : w.heap.size ≤ w'.heap.size
  block : ∀ k, k < w.heap.size → k ∉ M → w'.heap[k]? = w.heap[k]?
set_option maxHeartbeats 4000000 in
set_option maxRecDepth 100000 in
theorem with_nil (e lv : Nat) (w : World) :
    Calls Tryz.prog 40 #[.pointer none, .pointer (some ⟨e, 0, none⟩), .int .i64 (lv : Int)] w fun ex w' => ∃ g r, ex = .returned (.pointer (some ⟨g, 0, none⟩)) ∧ Below w.heap.size w w' ∧ NT w' (.node g r [e] .nil .nil .nil .nil) ∧ w.heap.size ≤ g ∧ w.heap.size ≤ r := by
  have C : Hid (∀ c, Calls Tryz.prog 63 #[.slice (some ⟨w.heap.size, 0, none⟩) 1 c] (w.alloc (.cells #[.pointer (some ⟨e, 0, none⟩)] 71)) fun ex w' => ∃ g r, ex = .returned (.pointer (some ⟨g, 0, none⟩)) ∧ Hid (Below w.heap.size w w' ∧ NT w' (.node g r [e] .nil .nil .nil .nil) ∧ w.heap.size ≤ g ∧ w.heap.size ≤ r)) := fun c => by
    refine (lay_small w.heap.size 0 1 c [e] _ rfl (by omega) (by omega) (fun j x hj => ?_)).mono ?_
    · cases j with
      | zero =>
        simp at hj
        subst hj
        exact cells_at (heap_alloc_new w _) 0 _ rfl
      | succ j => simp at hj
    · rintro ex w' ⟨g, r, rfl, hb, hN, h1, h2⟩
      have hs : w.heap.size ≤ (w.alloc (.cells #[.pointer (some ⟨e, 0, none⟩)] 71)).heap.size := by simp
      exact ⟨g, r, rfl, (below_new w _).trans (hb.mono hs), hN, Nat.le_trans hs h1, Nat.le_trans hs h2⟩
  go_enter Tryz.func40, Tryz.ntmps40
  go_wp2_with (go_at_call 63; refine (C.out _).mono ?_; rintro ex w2 ⟨g, r, rfl, HV⟩)
  go_ret
  exact ⟨g, r, rfl, HV.out⟩
theorem ptrs_one {l : List Nat} : ∀ u ∈ Bt.ptrs l, u.oneCell' = true := fun u hu => by
  rw [Bt.ptrs, List.mem_map] at hu
  obtain ⟨e, _, rfl⟩ := hu
  rfl
set_option maxHeartbeats 4000000 in
set_option maxRecDepth 100000 in
theorem with_few (g r e lv H : Nat) (es : List Nat) (key : Nat → V) (w : World) (hN : NT w (.node g r es .nil .nil .nil .nil)) (h1 : 1 ≤ es.length) (h3 : es.length < 3) (hk : ∀ x ∈ es, EK w H (key x) x) (he : EK w H (key e) e) (hr : Bt.Rises key es) (hH : H ≤ w.heap.size) :
    Calls Tryz.prog 40 #[.pointer (some ⟨g, 0, none⟩), .pointer (some ⟨e, 0, none⟩), .int .i64 (lv : Int)] w fun ex w' => ∃ r', ex = .returned (.pointer (some ⟨g, 0, none⟩)) ∧ Only [g, r] w w' ∧ NT w' (.node g r' (es.take (Bt.spot key (key e) es) ++ e :: es.drop (Bt.spot key (key e) es)) .nil .nil .nil .nil) ∧ (r' = r ∨ w.heap.size ≤ r') := by
  obtain ⟨⟨cap, hc, ho⟩, _⟩ := hN
  rw [Bt.flat_one _ _ _ (by omega)] at hc
  obtain ⟨n, hn⟩ : ∃ n, n = es.length := ⟨_, rfl⟩
  obtain ⟨i, hi⟩ : ∃ i, i = Bt.spot key (key e) es := ⟨_, rfl⟩
  have hil : i ≤ es.length := by rw [hi]; exact (Bt.spot_cut hr).1
  rw [← hn] at hc ho
  rw [← hi]
  have hrow : ∃ cur, w.heap[r]? = some (.cells cur 71 (0, 0)) := by
    rcases ho.2 with ⟨h, _⟩ | ⟨g', cap', cur, h, _, hcr, _⟩
    · cases h
    · cases h; exact ⟨cur, hcr⟩
  obtain ⟨cur, hcr⟩ := hrow
  have hgr : g ≠ r := fun q => by
    subst q
    rw [hc] at hcr
    simp only [Option.some.injEq, Obj.cells.injEq] at hcr
    exact absurd hcr.2.1 (by decide)
  have hgl := lt_of_row hc
  have hrl := lt_of_row hcr
  have hcell : ∀ j x, es[j]? = some x → w.cell? ⟨r, 0 + j, none⟩ = some (.pointer (some ⟨x, 0, none⟩)) := fun j x hj => by
    rw [Nat.zero_add]
    rcases ho.2 with ⟨h, _⟩ | ⟨g', cap', cur', h, _, hcr', _, _, _, htk⟩
    · cases h
    · cases h
      refine cells_at hcr' j _ ?_
      have hlt := (List.getElem?_eq_some_iff.1 hj).1
      have : (es.map fun e => Bt.ptr (some e))[j]? = some (.pointer (some ⟨x, 0, none⟩)) := by rw [List.getElem?_map, hj]; rfl
      rw [← htk, List.getElem?_take_of_lt (by omega), Array.getElem?_toList] at this
      exact this
  obtain ⟨hel, c0, c1, c2, c3, c4, c5, row, he1, he2⟩ := he
  have hel' : e < w.heap.size := lt_of_row he1
  have CP : Hid (∀ W', Below w.heap.size w W' → Calls Tryz.prog 64 #[.slice (some ⟨r, 0, none⟩) n cap, .agg #[c0, c1, c2, c3, c4, c5]] W' fun ex w' => ex = .returned (.tuple #[.int .i64 (i : Int), .bool (Bt.hit key (key e) es)]) ∧ Below W'.heap.size W' w') := fun W' hW => by
    rw [hi]
    exact placeOf_c r 0 n cap H es key (key e) _ W' hn (by omega) (by have := hW.size; omega) (fun j x hx => (hW.cell (p := ⟨r, 0 + j, none⟩) hrl).trans (hcell j x hx)) (fun x hx => (hk x hx).stays (hW.mono hH)) hr (Nat.le_trans hH hW.size) (rep_stays (hW.mono hH) (Nat.le_refl _) _ _ he2)
  have p0 : ∀ p : BelowOf w.heap.size w, p.W.cell? ⟨g, 0, none⟩ = some (.slice (some ⟨r, 0, none⟩) n cap) := fun p => cells_at ((p.h.block _ hgl).trans hc) 0 _ rfl
  have a0 : ∀ p : BelowOf w.heap.size w, p.W.cell? ⟨e, 0, none⟩ = some c0 := fun p => cells_at ((p.h.block _ hel').trans he1) 0 _ rfl
  have a1 : ∀ p : BelowOf w.heap.size w, p.W.cell? ⟨e, 1, none⟩ = some c1 := fun p => cells_at ((p.h.block _ hel').trans he1) 1 _ rfl
  have a2 : ∀ p : BelowOf w.heap.size w, p.W.cell? ⟨e, 2, none⟩ = some c2 := fun p => cells_at ((p.h.block _ hel').trans he1) 2 _ rfl
  have a3 : ∀ p : BelowOf w.heap.size w, p.W.cell? ⟨e, 3, none⟩ = some c3 := fun p => cells_at ((p.h.block _ hel').trans he1) 3 _ rfl
  have a4 : ∀ p : BelowOf w.heap.size w, p.W.cell? ⟨e, 4, none⟩ = some c4 := fun p => cells_at ((p.h.block _ hel').trans he1) 4 _ rfl
  have a5 : ∀ p : BelowOf w.heap.size w, p.W.cell? ⟨e, 5, none⟩ = some c5 := fun p => cells_at ((p.h.block _ hel').trans he1) 5 _ rfl
  obtain ⟨ht, hht⟩ : ∃ ht, ht = Bt.hit key (key e) es := ⟨_, rfl⟩
  rw [← hht] at CP
  -- what Insert makes, in whatever world
  have CI6 : Hid (∀ W, Below w.heap.size w W → Calls Tryz.prog 65 #[.slice (some ⟨r, 0, none⟩) n cap, .int .i64 (i : Int), .slice (some ⟨W.heap.size, 0, none⟩) 1 1] (W.alloc (.cells #[.pointer (some ⟨e, 0, none⟩)] 71)) fun ex w' => ∃ r' cap', ex = .returned (.slice (some ⟨r', 0, none⟩) (n + 1) cap') ∧ Hid (w'.ownsRow 0 71 1 (.slice (some ⟨r', 0, none⟩) (n + 1) cap') (n + 1) (Bt.ptrs (es.take i ++ e :: es.drop i)) ∧ Only [r] w w' ∧ (r' = r ∨ w.heap.size ≤ r') ∧ w'.heap[g]? = some (.cells #[.slice (some ⟨r, 0, none⟩) n cap, .pointer none, .pointer none, .pointer none, .pointer none, .int .i64 (n : Int)] 95 (0, 0)) ∧ r' ≠ g)) := fun W hW => by
    obtain ⟨X, hX⟩ : ∃ X, X = W.alloc (.cells #[.pointer (some ⟨e, 0, none⟩)] 71) := ⟨_, rfl⟩
    have bX : Below w.heap.size w X := by rw [hX]; exact hW.alloc hW.size _
    have sX : X.heap.size = W.heap.size + 1 := by rw [hX]; simp
    rw [← hX]
    have hoX : X.ownsRow 0 71 1 (.slice (some ⟨r, 0, none⟩) n cap) n (Bt.ptrs es) := by
      refine ⟨by rw [Bt.ptrs, List.length_map]; omega, ?_⟩
      rcases ho.2 with ⟨h, _⟩ | ⟨g', cap', cur', h, h2, h4, h5⟩
      · cases h
      · exact .inr ⟨g', cap', cur', h, h2, (bX.block _ (lt_of_row h4)).trans h4, h5⟩
    refine (insE_c n i W.heap.size (Bt.ptrs es) (.pointer (some ⟨e, 0, none⟩)) _ X hoX (by omega) (by omega) (by rw [hX]; exact heap_alloc_new W _) (fun q => absurd (Option.some.inj (show some r = some W.heap.size from q)) (by have := hW.size; omega)) ptrs_one rfl).mono ?_
    rintro ex w' ⟨v', rfl, o1, g1, at1⟩
    have e1 : (Bt.ptrs es).take i ++ Value.pointer (some ⟨e, 0, none⟩) :: (Bt.ptrs es).drop i = Bt.ptrs (es.take i ++ e :: es.drop i) := by simp [Bt.ptrs]
    rw [e1] at o1
    obtain ⟨r', cap', rfl⟩ := ownsRow_succ o1
    have hr' : r' = r ∨ w.heap.size ≤ r' := by
      rcases at1 with q | q
      · left; exact Option.some.inj (show some r' = some r from q)
      · right
        have q2 := Option.some.inj (show some r' = some X.heap.size from q)
        have := bX.size
        omega
    refine ⟨r', cap', rfl, o1, ⟨g1.os.trans bX.os, g1.tape.trans bX.tape, g1.output.trans bX.output, Nat.le_trans bX.size g1.size, fun k hk hm => ?_⟩, hr', ?_, ?_⟩
    · exact (g1.block k (Nat.lt_of_lt_of_le hk bX.size) (fun q => hm (by rw [Option.some.inj (show some k = some r from q)]; simp))).trans (bX.block k hk)
    · exact (g1.block g (Nat.lt_of_lt_of_le hgl bX.size) (fun q => hgr (Option.some.inj (show some g = some r from q)))).trans ((bX.block g hgl).trans hc)
    · rcases hr' with q | q
      · rw [q]; exact fun q => hgr q.symm
      · omega
  have HG : Hid (∀ W, Below w.heap.size w W → W.cell? ⟨g, 0, none⟩ = some (.slice (some ⟨r, 0, none⟩) n cap)) := fun W hW => cells_at ((hW.block _ hgl).trans hc) 0 _ rfl
  have HL : Hid (n = es.length ∧ n < 3 ∧ i ≤ es.length ∧ g < w.heap.size) := ⟨hn, by omega, hil, hgl⟩
  have q3 : (n : Int) < 3 := by omega
  obtain ⟨n1, hn1⟩ : ∃ n1, n1 = n + 1 := ⟨_, rfl⟩
  obtain ⟨v1, v2⟩ : IntKind.i64.wrap ((n : Int) + 1) = (n1 : Int) ∧ wrap64 ((n : Int) + 1) = (n1 : Int) := Bt.wr (by omega) (by omega)
  have HN1 : Hid (n1 = n + 1) := hn1
  clear hn1 hht hi hn hil h1 h3 hk hr hH hel hel' he1 he2 hcell hcr hgr hgl hrl hc ho
  go_enter Tryz.func40, Tryz.ntmps40
  go_upto_region 3 with fail
  refine wp_region_below w.heap.size w (Below.refl _ _) (by kernel_rfl) (by kernel_rfl) ?_
  repeat (go_big_quiet_step (first | (go_at_call 64; exact below_call _ (Nat.le_refl _) (CP.out _ (BelowOf.h _)))))
  refine wpQuiet_nil ?_
  intro _ hw'
  obtain ⟨pq, hw''⟩ := hw'
  subst hw''
  have HB2 : Hid (Below w.heap.size w pq.W) := pq.h
  have c0 := HG.out _ pq.h
  clear p0 a0 a1 a2 a3 a4 a5 CP
  go_wp2_with fail
  refine (CI6.out _ HB2.out).mono ?_
  rintro ex w4 ⟨r', cap', rfl, HV⟩
  clear c0 CI6
  have d0 : w4.cell? ⟨g, 0, none⟩ = some (.slice (some ⟨r, 0, none⟩) n cap) := cells_at HV.out.2.2.2.1 0 _ rfl
  have d5 : w4.cell? ⟨g, 5, none⟩ = some (.int .i64 (n : Int)) := cells_at HV.out.2.2.2.1 5 _ rfl
  have fz := row_freeV HV.out.2.2.2.1
  go_wp2
  clear v1 v2
  go_ret
  obtain ⟨o1, on, hr', hg4, hne⟩ := HV.out
  have e5 := heap_setCell_same w4 g 0 _ 95 (.slice (some ⟨r', 0, none⟩) (n + 1) cap') hg4
  have e6 := heap_setCell_same _ g 5 _ 95 (.int .i64 (n1 : Int)) e5
  refine ⟨r', rfl, ⟨on.os, on.tape, on.output, by simpa using on.size, fun k hk hm => ?_⟩, ⟨⟨cap', ?_, ?_⟩, trivial, trivial, trivial, trivial⟩, hr'⟩
  · rw [heap_setCell_other _ _ _ _ (fun q => hm (by simp [q])), heap_setCell_other _ _ _ _ (fun q => hm (by simp [q]))]
    exact on.block k hk (fun q => hm (by simp at q; simp [q]))
  · have hlen : (es.take i ++ e :: es.drop i).length = n + 1 := by have := HL.out; simp; omega
    rw [Bt.flat_one _ _ _ (by have := HL.out; omega), hlen, ← HN1.out]
    rw [HN1.out] at e6 ⊢
    exact e6
  · have hlen : (es.take i ++ e :: es.drop i).length = n + 1 := by have := HL.out; simp; omega
    rw [hlen]
    refine ⟨by rw [List.length_map, hlen, Nat.mul_one], ?_⟩
    rcases o1.2 with ⟨h, _⟩ | ⟨g', cap2, cur', h, h2, h4, h5⟩
    · cases h
    · refine .inr ⟨g', cap2, cur', h, h2, ?_, h5⟩
      have hg' : g' ≠ g := by cases h; exact hne
      rw [heap_setCell_other _ _ _ _ hg', heap_setCell_other _ _ _ _ hg']
      exact h4
end Go.Proofs.YtkigenldiinioaaGreatDoor
/- Where a number lies among an entry's: walked. -/
namespace Go.Proofs.YtkigenldiinioaaGreatDoor
open Go.RowKit
open Vl (V)
attribute [local go_sem ↓] Go.wp_at_zero Go.wp_at_succ
namespace Bt
/-- how many numbers come ahead of one -/
def nspot (id : Nat) (l : List Nat) : Nat := (l.takeWhile fun x => decide (x < id)).length
theorem nspot_cut {id : Nat} {l : List Nat} (h : l.Pairwise (· < ·)) : Cut (fun x => decide (x < id)) l (nspot id l) :=
  cut_while _ (h.imp fun {a b} hab hb => by
    rw [decide_eq_true_eq] at hb ⊢
    exact Nat.lt_trans hab hb)
/-- whether it is there -/
def nhas (id : Nat) (l : List Nat) : Bool := decide (l[nspot id l]? = some id)
end Bt
set_option maxHeartbeats 1000000 in
theorem less_c (x id B : Nat) (W : World) (h : W.cell? ⟨B, 0, none⟩ = some (.int .u64 (id : Int))) :
    Calls Tryz.prog 62 #[.int .u64 (x : Int), .pointer (some ⟨B, 0, none⟩)] W fun e w' => e = .returned (.bool (decide (x < id))) ∧ Below W.heap.size W w' := by
  by_cases hl : x < id
  · have q : decide ((x : Int) < (id : Int)) = true := decide_eq_true (Int.ofNat_lt.2 hl)
    have e : Hid (decide (x < id) = true) := decide_eq_true hl
    clear hl
    go_enter Tryz.func62, Tryz.ntmps62
    go_wp2
    go_ret
    exact ⟨by rw [e.out]; first | rfl | simp [q], Below.refl _ _⟩
  · have q : decide ((x : Int) < (id : Int)) = false := decide_eq_false fun h => hl (Int.ofNat_lt.1 h)
    have e : Hid (decide (x < id) = false) := decide_eq_false hl
    clear hl
    go_enter Tryz.func62, Tryz.ntmps62
    go_wp2
    go_ret
    exact ⟨by rw [e.out]; first | rfl | simp [q], Below.refl _ _⟩
set_option maxHeartbeats 1000000 in
theorem eplace_nil (id : Nat) (w : World) : Calls Tryz.prog 39 #[.pointer none, .int .u64 (id : Int)] w fun e w' => e = .returned (.tuple #[.int .i64 0, .bool false]) ∧ Below w.heap.size w w' := by
  go_enter Tryz.func39, Tryz.ntmps39
  go_wp2
  go_ret2
  exact ⟨rfl, below_new _ _⟩
/-- an entry's numbers in memory -/
def IdsAt (w : World) (v : Value) (l : List Nat) : Prop := w.ownsRow 0 51 1 v l.length (l.map fun (x : Nat) => Value.int .u64 (x : Int))
theorem ids_cells {w : World} {g n cap : Nat} {l : List Nat} (h : IdsAt w (.slice (some ⟨g, 0, none⟩) n cap) l) : n = l.length ∧ g < w.heap.size ∧ ∀ (j x : Nat), l[j]? = some x → w.cell? ⟨g, 0 + j, none⟩ = some (.int .u64 (x : Int)) := by
  rcases h.2 with ⟨h1, _⟩ | ⟨g', cap', cur, h1, _, hc, _, _, _, htk⟩
  · cases h1
  · injection h1 with e1 e2 e3
    injection e1 with e1
    injection e1 with e1
    subst e1
    refine ⟨e2, lt_of_row hc, fun j x hj => ?_⟩
    rw [Nat.zero_add]
    refine cells_at hc j _ ?_
    have hlt := (List.getElem?_eq_some_iff.1 hj).1
    have : (l.map fun (x : Nat) => Value.int .u64 (x : Int))[j]? = some (.int .u64 (x : Int)) := by rw [List.getElem?_map, hj]; rfl
    rw [← htk, List.getElem?_take_of_lt (by omega), Array.getElem?_toList] at this
    exact this
set_option maxHeartbeats 4000000 in
set_option maxRecDepth 100000 in
theorem eplace_c (e id g n cap : Nat) (l : List Nat) (c0 c1 c2 c3 c4 c5 : Value) (w : World) (he : w.heap[e]? = some (.cells #[c0, c1, c2, c3, c4, c5, .slice (some ⟨g, 0, none⟩) n cap] 73 (0, 0))) (hI : IdsAt w (.slice (some ⟨g, 0, none⟩) n cap) l) (hl : l.length ≤ 1000000) (hr : l.Pairwise (· < ·)) :
    Calls Tryz.prog 39 #[.pointer (some ⟨e, 0, none⟩), .int .u64 (id : Int)] w fun ex w' => ex = .returned (.tuple #[.int .i64 (Bt.nspot id l : Int), .bool (Bt.nhas id l)]) ∧ Below w.heap.size w w' := by
  obtain ⟨hn, hg, hc⟩ := ids_cells hI
  obtain ⟨k, hk⟩ : ∃ k, k = Bt.nspot id l := ⟨_, rfl⟩
  have hcut := Bt.nspot_cut (id := id) hr
  rw [← hk] at hcut ⊢
  obtain ⟨w1, hw1⟩ : ∃ w1, w1 = w.alloc (.cells #[.int .u64 (id : Int)] 51) := ⟨_, rfl⟩
  obtain ⟨B, hBe⟩ : ∃ B, B = w.heap.size := ⟨_, rfl⟩
  have b1 : Below w.heap.size w w1 := by rw [hw1]; exact below_new _ _
  have hB : w1.heap[B]? = some (.cells #[.int .u64 (id : Int)] 51 (0, 0)) := by rw [hw1, hBe]; exact heap_alloc_new w _
  have hel := lt_of_row he
  have CP : Hid (Calls Tryz.prog 61 #[.slice (some ⟨g, 0, none⟩) n cap, .func (.func 62) #[] #[.pointer (some ⟨B, 0, none⟩)]] w1 fun e w' => e = .returned (.int .i64 (k : Int)) ∧ Below w1.heap.size w1 w') :=
    placeU_c _ (fun x => decide (x < id)) l g 0 n cap k w1 hn (by omega) (by have := b1.size; omega) (fun j x hj => (b1.cell (p := ⟨g, 0 + j, none⟩) hg).trans (hc j x hj)) hcut (fun x W hx hW => less_c x id B W (cells_at ((hW.block _ (lt_of_row hB)).trans hB) 0 _ rfl))
  have HA : Hid (∀ W, Below w1.heap.size w1 W → Below w.heap.size w W ∧ W.cell? ⟨e, 6, none⟩ = some (.slice (some ⟨g, 0, none⟩) n cap) ∧ W.cell? ⟨B, 0, none⟩ = some (.int .u64 (id : Int)) ∧ ∀ (j x : Nat), l[j]? = some x → W.cell? ⟨g, j, none⟩ = some (.int .u64 (x : Int))) := fun W hW => by
    have hb := b1.trans (hW.mono b1.size)
    refine ⟨hb, cells_at ((hb.block _ hel).trans he) 6 _ rfl, cells_at ((hW.block _ (lt_of_row hB)).trans hB) 0 _ rfl, fun j x hj => ?_⟩
    have := (hb.cell (p := ⟨g, 0 + j, none⟩) hg).trans (hc j x hj)
    rw [Nat.zero_add] at this
    exact this
  have HN : Hid (n = l.length ∧ n ≤ 1000000 ∧ k ≤ l.length ∧ k = Bt.nspot id l) := ⟨hn, by omega, hcut.1, hk⟩
  have p6 := (HA.out w1 (Below.refl _ _)).2.1
  clear hI hl hr hn hg hc hk hcut b1 hB hel he
  go_enter Tryz.func39, Tryz.ntmps39
  go_upto_region 1 with fail
  rw [← hw1, ← hBe]
  clear hw1 hBe
  go_wp2_with fail
  refine CP.out.mono ?_
  rintro ex w2 ⟨rfl, hb2⟩
  have HB2 : Hid (Below w1.heap.size w1 w2) := hb2
  clear hb2 CP p6
  go_upto_region 4 with fail
  have e6 : ∀ p : BelowOf w2.heap.size w2, p.W.cell? ⟨e, 6, none⟩ = some (.slice (some ⟨g, 0, none⟩) n cap) := fun p => (HA.out _ (HB2.out.trans (p.h.mono HB2.out.size))).2.1
  have b0 : ∀ p : BelowOf w2.heap.size w2, p.W.cell? ⟨B, 0, none⟩ = some (.int .u64 (id : Int)) := fun p => (HA.out _ (HB2.out.trans (p.h.mono HB2.out.size))).2.2.1
  rcases hlook : l[k]? with _ | x
  · have hkn : k = n := by have := HN.out; rw [List.getElem?_eq_none_iff] at hlook; omega
    have E : Hid (Bt.nhas id l = false) := by show _ = _; rw [Bt.nhas, ← HN.out.2.2.2, hlook]; rfl
    clear hlook
    subst hkn
    have q0 : ¬ (k : Int) < (k : Int) := by omega
    have q : decide ((k : Int) < (k : Int)) = false := by simp
    refine wp_region_below w2.heap.size w2 (Below.refl _ _) (by kernel_rfl) (by kernel_rfl) ?_
    repeat (go_big_quiet_step (fail))
    refine wpQuiet_nil ?_
    intro _ hw'
    obtain ⟨pq, hw''⟩ := hw'
    subst hw''
    have HF := (HA.out _ (HB2.out.trans (pq.h.mono HB2.out.size))).1
    go_wp2
    go_ret2
    exact ⟨by rw [E.out]; rfl, HF⟩
  · have c0 : ∀ p : BelowOf w2.heap.size w2, p.W.cell? ⟨g, k, none⟩ = some (.int .u64 (x : Int)) := fun p => (HA.out _ (HB2.out.trans (p.h.mono HB2.out.size))).2.2.2 k x hlook
    have E : Hid (Bt.nhas id l = decide (x = id)) := by show _ = _; rw [Bt.nhas, ← HN.out.2.2.2, hlook]; simp
    have q0 : (0 : Int) ≤ (k : Int) := by omega
    have q1 : (k : Int) < (n : Int) := by have := (List.getElem?_eq_some_iff.1 hlook).1; have := HN.out; omega
    have q : decide ((k : Int) < (n : Int)) = true := decide_eq_true q1
    clear hlook
    by_cases hx : x = id
    · subst hx
      refine wp_region_below w2.heap.size w2 (Below.refl _ _) (by kernel_rfl) (by kernel_rfl) ?_
      repeat (go_big_quiet_step (fail))
      refine wpQuiet_nil ?_
      intro _ hw'
      obtain ⟨pq, hw''⟩ := hw'
      subst hw''
      have HF := (HA.out _ (HB2.out.trans (pq.h.mono HB2.out.size))).1
      go_wp2
      go_ret2
      exact ⟨by rw [E.out]; simp, HF⟩
    · have qx : ((x : Int) == (id : Int)) = false := by simp; omega
      have qi : ¬ ((x : Int) = (id : Int)) := by omega
      have E2 : Hid (Bt.nhas id l = false) := E.out.trans (decide_eq_false hx)
      clear hx
      refine wp_region_below w2.heap.size w2 (Below.refl _ _) (by kernel_rfl) (by kernel_rfl) ?_
      repeat (go_big_quiet_step (fail))
      refine wpQuiet_nil ?_
      intro _ hw'
      obtain ⟨pq, hw''⟩ := hw'
      subst hw''
      have HF := (HA.out _ (HB2.out.trans (pq.h.mono HB2.out.size))).1
      go_wp2
      go_ret2
      exact ⟨by rw [E2.out]; rfl, HF⟩
end Go.Proofs.YtkigenldiinioaaGreatDoor
/- Whether a text is UTF-8: the library's contract, laid at this program. -/
namespace Go.Proofs
open Go.Shelf
def Tryz.laysValid_ren : Go.Shelf.Ren := ⟨fun | 196 => 83 | 259 => 101 | n => n, fun | 9 => 9 | 4 => 4 | 3 => 3 | 5 => 5 | 12 => 12 | 119 => 134 | 0 => 0 | 46 => 138 | 139 => 137 | 138 => 136 | 53 => 51 | n => n, fun | 3 => 0 | 4 => 1 | n => n⟩
theorem Tryz.laysValid : Go.Proofs.Lays.n196 Tryz.prog Tryz.laysValid_ren := {
  mixed := by kernel_rfl
  f196 := Tryz.func83.trans (congrArg some (by kernel_rfl))
  f259 := Tryz.func101.trans (congrArg some (by kernel_rfl))
  t0 := Tryz.underlying0
  a0 := Tryz.isAgg0
  z0 := Tryz.sizeOf0
  v0 := Tryz.zeroValue0
  t3 := Tryz.underlying3
  a3 := Tryz.isAgg3
  z3 := Tryz.sizeOf3
  v3 := Tryz.zeroValue3
  t4 := Tryz.underlying4
  a4 := Tryz.isAgg4
  z4 := Tryz.sizeOf4
  v4 := Tryz.zeroValue4
  t5 := Tryz.underlying5
  a5 := Tryz.isAgg5
  z5 := Tryz.sizeOf5
  v5 := Tryz.zeroValue5
  t9 := Tryz.underlying9
  a9 := Tryz.isAgg9
  z9 := Tryz.sizeOf9
  v9 := Tryz.zeroValue9
  t12 := Tryz.underlying12
  a12 := Tryz.isAgg12
  z12 := Tryz.sizeOf12
  v12 := Tryz.zeroValue12
  t46 := Tryz.underlying138
  a46 := Tryz.isAgg138
  z46 := Tryz.sizeOf138
  v46 := Tryz.zeroValue138
  t53 := Tryz.underlying51
  a53 := Tryz.isAgg51
  z53 := Tryz.sizeOf51
  v53 := Tryz.zeroValue51
  t119 := Tryz.underlying134
  a119 := Tryz.isAgg134
  z119 := Tryz.sizeOf134
  t138 := Tryz.underlying136
  a138 := Tryz.isAgg136
  z138 := Tryz.sizeOf136
  v138 := Tryz.zeroValue136
  t139 := Tryz.underlying137
  a139 := Tryz.isAgg137
  z139 := Tryz.sizeOf137
  v139 := Tryz.zeroValue137
  g3 := by kernel_rfl
  g4 := by kernel_rfl }
end Go.Proofs
/- The library's tables of UTF-8, and value.Check. -/
namespace Go.Proofs.YtkigenldiinioaaGreatDoor
open Go.RowKit
open Vl (V)
namespace Bn
theorem lt_of_cell {w : World} {g o : Nat} {v : Value} (h : w.cell? ⟨g, o, none⟩ = some v) : g < w.heap.size := by
  unfold World.cell? at h
  cases hh : w.heap[g]? with
  | none => simp [hh] at h
  | some o => exact (Array.getElem?_eq_some_iff.1 hh).1
/-- the library's tables lie as they are laid -/
structure HasU (w : World) : Prop where
  utf : Lib.Utf8Tabs 0 1 w
theorem HasU.stays {w w' : World} (h : HasU w) (hb : Below w.heap.size w w') : HasU w' := by
  have keep : ∀ (g o : Nat) (v : Value), w.cell? ⟨g, o, none⟩ = some v → w'.cell? ⟨g, o, none⟩ = some v := fun g o v hv => (hb.cell (p := ⟨g, o, none⟩) (lt_of_cell hv)).trans hv
  exact ⟨⟨fun c hc => keep _ _ _ (h.utf.1 c hc), fun i hi => ⟨keep _ _ _ (h.utf.2 i hi).1, keep _ _ _ (h.utf.2 i hi).2⟩⟩⟩
/-- whether a text is UTF-8 -/
def u8 (s : ByteArray) : Bool := Lib.validD s.data.toList
theorem hasU : Utf u8 HasU where
  stays := fun _ _ h hb => h.stays hb
  says := fun s w hs hT => Any.utf8_ValidString Tryz.laysValid s w (by unfold maxLen at hs; omega) hT.utf
end Bn
set_option maxHeartbeats 1000000 in
theorem check27 (t : V) (w : World) (hT : Bn.HasU w) (H : Nat) (v : Value) (hH : H ≤ w.heap.size) (hR : Rep w H t v) :
    Calls Tryz.prog 30 #[v] w fun e w' => e = .returned (.int .i64 ((Vl.check Bn.u8 0 t : Nat) : Int)) ∧ Below w.heap.size w w' := by
  obtain ⟨xk, xb, xn, xs, xa, xl, xc, ya, yl, yc, hv⟩ := repV_form hR
  subst hv
  have C30 : Hid (∀ W, Below w.heap.size w W → Calls Tryz.prog 49 #[.agg #[.int .u8 (xk : Int), .bool xb, .int .i64 xn, .string xs, .slice xa xl xc, .slice ya yl yc], .int .i64 0] W fun e w' => e = .returned (.int .i64 ((Vl.check Bn.u8 0 t : Nat) : Int)) ∧ Below W.heap.size W w') := fun W hW =>
    check30 Bn.hasU _ t (Nat.le_refl _) 0 (by omega) W H _ (hT.stays hW) (by have := hW.size; omega) (rep_stays (hW.mono hH) (Nat.le_refl _) t _ hR)
  clear hR
  go_enter Tryz.func30, Tryz.ntmps30
  go_wp2_with fail
  refine (C30.out _ (below_new _ _)).mono ?_
  rintro e w2 ⟨rfl, hb2⟩
  go_wp2
  exact ⟨rfl, _, results_tmp (by rfl) _ _ _, rfl, (below_new _ _).trans (hb2.mono (below_new _ _).size)⟩
end Go.Proofs.YtkigenldiinioaaGreatDoor
