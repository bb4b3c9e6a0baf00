/- Several texts, joined: BtP, BtL -/
import Derived.Test.YtkigenldiinioaaGreatDoorQ12M
import Derived.Maps.OwnIn
import Derived.Maps.AppendAt
import Derived.Sort.CutIn
import Derived.RangeFuncBox
import Derived.Shelf.SlicesE.Clone
/- All that a tree has, collected: walked. -/
namespace Go.Proofs.YtkigenldiinioaaGreatDoor
open Go.RowKit Go.Shelf
open Vl (V)
attribute [local go_sem ↓] Go.wp_at_zero Go.wp_at_succ
attribute [local go_sem] Oper.semAt_some
/-- what has been collected -/
structure CI (w : World) (B : Nat) (ps : List Value) (v : Value) (W : World) : Prop where
  below : Below w.heap.size w W
  box : W.heap[B]? = some (.cells #[v] 92 (0, 0))
  row : W.ownsRow (B + 1) 71 1 v ps.length ps
theorem CI.own {β : Type} {w : World} {B C : Nat} (f : β → List Value) (hC : w.heap.size ≤ C) : OwnFrom C (fun s W => ∃ v, CI w B (f s) v W) := by
  rintro s W W' row ⟨v, h⟩ hg hr
  have cel : ∀ (g : Nat) (cs : Array Value) (t : TypeId) (fr : Nat × Nat), W.heap[g]? = some (Obj.cells cs t fr) → W'.heap[g]? = some (Obj.cells cs t fr) := fun g cs t fr h0 => by
    refine (hg.block g (lt_of_row h0) fun e => ?_).trans h0
    obtain ⟨_, o, h2, h3⟩ := hr g e.symm
    rw [h0] at h2
    injection h2 with h2
    subst h2
    cases h3
  refine ⟨v, h.below.grown hg (Nat.le_trans (Nat.le_refl _) h.below.size) (fun k e => Nat.le_trans hC (hr k e).1), cel _ _ _ _ h.box, h.row.1, ?_⟩
  rcases h.row.2 with h1 | ⟨g, cap, cur, e, h2, h3, h4⟩
  · exact .inl h1
  · exact .inr ⟨g, cap, cur, e, h2, cel _ _ _ _ h3, h4⟩
theorem all_info : (Tryz.prog.info? 71).map (fun i => (i.zero, i.size, i.bytes)) = some (some (.pointer none), 1, 8) := by kernel_rfl
def Bt.ptrs (l : List Nat) : List Value := l.map fun e => .pointer (some ⟨e, 0, none⟩)
set_option maxHeartbeats 4000000 in
set_option maxRecDepth 100000 in
theorem appendSeq_c (key : Nat → V) (lo hi : Option (Bool × V)) (H : Nat) (l0 l1 l2 l3 l4 l5 l6 l7 h0 h1 h2 h3 h4 h5 h6 h7 : Value) (t : Bt.T) (hw : Bt.wf t) (hr : Bt.Rises key (Bt.flat t)) (hsm : (Bt.wl key lo hi t).length ≤ 100000) (w : World) (Bn Bl Bh : Nat) (hH : H ≤ w.heap.size) (hRT : RT w H key t) (hlo : Bnd w H lo (.agg #[l0, l1, l2, l3, l4, l5, l6, l7])) (hhi : Bnd w H hi (.agg #[h0, h1, h2, h3, h4, h5, h6, h7]))
    (hbn : w.heap[Bn]? = some (.cells #[Bt.ptr (Bt.top t)] 67 (0, 0))) (hbl : w.heap[Bl]? = some (.cells #[l0, l1, l2, l3, l4, l5, l6, l7] 29 (0, 0))) (hbh : w.heap[Bh]? = some (.cells #[h0, h1, h2, h3, h4, h5, h6, h7] 29 (0, 0))) :
    Calls Tryz.prog 99 #[.slice none 0 0, .func (.func 50) #[] #[.pointer (some ⟨Bn, 0, none⟩), .pointer (some ⟨Bl, 0, none⟩), .pointer (some ⟨Bh, 0, none⟩)]] w fun e w' => ∃ v, e = .returned v ∧ Below w.heap.size w w' ∧ w'.ownsRow w.heap.size 71 1 v (Bt.wl key lo hi t).length (Bt.ptrs (Bt.wl key lo hi t)) := by
  obtain ⟨w1, hw1⟩ : ∃ w1, w1 = w.alloc (.cells #[.slice none 0 0] 92) := ⟨_, rfl⟩
  obtain ⟨B, hB⟩ : ∃ B, B = w.heap.size := ⟨_, rfl⟩
  have b1 : Below w.heap.size w w1 := by rw [hw1]; exact below_new _ _
  have hbx : w1.heap[B]? = some (.cells #[.slice none 0 0] 92 (0, 0)) := by rw [hw1, hB]; exact heap_alloc_new w _
  have hs1 : w1.heap.size = B + 1 := by rw [hw1, hB]; simp
  have SQ : SeqO Fence.wide 9 Tryz.prog 50 #[.pointer (some ⟨Bn, 0, none⟩), .pointer (some ⟨Bl, 0, none⟩), .pointer (some ⟨Bh, 0, none⟩)] (fun x : { e : Nat // True } => Value.pointer (some ⟨x.1, 0, none⟩)) (Kq H) (fun ys => ys.map Subtype.val = Bt.wl key lo hi t) (fun pre => pre.map Subtype.val <+: Bt.wl key lo hi t) (Bt.wl key lo hi t).length w1 :=
    within1_seq key lo hi H (fun _ => True) l0 l1 l2 l3 l4 l5 l6 l7 h0 h1 h2 h3 h4 h5 h6 h7 t hw hr (fun _ _ => trivial) w1 Bn Bl Bh (Nat.le_trans hH b1.size) (RT.stays (b1.mono hH) hRT) (hlo.stays (b1.mono hH)) (hhi.stays (b1.mono hH)) ((b1.block _ (lt_of_row hbn)).trans hbn) ((b1.block _ (lt_of_row hbl)).trans hbl) ((b1.block _ (lt_of_row hbh)).trans hbh)
  have HB : Hid (B = w.heap.size ∧ H ≤ w.heap.size ∧ w1.heap.size = B + 1) := ⟨hB, hH, hs1⟩
  have HI0 : Hid (CI w B [] (.slice none 0 0) w1) := ⟨b1, hbx, rfl, .inl ⟨rfl, rfl⟩⟩
  have HSM : Hid ((Bt.wl key lo hi t).length ≤ 100000) := hsm
  obtain ⟨i0, hi0, hz0, hz1, hz2⟩ := info_parts all_info
  clear hw hr hRT hlo hhi hbn hbl hbh hbx hsm b1
  refine (callsIn_wide (n := 10)).1 (callsIn_of_wp_marks Tryz.func99 rfl trivial (wpIn_wide.2 ?_) rfl)
  simp only [Tryz.ntmps99, List.size_toArray, List.length_cons, List.length_nil, Nat.reduceAdd, Nat.reduceSub, Array.replicate_succ, Array.replicate_zero, List.push_toArray, List.append_toArray, List.nil_append, List.cons_append]
  go_upto_region 1 with fail
  rw [← hw1, ← hB]
  clear hw1 hB hH hs1
  go_wp2_with fail
  refine (wpIn_wide (n := 10)).1 ?_
  refine wpIn_rangeO (F := Fence.wide) (n := 10) rfl (by omega) (gf := 50) (lb := #[.pointer (some ⟨Bn, 0, none⟩), .pointer (some ⟨Bl, 0, none⟩), .pointer (some ⟨Bh, 0, none⟩)]) rfl trivial (enters_of Tryz.func50 (by kernel_rfl) rfl) SQ (fun h k => h.trans k) (Kq.put (by have := HB.out; omega)) rfl
    (fun q W => ∃ v, CI w B (q.map fun x => .pointer (some ⟨x.1, 0, none⟩)) v W) (fun _ _ _ => False) (CI.own _ (by have := HB.out; omega)) (fun _ _ _ _ _ h _ _ => h) ⟨_, HI0.out⟩
    (fun x => { tmps := #[.slice none 0 0, .func (.func 50) #[] #[.pointer (some ⟨Bn, 0, none⟩), .pointer (some ⟨Bl, 0, none⟩), .pointer (some ⟨Bh, 0, none⟩)], .pointer (some ⟨B, 0, none⟩), undef, .slice none 0 0, .pointer (some ⟨x.1, 0, none⟩), .func (.func 50) #[] #[.pointer (some ⟨Bn, 0, none⟩), .pointer (some ⟨Bl, 0, none⟩), .pointer (some ⟨Bh, 0, none⟩)], .pointer (some ⟨x.1, 0, none⟩), undef, undef, undef, undef, undef], defers := [] }) ?assign ?body ?done ?stop
  case assign =>
    intro l x W K hK
    gi_wp2
    exact hK
  case body =>
    rintro l pre x W hs ⟨v, hC⟩ hlen
    have HC : Hid (CI w B (pre.map fun x => .pointer (some ⟨x.1, 0, none⟩)) v W) := hC
    have HL : Hid (pre.length + 1 ≤ 100001) := by have := HSM.out; show _ ≤ _; omega
    obtain ⟨W2, hW2⟩ : ∃ W2, W2 = W.alloc (.cells #[.pointer (some ⟨x.1, 0, none⟩)] 71) := ⟨_, rfl⟩
    have b2 : Below W.heap.size W W2 := by rw [hW2]; exact below_new _ _
    have HB2 : Hid (Below W.heap.size W W2 ∧ W2.heap[W.heap.size]? = some (.cells #[.pointer (some ⟨x.1, 0, none⟩)] 71 (0, 0)) ∧ B + 1 ≤ W.heap.size) := ⟨b2, by rw [hW2]; exact heap_alloc_new W _, by have := HB.out; omega⟩
    have hrow : W2.ownsRow (B + 1) 71 1 v pre.length (pre.map fun x => .pointer (some ⟨x.1, 0, none⟩)) := by
      have h := hC.row
      rw [List.length_map] at h
      refine ⟨h.1, ?_⟩
      rcases h.2 with h1 | ⟨g, cap, cur, e, h2, h3, h4⟩
      · exact .inl h1
      · exact .inr ⟨g, cap, cur, e, h2, (b2.block g (lt_of_row h3)).trans h3, h4⟩
    have HROW : Hid (W2.ownsRow (B + 1) 71 1 v pre.length (pre.map fun x => .pointer (some ⟨x.1, 0, none⟩))) := hrow
    have HNEW : Hid (∀ j u, [Value.pointer (some ⟨x.1, 0, none⟩)][j]? = some u → W2.cell? ((⟨W.heap.size, 0, none⟩ : Addr).add j) = some u) := fun j u hj => by
      rw [Addr.add_lit, Nat.zero_add]; exact cells_at HB2.out.2.1 j u (by simpa using hj)
    have HGO : Hid (∀ v' W3, W3.ownsRow (B + 1) 71 1 v' (pre.length + 1) ((pre.map fun x => Value.pointer (some ⟨x.1, 0, none⟩)) ++ [Value.pointer (some ⟨x.1, 0, none⟩)]) → W2.grownBy W3 v.ownBlock → W3.heap[B]? = some (.cells #[v] 92 (0, 0)) ∧ ownPostG w1.heap.size (Kq H) (fun q W => ∃ v, CI w B (q.map fun x => .pointer (some ⟨x.1, 0, none⟩)) v W) (fun _ _ _ => False) (pre ++ [x]) W .normal { tmps := #[], defers := [] } (W3.setCell ⟨B, 0, none⟩ v')) := fun v' W3 ho hg => by
      have hown : ∀ k, v.ownBlock = some k → B + 1 ≤ k ∧ ∃ cur, W2.heap[k]? = some (.cells cur 71 (0, 0)) := fun k hk => by
        rcases hrow.2 with ⟨rfl, _⟩ | ⟨g, cap, cur, rfl, h2, h3, _⟩
        · cases hk
        · cases hk; exact ⟨h2, cur, h3⟩
      have hbx2 : W2.heap[B]? = some (.cells #[v] 92 (0, 0)) := (b2.block _ (lt_of_row hC.box)).trans hC.box
      have hbx3 : W3.heap[B]? = some (.cells #[v] 92 (0, 0)) := (hg.block _ (lt_of_row hbx2) fun e => by have := (hown _ e.symm).1; omega).trans hbx2
      refine ⟨hbx3, ⟨by simp; exact Nat.le_trans b2.size hg.size, fun k o hk h0 ho' => ?_⟩, ⟨?_, fun k cs ty fr h0 ht => ?_⟩, v', ?_⟩
      · have hkB : k ≠ B := by have := HB.out; omega
        rw [heap_setCell_other _ _ _ _ hkB]
        have h2 := (b2.block _ (lt_of_row h0)).trans h0
        refine (hg.block _ (lt_of_row h2) fun e => ?_).trans h2
        obtain ⟨_, cur, h3⟩ := hown _ e.symm
        rw [h2] at h3
        injection h3 with h3
        subst h3
        cases ho'
      · have g3 : Below H W W3 := (b2.mono (by have := HB.out; have := HB2.out.2.2; omega)).grown hg (by have := HB.out; have := b2.size; have := HB2.out.2.2; omega) (fun k e => by have := (hown k e).1; have := HB.out; omega)
        exact g3.setCell (p := ⟨B, 0, none⟩) (by have := HB.out; show H ≤ B; omega) _
      · have hkB : k ≠ B := fun e => by
          subst e
          rw [hC.box] at h0
          simp only [Option.some.injEq, Obj.cells.injEq] at h0
          exact ht (by rw [← h0.2.1]; decide)
        rw [heap_setCell_other _ _ _ _ hkB]
        have h2 := (b2.block _ (lt_of_row h0)).trans h0
        refine (hg.block _ (lt_of_row h2) fun e => ?_).trans (b2.block _ (lt_of_row h0))
        obtain ⟨_, cur, h3⟩ := hown _ e.symm
        rw [h2] at h3
        simp only [Option.some.injEq, Obj.cells.injEq] at h3
        exact ht (by rw [h3.2.1]; decide)
      · have g3 : Below w.heap.size w W3 := (hC.below.trans (b2.mono hC.below.size)).grown hg (Nat.le_trans hC.below.size b2.size) (fun k e => by have := (hown k e).1; have := HB.out; omega)
        refine ⟨g3.setCell (p := ⟨B, 0, none⟩) (by have := HB.out; show w.heap.size ≤ B; omega) _, heap_setCell_same W3 B 0 _ 92 v' hbx3, ?_⟩
        have e1 : ((pre ++ [x]).map fun x => Value.pointer (some ⟨x.1, 0, none⟩)) = (pre.map fun x => Value.pointer (some ⟨x.1, 0, none⟩)) ++ [Value.pointer (some ⟨x.1, 0, none⟩)] := by simp
        rw [e1]
        have e2 : ((pre.map fun x => Value.pointer (some ⟨x.1, 0, none⟩)) ++ [Value.pointer (some ⟨x.1, 0, none⟩)]).length = pre.length + 1 := by simp
        rw [e2]
        refine ⟨ho.1, ?_⟩
        rcases ho.2 with h1 | ⟨g, cap, cur, e, h2, h3, h4⟩
        · exact .inl h1
        · exact .inr ⟨g, cap, cur, e, h2, (heap_setCell_other _ _ _ _ (show g ≠ B by omega)).trans h3, h4⟩
    have cb : W.cell? ⟨B, 0, none⟩ = some v := cells_at hC.box 0 _ rfl
    have HW2 : Hid (W2 = W.alloc (.cells #[.pointer (some ⟨x.1, 0, none⟩)] 71)) := hW2
    obtain ⟨av, ln, lc, rfl⟩ : ∃ av ln lc, v = .slice av ln lc := by
      rcases hrow.2 with ⟨h, _⟩ | ⟨g, cap, cur, h, _⟩
      · exact ⟨_, _, _, h⟩
      · exact ⟨_, _, _, h⟩
    have fit63 : Hid (pre.length + 1 ≤ maxLen ∧ (pre.length + 1) * 8 ≤ 140737488355328 ∧ B + 1 ≤ W2.heap.size) := ⟨by have := HL.out; unfold maxLen; omega, by have := HL.out; omega, Nat.le_trans HB2.out.2.2 b2.size⟩
    clear hC hs hlen b2 hrow hW2 SQ HI0
    gi_wp2_with (gi_at_builtin; rw [← HW2.out]; refine wpListIn_append_own_at _ rfl _ _ 92 rfl (B + 1) 71 i0 _ 1 8 Tryz.underlying92 hi0 hz0 hz1 hz2 rfl (by decide) _ _ _ rfl HROW.out ⟨W.heap.size, 0, none⟩ 1 1 [Value.pointer (some ⟨x.1, 0, none⟩)] rfl rfl HNEW.out (by simp [Value.oneCell']) fit63.out.1 fit63.out.2.1 fit63.out.2.2 ?_; intro v' W3 hown' hgrow _ _; obtain ⟨gg, cap, rfl⟩ := ownsRow_succ hown'; have HN := HGO.out _ W3 hown' hgrow; have HNN : Hid _ := HN; have c4 : W3.cell? ⟨B, 0, none⟩ = some (.slice av ln lc) := cells_at HN.1 0 _ rfl; have fz := row_freeV HN.1; clear HN hown' hgrow)
    exact HNN.out.2
  case done =>
    rintro D ys W hD hS ⟨v, hC⟩ hDD
    have cb : W.cell? ⟨B, 0, none⟩ = some v := cells_at hC.box 0 _ rfl
    have e1 : (ys.map fun x => Value.pointer (some ⟨x.1, 0, none⟩)) = Bt.ptrs (Bt.wl key lo hi t) := by
      rw [← hS, Bt.ptrs, List.map_map]; rfl
    have HE : Hid (Below w.heap.size w (W.putObj D (.deferred none)) ∧ (W.putObj D (.deferred none)).ownsRow w.heap.size 71 1 v (Bt.wl key lo hi t).length (Bt.ptrs (Bt.wl key lo hi t))) := by
      refine ⟨hC.below.trans (belowK_b (w := w) (Nat.le_refl _) W D _ _ (by have := HB.out; omega) hDD rfl rfl), ?_⟩
      have h := hC.row
      rw [e1, Bt.ptrs, List.length_map] at h
      refine ⟨h.1, ?_⟩
      rcases h.2 with h1 | ⟨g, cap, cur, e, h2, h3, h4⟩
      · exact .inl h1
      · refine .inr ⟨g, cap, cur, e, by have := HB.out; omega, (World.putObj_heap_other (fun q => ?_)).trans h3, h4⟩
        subst q
        rw [hDD] at h3
        cases h3
    obtain ⟨av, ln, lc, rfl⟩ : ∃ av ln lc, v = .slice av ln lc := by
      rcases hC.row.2 with ⟨h, _⟩ | ⟨g, cap, cur, h, _⟩
      · exact ⟨_, _, _, h⟩
      · exact ⟨_, _, _, h⟩
    clear hC e1
    go_wp2
    refine ⟨by simp, .inl ⟨_, _, rfl, run_takeDeferred hDD, ?_⟩⟩
    exact ⟨_, results_tmp rfl _ _ _, .slice av ln lc, by rfl, HE.out⟩
  case stop =>
    rintro D c pre W _ _ h _
    exact h.elim
/-- no bound -/
theorem bnd_none (W : World) (H : Nat) : Bnd W H none (.agg #[.bool false, .bool false, .int .u8 0, .bool false, .int .i64 0, .string ⟨#[]⟩, .slice none 0 0, .slice none 0 0]) := by
  refine ⟨false, false, _, _, _, _, _, _, ⟨0, false, 0, ⟨#[]⟩, [], []⟩, rfl, ?_, by simp⟩
  rw [Rep]
  exact ⟨none, 0, none, 0, rfl, by omega, by omega, by decide, by decide, by decide, fun h => by simp at h, fun h => by simp at h⟩
theorem wl_all {key : Nat → V} {t : Bt.T} (hw : Bt.wf t) (hr : Bt.Rises key (Bt.flat t)) : Bt.wl key none none t = Bt.flat t := by
  rw [Bt.wl_flat hw hr]
  exact List.filter_eq_self.2 fun e _ => rfl
set_option maxHeartbeats 4000000 in
set_option maxRecDepth 100000 in
theorem all_c (key : Nat → V) (H : Nat) (t : Bt.T) (hw : Bt.wf t) (hr : Bt.Rises key (Bt.flat t)) (hsm : (Bt.flat t).length ≤ 100000) (w : World) (hH : H ≤ w.heap.size) (hRT : RT w H key t) :
    Calls Tryz.prog 67 #[Bt.ptr (Bt.top t)] w fun e w' => ∃ v, e = .returned v ∧ Below w.heap.size w w' ∧ w'.ownsRow w.heap.size 71 1 v (Bt.flat t).length (Bt.ptrs (Bt.flat t)) := by
  obtain ⟨po, hpo⟩ : ∃ po, Bt.ptr (Bt.top t) = .pointer po := ⟨_, rfl⟩
  have CW : Hid (Calls Tryz.prog 31 #[.pointer po, .agg #[.bool false, .bool false, .int .u8 0, .bool false, .int .i64 0, .string ⟨#[]⟩, .slice none 0 0, .slice none 0 0], .agg #[.bool false, .bool false, .int .u8 0, .bool false, .int .i64 0, .string ⟨#[]⟩, .slice none 0 0, .slice none 0 0]] w fun e w' => ∃ s, e = .returned (.func (.func 50) #[] #[.pointer (some ⟨s, 0, none⟩), .pointer (some ⟨s + 1, 0, none⟩), .pointer (some ⟨s + 2, 0, none⟩)]) ∧ Hid (Below w.heap.size w w' ∧ w'.heap[s]? = some (.cells #[.pointer po] 67 (0, 0)) ∧ w'.heap[s + 1]? = some (.cells #[.bool false, .bool false, .int .u8 0, .bool false, .int .i64 0, .string ⟨#[]⟩, .slice none 0 0, .slice none 0 0] 29 (0, 0)) ∧ w'.heap[s + 2]? = some (.cells #[.bool false, .bool false, .int .u8 0, .bool false, .int .i64 0, .string ⟨#[]⟩, .slice none 0 0, .slice none 0 0] 29 (0, 0)))) := by
    refine (within_c _ _ _ w _ _ _ _ _ _ _ _ _ _ _ _ _ _ _ _ rfl rfl po rfl).mono ?_
    rintro e w' ⟨rfl, rfl⟩
    exact ⟨w.heap.size, rfl, three_new (Below.refl _ _) _ _ _ _ _ _⟩
  have HA : Hid (∀ s w', Below w.heap.size w w' → w'.heap[s]? = some (.cells #[.pointer po] 67 (0, 0)) → w'.heap[s + 1]? = some (.cells #[.bool false, .bool false, .int .u8 0, .bool false, .int .i64 0, .string ⟨#[]⟩, .slice none 0 0, .slice none 0 0] 29 (0, 0)) → w'.heap[s + 2]? = some (.cells #[.bool false, .bool false, .int .u8 0, .bool false, .int .i64 0, .string ⟨#[]⟩, .slice none 0 0, .slice none 0 0] 29 (0, 0)) → Calls Tryz.prog 80 #[.func (.func 50) #[] #[.pointer (some ⟨s, 0, none⟩), .pointer (some ⟨s + 1, 0, none⟩), .pointer (some ⟨s + 2, 0, none⟩)]] w' fun e w'' => ∃ v, e = .returned v ∧ Below w.heap.size w w'' ∧ w''.ownsRow w.heap.size 71 1 v (Bt.flat t).length (Bt.ptrs (Bt.flat t))) := fun s w' hb k1 k2 k3 => by
    have CA : Hid (Calls Tryz.prog 99 #[.slice none 0 0, .func (.func 50) #[] #[.pointer (some ⟨s, 0, none⟩), .pointer (some ⟨s + 1, 0, none⟩), .pointer (some ⟨s + 2, 0, none⟩)]] w' fun e w'' => ∃ v, e = .returned v ∧ Hid (Below w.heap.size w w'' ∧ w''.ownsRow w.heap.size 71 1 v (Bt.flat t).length (Bt.ptrs (Bt.flat t)))) := by
      refine (appendSeq_c key none none H _ _ _ _ _ _ _ _ _ _ _ _ _ _ _ _ t hw hr (by rw [wl_all hw hr]; exact hsm) w' s (s + 1) (s + 2) (Nat.le_trans hH hb.size) (RT.stays (hb.mono hH) hRT) (bnd_none _ _) (bnd_none _ _) (by rw [hpo]; exact k1) k2 k3).mono ?_
      rintro e w'' ⟨v, rfl, hb2, ho⟩
      rw [wl_all hw hr] at ho
      refine ⟨v, rfl, hb.trans (hb2.mono hb.size), ho.1, ?_⟩
      rcases ho.2 with h1 | ⟨g, cap, cur, e, h2, h3⟩
      · exact .inl h1
      · exact .inr ⟨g, cap, cur, e, Nat.le_trans hb.size h2, h3⟩
    clear k1 k2 k3 hb hRT hH hsm hw hr hpo CW
    go_enter Tryz.func80, Tryz.ntmps80
    go_wp2_with (go_at_call 99; refine CA.out.mono ?_; rintro e w'' ⟨v, rfl, HV⟩)
    go_ret
    exact ⟨_, rfl, HV.out⟩
  rw [hpo]
  clear hRT hH hsm hw hr hpo
  go_enter Tryz.func67, Tryz.ntmps67
  go_wp2_with fail
  refine CW.out.mono ?_
  rintro e w2 ⟨s, rfl, HW⟩
  go_wp2_with fail
  refine (HA.out s w2 HW.out.1 HW.out.2.1 HW.out.2.2.1 HW.out.2.2.2).mono ?_
  rintro e w3 ⟨v, rfl, hb3, ho3⟩
  have HE : Hid (Below w.heap.size w w3 ∧ w3.ownsRow w.heap.size 71 1 v (Bt.flat t).length (Bt.ptrs (Bt.flat t))) := ⟨hb3, ho3⟩
  clear hb3 ho3
  go_wp2
  go_ret
  exact ⟨_, rfl, HE.out⟩
end Go.Proofs.YtkigenldiinioaaGreatDoor
/- A node of few keys, laid: walked. -/
namespace Go.Proofs
open Go.Shelf
def Tryz.laysCe_ren : Go.Shelf.Ren := ⟨fun | 41 => 76 | n => n, fun | 22 => 92 | 23 => 71 | 4 => 4 | n => n, fun | n => n⟩
theorem Tryz.laysCe : Go.Proofs.SlLaysE0.n41 Tryz.prog Tryz.laysCe_ren := {
  mixed := by kernel_rfl
  f41 := ⟨Tryz.f76.name, by decide, Tryz.func76.trans (congrArg some (by kernel_rfl))⟩
  t4 := Tryz.underlying4
  a4 := Tryz.isAgg4
  z4 := Tryz.sizeOf4
  v4 := Tryz.zeroValue4
  t22 := Tryz.underlying92
  a22 := Tryz.isAgg92
  z22 := Tryz.sizeOf92
  v22 := Tryz.zeroValue92 }
end Go.Proofs
namespace Go.Proofs.YtkigenldiinioaaGreatDoor
open Go.RowKit Go.Lib
open Vl (V)
attribute [local go_sem ↓] Go.wp_at_zero Go.wp_at_succ
theorem cloneE_c (b off n c : Nat) (l : List Nat) (w : World) (hl : l.length = n) (hn : n ≤ 1000000) (hc : ∀ j e, l[j]? = some e → w.cell? ⟨b, off + j, none⟩ = some (.pointer (some ⟨e, 0, none⟩))) :
    Calls Tryz.prog 76 #[.slice (some ⟨b, off, none⟩) n c] w fun e w' => ∃ v', e = .returned v' ∧ w'.ownsRow w.heap.size 71 1 v' n (Bt.ptrs l) ∧ v' ≠ .slice none 0 0 ∧ Below w.heap.size w w' := by
  obtain ⟨i0, hi0, hz0, hz1, hz2⟩ := info_parts all_info
  refine AnyE.slices_Clone Tryz.laysCe i0 _ 1 8 hi0 hz0 hz1 hz2 rfl (by decide) Tryz.sizeOf71 b off n c (Bt.ptrs l) w (by rw [Bt.ptrs, List.length_map, hl, Nat.mul_one]) (by unfold maxLen; omega) (by omega) (fun j u hj => ?_) (fun u hu => ?_)
  · rw [Bt.ptrs, List.getElem?_map] at hj
    cases he : l[j]? with
    | none => rw [he] at hj; cases hj
    | some e => rw [he] at hj; cases hj; exact hc j e he
  · rw [Bt.ptrs, List.mem_map] at hu
    obtain ⟨e, _, rfl⟩ := hu
    rfl
theorem lay_nil (a : Option Addr) (c : Nat) (w : World) : Calls Tryz.prog 63 #[.slice a 0 c] w fun e w' => e = .returned (.pointer none) ∧ w' = w := by
  go_enter Tryz.func63, Tryz.ntmps63
  go_wp2
  go_ret
  exact ⟨rfl, rfl⟩
set_option maxHeartbeats 4000000 in
set_option maxRecDepth 100000 in
theorem lay_small (b off n c : Nat) (l : List Nat) (w : World) (hl : l.length = n) (h1 : 1 ≤ n) (h3 : n ≤ 3) (hc : ∀ j e, l[j]? = some e → w.cell? ⟨b, off + j, none⟩ = some (.pointer (some ⟨e, 0, none⟩))) :
    Calls Tryz.prog 63 #[.slice (some ⟨b, off, none⟩) n c] w fun e w' => ∃ g r, e = .returned (.pointer (some ⟨g, 0, none⟩)) ∧ Below w.heap.size w w' ∧ NT w' (.node g r l .nil .nil .nil .nil) ∧ w.heap.size ≤ g ∧ w.heap.size ≤ r := by
  have C : Hid (Calls Tryz.prog 76 #[.slice (some ⟨b, off, none⟩) n c] w fun e w' => ∃ r cap, e = .returned (.slice (some ⟨r, 0, none⟩) n cap) ∧ Hid (w'.ownsRow w.heap.size 71 1 (.slice (some ⟨r, 0, none⟩) n cap) n (Bt.ptrs l) ∧ w.heap.size ≤ r ∧ Below w.heap.size w w')) := by
    refine (cloneE_c b off n c l w hl (by omega) hc).mono ?_
    rintro e w' ⟨v', rfl, ho, _, hb⟩
    rcases ho.2 with ⟨_, h0⟩ | ⟨r, cap, cur, rfl, h2, h3⟩
    · omega
    · exact ⟨r, cap, rfl, ho, h2, hb⟩
  have HL : Hid (l.length = n ∧ n ≤ 3) := ⟨hl, h3⟩
  have q0 : ¬ ((n : Int) = 0) := by omega
  have q1 : ((n : Int) == 0) = false := by simp; omega
  have q2 : (n : Int) ≤ 3 := by omega
  clear hl h1 h3 hc
  go_enter Tryz.func63, Tryz.ntmps63
  go_wp2_with (go_at_call 76; refine C.out.mono ?_; rintro e w2 ⟨r, cap, rfl, HV⟩)
  go_ret
  obtain ⟨ho, hr, hb⟩ := HV.out
  refine ⟨w2.heap.size, r, rfl, hb.alloc hb.size _, ⟨⟨cap, ?_, ?_⟩, trivial, trivial, trivial, trivial⟩, hb.size, hr⟩
  · rw [Bt.flat_one _ _ _ (by have := HL.out; omega), HL.out.1]
    exact heap_alloc_new w2 _
  · rw [HL.out.1]
    refine ⟨by rw [List.length_map, HL.out.1, Nat.mul_one], ?_⟩
    rcases ho.2 with ⟨h, _⟩ | ⟨g, cap', cur, e, h2, h4, h5⟩
    · cases h
    · exact .inr ⟨g, cap', cur, e, Nat.zero_le _, (Below.heap_alloc _ _ _ (lt_of_row h4)).trans h4, h5⟩
end Go.Proofs.YtkigenldiinioaaGreatDoor
