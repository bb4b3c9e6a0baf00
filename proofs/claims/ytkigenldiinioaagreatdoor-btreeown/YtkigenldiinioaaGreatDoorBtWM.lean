/- The closure that yields what lies within bounds: walked. -/
import Derived.Test.YtkigenldiinioaaGreatDoorQ06M
namespace Go.Proofs.YtkigenldiinioaaGreatDoor
open Go.RowKit Go.Shelf
open Vl (V)
attribute [local go_sem ↓] Go.wp_at_zero Go.wp_at_succ
attribute [local go_sem] Oper.semAt_some
/-- a tree's iterator, at whatever world in which the tree can be read -/
def WSeq (key : Nat → V) (lo hi : Option (Bool × V)) (H : Nat) (Q : Nat → Prop) (ls hs : Array Value) (t : Bt.T) : Prop := ∀ (w : World) (Bn Bl Bh : Nat), H ≤ w.heap.size → RT w H key t → Bnd w H lo (.agg ls) → Bnd w H hi (.agg hs) →
  w.heap[Bn]? = some (.cells #[Bt.ptr (Bt.top t)] 67 (0, 0)) → w.heap[Bl]? = some (.cells ls 29 (0, 0)) → w.heap[Bh]? = some (.cells hs 29 (0, 0)) →
  SeqO Fence.wide 9 Tryz.prog 50 #[.pointer (some ⟨Bn, 0, none⟩), .pointer (some ⟨Bl, 0, none⟩), .pointer (some ⟨Bh, 0, none⟩)] (fun x : { e : Nat // Q e } => Value.pointer (some ⟨x.1, 0, none⟩)) (Kq H) (fun ys => ys.map Subtype.val = Bt.wl key lo hi t) (fun pre => pre.map Subtype.val <+: Bt.wl key lo hi t) (Bt.wl key lo hi t).length w
set_option maxHeartbeats 1000000 in
theorem within1_nil (key : Nat → V) (lo hi : Option (Bool × V)) (H : Nat) (Q : Nat → Prop) (ls hs : Array Value) : WSeq key lo hi H Q ls hs .nil := by
  intro w Bn Bl Bh _ _ _ _ hn _ _ l J Jx W hW hJ hJx hY h0
  have c : W.cell? ⟨Bn, 0, none⟩ = some (.pointer none) := cells_at ((hW.block _ (lt_of_row hn)).trans hn) 0 _ rfl
  have hlt : Bn < W.heap.size := Nat.lt_of_lt_of_le (lt_of_row hn) hW.size
  have c1 : ∀ o, (W.alloc o).cell? ⟨Bn, 0, none⟩ = some (.pointer none) := fun o => ((below_new W o).cell (p := ⟨Bn, 0, none⟩) hlt).trans c
  have HJ : Hid (∀ o, J [] (W.alloc o)) := fun o => hJ.alloc o h0
  clear c hlt hY hJ hJx hW hn h0
  refine callsIn_of_wp Tryz.func50 rfl trivial (wpIn_wide.2 ?_) rfl
  simp only [Tryz.ntmps50, List.size_toArray, List.length_cons, List.length_nil, Nat.reduceAdd, Nat.reduceSub, Array.replicate_succ, Array.replicate_zero, List.push_toArray, List.append_toArray, List.nil_append, List.cons_append]
  go_wp2
  refine bodyPost_ret (results_none rfl _ _ _) rfl ?_
  exact ⟨⟨_, rfl⟩, .inl ⟨[], rfl, HJ.out _⟩⟩
/-- what a loop's round meets -/
structure LF (Q : Nat → Prop) (H : Nat) (es : List Nat) (fr tz By : Nat) (A B C D : List Nat) (J : List { e : Nat // Q e } → World → Prop) (W1 : World) (k : Nat) (Ds : List Nat) (ys : List { e : Nat // Q e }) (w : World) : Prop where
  ge : fr ≤ k
  le : k ≤ tz + 1 ∨ k = fr
  few : k ≤ 4
  came : ys.map Subtype.val = (List.range' fr (k - fr)).flatMap fun i => Bt.rnd es tz i A B C D
  inv : J ys w
  kept : Kq H W1 w
  big : W1.heap.size ≤ w.heap.size
  nodup : Ds.Nodup
  marks : ∀ D ∈ Ds, By ≤ D ∧ w.heap[D]? = some (.deferred (some []))
/-- the same, without the loop's own numbers -/
def MI (Q : Nat → Prop) (H By : Nat) (J : List { e : Nat // Q e } → World → Prop) (W1 : World) (Ds : List Nat) (zs : List { e : Nat // Q e }) (W : World) : Prop := J zs W ∧ Kq H W1 W ∧ W1.heap.size ≤ W.heap.size ∧ ∀ D ∈ Ds, By ≤ D ∧ W.heap[D]? = some (.deferred (some []))
theorem LF.mi {Q : Nat → Prop} {H : Nat} {es : List Nat} {fr tz By : Nat} {A B C D : List Nat} {J : List { e : Nat // Q e } → World → Prop} {W1 : World} {k : Nat} {Ds : List Nat} {ys : List { e : Nat // Q e }} {w : World} (h : LF Q H es fr tz By A B C D J W1 k Ds ys w) : MI Q H By J W1 Ds ys w := ⟨h.inv, h.kept, h.big, h.marks⟩
theorem ownFrom_up {β : Type} {B C : Nat} {I : β → World → Prop} (h : OwnFrom B I) (hB : B ≤ C) : OwnFrom C I := fun s W W' row hs hg hr => h s W W' row hs hg (fun r e => ⟨Nat.le_trans hB (hr r e).1, (hr r e).2⟩)
theorem MI.own {Q : Nat → Prop} {H By C : Nat} {J : List { e : Nat // Q e } → World → Prop} {W1 : World} {Ds : List Nat} {ys : List { e : Nat // Q e }} (hJ : OwnFrom By J) (hH : H ≤ W1.heap.size) (hC : W1.heap.size ≤ C) (hB : By ≤ C) (hD : ∀ D ∈ Ds, D < C) : OwnFrom C (fun q W => MI Q H By J W1 Ds (ys ++ q) W) := fun s W W' row hs hg hr =>
  ⟨ownFrom_up hJ hB _ W W' row hs.1 hg hr, hs.2.1.turn hH (Nat.le_trans hH hC) hg hr, Nat.le_trans hs.2.2.1 hg.size, fun D hDm => ⟨(hs.2.2.2 D hDm).1, (hg.block D (lt_of_row (hs.2.2.2 D hDm).2) fun e => by have := (hr D e.symm).1; have := hD D hDm; omega).trans (hs.2.2.2 D hDm).2⟩⟩
theorem stop_own {Q : Nat → Prop} {By C : Nat} {Jx : List { e : Nat // Q e } → World → Prop} {Ds : List Nat} {ys : List { e : Nat // Q e }} {c : Code} (hJ : OwnFrom By Jx) (hB : By ≤ C) (hD : ∀ D ∈ Ds, D < C) : OwnFrom C (fun q W => c = .ret ∧ Jx (ys ++ q) W ∧ ∀ D ∈ Ds, By ≤ D ∧ W.heap[D]? = some (.deferred (some []))) := fun s W W' row hs hg hr =>
  ⟨hs.1, ownFrom_up hJ hB _ W W' row hs.2.1 hg hr, fun D hDm => ⟨(hs.2.2 D hDm).1, (hg.block D (lt_of_row (hs.2.2 D hDm).2) fun e => by have := (hr D e.symm).1; have := hD D hDm; omega).trans (hs.2.2 D hDm).2⟩⟩
theorem LF.call {Q : Nat → Prop} {H : Nat} {es : List Nat} {fr tz By : Nat} {A B C D : List Nat} {J : List { e : Nat // Q e } → World → Prop} {W1 : World} {k : Nat} {Ds : List Nat} {ys : List { e : Nat // Q e }} {w w' : World} (h : LF Q H es fr tz By A B C D J W1 k Ds ys w) (hJ : OwnFrom By J) (hH : H ≤ W1.heap.size) (hb : Below w.heap.size w w') : LF Q H es fr tz By A B C D J W1 k Ds ys w' :=
  ⟨h.ge, h.le, h.few, h.came, hJ _ _ _ none h.inv ⟨hb.os, hb.tape, hb.output, hb.size, fun k hk _ => hb.block k hk⟩ (fun r e => by cases e), h.kept.trans (Kq.of_below hb (Nat.le_trans hH h.big)), Nat.le_trans h.big hb.size, h.nodup, fun D hD => ⟨(h.marks D hD).1, (hb.block _ (lt_of_row (h.marks D hD).2)).trans (h.marks D hD).2⟩⟩
theorem pick_wl {key : Nat → V} {lo hi : Option (Bool × V)} {a b c d : Bt.T} {k : Nat} {A B C D : List Nat} (h : A = Bt.wl key lo hi a ∧ B = Bt.wl key lo hi b ∧ C = Bt.wl key lo hi c ∧ D = Bt.wl key lo hi d) : Bt.wl key lo hi (Bt.pick k a b c d) = Bt.pick k A B C D := by
  obtain ⟨rfl, rfl, rfl, rfl⟩ := h
  unfold Bt.pick
  split
  · rfl
  split
  · rfl
  split
  · rfl
  · rfl
theorem came_split {es : List Nat} {fr tz k : Nat} {A B C D ys wl : List Nat} (_ : tz ≤ es.length) (hk : k ≤ tz) (hf : fr ≤ k) (hc : ys = (List.range' fr (k - fr)).flatMap fun i => Bt.rnd es tz i A B C D) (hw : wl = Bt.rnds es A B C D fr tz) :
    ∃ rest, wl = ys ++ (Bt.pick k A B C D ++ ((if k < tz then (es[k]?).toList else []) ++ rest)) := by
  refine ⟨(List.range' (k + 1) (tz - k)).flatMap fun i => Bt.rnd es tz i A B C D, ?_⟩
  have e : List.range' fr (tz + 1 - fr) = List.range' fr (k - fr) ++ k :: List.range' (k + 1) (tz - k) := by
    rw [show tz + 1 - fr = (k - fr) + (1 + (tz - k)) by omega, ← List.range'_append_1, show fr + (k - fr) = k by omega, Nat.add_comm 1, List.range'_succ]
  rw [hw, Bt.rnds, e, List.flatMap_append, List.flatMap_cons, ← hc, Bt.rnd, List.append_assoc]
theorem stop_prefix {Q : Nat → Prop} {ys q : List { e : Nat // Q e }} {wl P T : List Nat} (h : ∃ rest, wl = ys.map Subtype.val ++ (P ++ (T ++ rest))) (hq : q.map Subtype.val <+: P) : (ys ++ q).map Subtype.val <+: wl := by
  obtain ⟨rest, rfl⟩ := h
  obtain ⟨u, rfl⟩ := hq
  exact ⟨u ++ (T ++ rest), by simp [List.append_assoc]⟩
theorem grown_drew {W : World} : W.grownBy W.drew none := ⟨rfl, rfl, rfl, Nat.le_refl _, fun _ _ _ => rfl⟩
/-- only the end of the code is let out -/
def NoExit (Q : Exit → Act → World → Prop) : Exit → Act → World → Prop
  | .normal, a, w => Q .normal a w
  | _, _, _ => False
theorem NoExit.imp {Q : Exit → Act → World → Prop} : ∀ e a w, NoExit Q e a w → Q e a w
  | .normal, _, _, h => h
  | .ret, _, _, h => h.elim
  | .exit _, _, _, h => h.elim
  | .goto _, _, _, h => h.elim
  | .panic _, _, _, h => h.elim
  | .outgrown, _, _, h => h.elim
theorem NoExit.normal {Q : Exit → Act → World → Prop} {a : Act} {w : World} (h : Q .normal a w) : NoExit Q .normal a w := h
theorem came_next {fr k : Nat} (h : fr ≤ k) {f : Nat → List Nat} : (List.range' fr (k + 1 - fr)).flatMap f = (List.range' fr (k - fr)).flatMap f ++ f k := by
  rw [show k + 1 - fr = (k - fr) + 1 by omega, ← List.range'_append_1, List.flatMap_append]
  simp [show fr + (k - fr) = k by omega]
theorem pick_seq {key : Nat → V} {lo hi : Option (Bool × V)} {H : Nat} {Q : Nat → Prop} {ls hs : Array Value} {a b c d : Bt.T} (h : WSeq key lo hi H Q ls hs a ∧ WSeq key lo hi H Q ls hs b ∧ WSeq key lo hi H Q ls hs c ∧ WSeq key lo hi H Q ls hs d) (k : Nat) : WSeq key lo hi H Q ls hs (Bt.pick k a b c d) := by
  unfold Bt.pick
  split
  · exact h.1
  split
  · exact h.2.1
  split
  · exact h.2.2.1
  · exact h.2.2.2
theorem pick_rt {W : World} {H : Nat} {key : Nat → V} {g r : Nat} {es : List Nat} {a b c d : Bt.T} (h : RT W H key (.node g r es a b c d)) (k : Nat) : RT W H key (Bt.pick k a b c d) := by
  unfold Bt.pick
  split
  · exact h.2.1
  split
  · exact h.2.2.1
  split
  · exact h.2.2.2.1
  · exact h.2.2.2.2
theorem pick_cell {W : World} {g k : Nat} {v0 v5 : Value} {a b c d : Bt.T} {t : TypeId} {po : Option Addr} (h : W.heap[g]? = some (.cells #[v0, Bt.ptr (Bt.top a), Bt.ptr (Bt.top b), Bt.ptr (Bt.top c), Bt.ptr (Bt.top d), v5] t (0, 0))) (hk : k ≤ 3) (hp : Bt.ptr (Bt.top (Bt.pick k a b c d)) = .pointer po) : W.cell? ⟨g, 1 + k, none⟩ = some (.pointer po) := by
  rw [← hp]
  rcases (show k = 0 ∨ k = 1 ∨ k = 2 ∨ k = 3 by omega) with rfl | rfl | rfl | rfl
  · exact cells_at h 1 _ rfl
  · exact cells_at h 2 _ rfl
  · exact cells_at h 3 _ rfl
  · exact cells_at h 4 _ rfl
theorem three_new {w X : World} (h : Below w.heap.size w X) (c1 c2 c3 : Array Value) (t1 t2 t3 : TypeId) : Below w.heap.size w (((X.alloc (.cells c1 t1)).alloc (.cells c2 t2)).alloc (.cells c3 t3)) ∧ (((X.alloc (.cells c1 t1)).alloc (.cells c2 t2)).alloc (.cells c3 t3)).heap[X.heap.size]? = some (.cells c1 t1 (0, 0)) ∧ (((X.alloc (.cells c1 t1)).alloc (.cells c2 t2)).alloc (.cells c3 t3)).heap[X.heap.size + 1]? = some (.cells c2 t2 (0, 0)) ∧ (((X.alloc (.cells c1 t1)).alloc (.cells c2 t2)).alloc (.cells c3 t3)).heap[X.heap.size + 2]? = some (.cells c3 t3 (0, 0)) := by
  have e1 := heap_alloc_new X (.cells c1 t1)
  have e2 := heap_alloc_new (X.alloc (.cells c1 t1)) (.cells c2 t2)
  have e3 := heap_alloc_new ((X.alloc (.cells c1 t1)).alloc (.cells c2 t2)) (.cells c3 t3)
  have s1 : (X.alloc (.cells c1 t1)).heap.size = X.heap.size + 1 := by simp
  have s2 : ((X.alloc (.cells c1 t1)).alloc (.cells c2 t2)).heap.size = X.heap.size + 2 := by simp
  rw [s1] at e2
  rw [s2] at e3
  refine ⟨((h.alloc h.size _).alloc (by rw [s1]; have := h.size; omega) _).alloc (by rw [s2]; have := h.size; omega) _, ?_, ?_, e3⟩
  · exact (Below.heap_alloc _ _ _ (by rw [s2]; omega)).trans ((Below.heap_alloc _ _ _ (by rw [s1]; omega)).trans e1)
  · exact (Below.heap_alloc _ _ _ (by rw [s2]; omega)).trans e2
set_option maxHeartbeats 4000000 in
set_option maxRecDepth 100000 in
theorem within1_node (key : Nat → V) (lo hi : Option (Bool × V)) (H : Nat) (Q : Nat → Prop) (l0 l1 l2 l3 l4 l5 l6 l7 h0 h1 h2 h3 h4 h5 h6 h7 : Value) (g r : Nat) (es : List Nat) (a b c d : Bt.T) (hes : es.length ≤ 3) (hr : Bt.Rises key es) (hQ : ∀ e ∈ es, Q e)
    (ha : WSeq key lo hi H Q #[l0, l1, l2, l3, l4, l5, l6, l7] #[h0, h1, h2, h3, h4, h5, h6, h7] a) (hb : WSeq key lo hi H Q #[l0, l1, l2, l3, l4, l5, l6, l7] #[h0, h1, h2, h3, h4, h5, h6, h7] b) (hc : WSeq key lo hi H Q #[l0, l1, l2, l3, l4, l5, l6, l7] #[h0, h1, h2, h3, h4, h5, h6, h7] c) (hd : WSeq key lo hi H Q #[l0, l1, l2, l3, l4, l5, l6, l7] #[h0, h1, h2, h3, h4, h5, h6, h7] d) :
    WSeq key lo hi H Q #[l0, l1, l2, l3, l4, l5, l6, l7] #[h0, h1, h2, h3, h4, h5, h6, h7] (.node g r es a b c d) := by
  intro w Bn Bl Bh hH hRT hlo hhi hbn hbl hbh l J Jx W hW hJ hJx hY hJ0
  obtain ⟨W1, hW1⟩ : ∃ W1, W1 = W.alloc (.cells #[.func (.yield l) #[] #[]] 90) := ⟨_, rfl⟩
  obtain ⟨By, hBy⟩ : ∃ By, By = W.heap.size := ⟨_, rfl⟩
  have b1 : Below W.heap.size W W1 := by rw [hW1]; exact below_new _ _
  have bw : Below w.heap.size w W1 := hW.trans (b1.mono hW.size)
  have hby : W1.heap[By]? = some (.cells #[.func (.yield l) #[] #[]] 90 (0, 0)) := by rw [hW1, hBy]; exact heap_alloc_new W _
  have hj1 : J [] W1 := by rw [hW1]; exact hJ.alloc _ hJ0
  have hs1 : W1.heap.size = By + 1 := by rw [hW1, hBy]; simp
  rw [← hBy] at hJ hJx hY
  -- what can be read, in the world ahead of the loop and in whatever world that keeps it
  have HH : Hid (H ≤ By ∧ By < W1.heap.size) := ⟨by rw [hBy]; exact Nat.le_trans hH hW.size, by omega⟩
  have RD : Hid (∀ W', Kq H W1 W' → RT W' H key (.node g r es a b c d) ∧ Bnd W' H lo (.agg #[l0, l1, l2, l3, l4, l5, l6, l7]) ∧ Bnd W' H hi (.agg #[h0, h1, h2, h3, h4, h5, h6, h7]) ∧ W'.heap[Bn]? = some (.cells #[.pointer (some ⟨g, 0, none⟩)] 67 (0, 0)) ∧ W'.heap[Bl]? = some (.cells #[l0, l1, l2, l3, l4, l5, l6, l7] 29 (0, 0)) ∧ W'.heap[Bh]? = some (.cells #[h0, h1, h2, h3, h4, h5, h6, h7] 29 (0, 0)) ∧ W'.heap[By]? = some (.cells #[.func (.yield l) #[] #[]] 90 (0, 0))) := fun W' hk => by
    have bh := (bw.mono hH).trans hk.below
    exact ⟨RT.stays bh hRT, hlo.stays bh, hhi.stays bh, hk.box ((bw.block _ (lt_of_row hbn)).trans hbn) (by decide), hk.box ((bw.block _ (lt_of_row hbl)).trans hbl) (by decide), hk.box ((bw.block _ (lt_of_row hbh)).trans hbh) (by decide), hk.box hby (by decide)⟩
  obtain ⟨fr, hfr⟩ : ∃ k, k = Bt.fromOf key lo es := ⟨_, rfl⟩
  obtain ⟨tz, hto⟩ : ∃ k, k = Bt.toOf key hi es := ⟨_, rfl⟩
  have cutL : Bt.Cut (fun e => Bt.lb lo (key e)) es fr := by
    rw [hfr]; exact Bt.cut_while _ (hr.imp fun h k => Bt.lb_mono h k)
  have cutH : Bt.Cut (fun e => !Bt.ub hi (key e)) es tz := by
    rw [hto]
    refine Bt.cut_while _ (hr.imp fun {x y} h k => ?_)
    cases hx : Bt.ub hi (key x) with
    | false => rfl
    | true => have := Bt.ub_mono h hx; rw [this] at k; exact k
  obtain ⟨cap, hcap⟩ := (RD.out W1 (Kq.refl _ _)).1.1.2.2.1
  obtain ⟨n, hn⟩ : ∃ n, n = es.length := ⟨_, rfl⟩
  have CL : Hid (∀ W', Kq H W1 W' → W1.heap.size ≤ W'.heap.size → Calls Tryz.prog 51 #[.slice (some ⟨r, 0, none⟩) n cap, .func (.func 52) #[] #[.pointer (some ⟨Bl, 0, none⟩)]] W' fun e w' => e = .returned (.int .i64 (fr : Int)) ∧ Below W'.heap.size W' w') := fun W' hk hs => by
    obtain ⟨⟨⟨k1, k2, _, k4, k5⟩, _⟩, k6, k7, _, k9, _, _⟩ := RD.out W' hk
    have hHs : H ≤ W'.heap.size := by have := HH.out; omega
    refine placeL_c _ (fun e => Bt.lb lo (key e)) es r 0 n cap fr W' hn (by omega) (by omega) k4 cutL (fun e X he hX => ?_)
    exact keyBelow_c e Bl H (key e) lo _ _ _ _ _ _ _ _ X (Nat.le_trans hHs hX.size) ((k5 e he).stays (hX.mono hHs)) ((hX.block _ (lt_of_row k9)).trans k9) (k6.stays (hX.mono hHs))
  have CH : Hid (∀ W', Kq H W1 W' → W1.heap.size ≤ W'.heap.size → Calls Tryz.prog 51 #[.slice (some ⟨r, 0, none⟩) n cap, .func (.func 54) #[] #[.pointer (some ⟨Bh, 0, none⟩)]] W' fun e w' => e = .returned (.int .i64 (tz : Int)) ∧ Below W'.heap.size W' w') := fun W' hk hs => by
    obtain ⟨⟨⟨k1, k2, _, k4, k5⟩, _⟩, k6, k7, _, _, k10, _⟩ := RD.out W' hk
    have hHs : H ≤ W'.heap.size := by have := HH.out; omega
    refine placeH_c _ (fun e => !Bt.ub hi (key e)) es r 0 n cap tz W' hn (by omega) (by omega) k4 cutH (fun e X he hX => ?_)
    exact keyAbove_c e Bh H (key e) hi _ _ _ _ _ _ _ _ X (Nat.le_trans hHs hX.size) ((k5 e he).stays (hX.mono hHs)) ((hX.block _ (lt_of_row k10)).trans k10) (k7.stays (hX.mono hHs))
  have HFT : Hid (fr = Bt.fromOf key lo es ∧ tz = Bt.toOf key hi es ∧ fr ≤ 3 ∧ tz ≤ 3 ∧ tz ≤ es.length ∧ n = es.length) := ⟨hfr, hto, by have := cutL.1; omega, by have := cutH.1; omega, cutH.1, hn⟩
  have HCAP : Hid (∀ W', Kq H W1 W' → W'.heap[g]? = some (.cells #[.slice (some ⟨r, 0, none⟩) n cap, Bt.ptr (Bt.top a), Bt.ptr (Bt.top b), Bt.ptr (Bt.top c), Bt.ptr (Bt.top d), .int .i64 ((Bt.flat (.node g r es a b c d)).length : Int)] 95 (0, 0))) := fun W' hk => by rw [hn]; exact (hk.below.block _ (RD.out W1 (Kq.refl _ _)).1.1.1).trans hcap
  have HJA : Hid (OwnFrom By J ∧ OwnFrom By Jx) := ⟨hJ, hJx⟩
  have HJ1 : Hid (J [] W1) := hj1
  have HY : Hid (∀ (pre : List { e : Nat // Q e }) (x : { e : Nat // Q e }) (W1 : World), By ≤ W1.heap.size → J pre W1 → pre.length < (Bt.wl key lo hi (.node g r es a b c d)).length → YieldAt Fence.wide (9 - 1) Tryz.prog l #[Value.pointer (some ⟨x.1, 0, none⟩)] W1 fun e W' => KeepsFrom By W1 W' ∧ ((e = .returned (.bool true) ∧ J (pre ++ [x]) W' ∧ Kq H W1 W') ∨ (e = .returned (.bool false) ∧ Jx (pre ++ [x]) W'))) := hY
  have HCH : Hid (WSeq key lo hi H Q #[l0, l1, l2, l3, l4, l5, l6, l7] #[h0, h1, h2, h3, h4, h5, h6, h7] a ∧ WSeq key lo hi H Q #[l0, l1, l2, l3, l4, l5, l6, l7] #[h0, h1, h2, h3, h4, h5, h6, h7] b ∧ WSeq key lo hi H Q #[l0, l1, l2, l3, l4, l5, l6, l7] #[h0, h1, h2, h3, h4, h5, h6, h7] c ∧ WSeq key lo hi H Q #[l0, l1, l2, l3, l4, l5, l6, l7] #[h0, h1, h2, h3, h4, h5, h6, h7] d) := ⟨ha, hb, hc, hd⟩
  have HQ : Hid (∀ e ∈ es, Q e) := hQ
  clear hfr hto cutL cutH hcap hn hJ hJx hY hJ0 hj1 ha hb hc hd hQ hr hes hRT hlo hhi hbn hbl hbh hby b1 bw hs1 hW hH
  refine callsIn_of_wp_marks Tryz.func50 rfl trivial (wpIn_wide.2 ?_) rfl
  simp only [Tryz.ntmps50, List.size_toArray, List.length_cons, List.length_nil, Nat.reduceAdd, Nat.reduceSub, Array.replicate_succ, Array.replicate_zero, List.push_toArray, List.append_toArray, List.nil_append, List.cons_append]
  go_upto_region 1 with fail
  rw [← hW1, ← hBy]
  clear hW1 hBy
  have cn : W1.cell? ⟨Bn, 0, none⟩ = some (.pointer (some ⟨g, 0, none⟩)) := cells_at (RD.out W1 (Kq.refl _ _)).2.2.2.1 0 _ rfl
  have cg : W1.cell? ⟨g, 0, none⟩ = some (.slice (some ⟨r, 0, none⟩) n cap) := cells_at (HCAP.out W1 (Kq.refl _ _)) 0 _ rfl
  go_wp2_with fail
  refine (CL.out W1 (Kq.refl _ _) (Nat.le_refl _)).mono ?_
  rintro e W2 ⟨rfl, hb2⟩
  have K2 : Hid (Kq H W1 W2 ∧ W1.heap.size ≤ W2.heap.size ∧ J [] W2) := ⟨Kq.of_below hb2 (by have := HH.out; omega), hb2.size, HJA.out.1 _ _ _ none HJ1.out ⟨hb2.os, hb2.tape, hb2.output, hb2.size, fun k hk _ => hb2.block k hk⟩ (fun r e => by cases e)⟩
  clear hb2 cn cg CL
  have cn : W2.cell? ⟨Bn, 0, none⟩ = some (.pointer (some ⟨g, 0, none⟩)) := cells_at (RD.out W2 K2.out.1).2.2.2.1 0 _ rfl
  have cg : W2.cell? ⟨g, 0, none⟩ = some (.slice (some ⟨r, 0, none⟩) n cap) := cells_at (HCAP.out W2 K2.out.1) 0 _ rfl
  go_wp2_with fail
  refine (CH.out W2 K2.out.1 K2.out.2.1).mono ?_
  rintro e W3 ⟨rfl, hb3⟩
  have K3 : Hid (Kq H W1 W3 ∧ W1.heap.size ≤ W3.heap.size ∧ J [] W3) := ⟨K2.out.1.trans (Kq.of_below hb3 (by have := HH.out; have := K2.out.2.1; omega)), Nat.le_trans K2.out.2.1 hb3.size, HJA.out.1 _ _ _ none K2.out.2.2 ⟨hb3.os, hb3.tape, hb3.output, hb3.size, fun k hk _ => hb3.block k hk⟩ (fun r e => by cases e)⟩
  clear hb3 cn cg CH K2
  go_wp2_with fail
  obtain ⟨A, hA⟩ : ∃ A, A = Bt.wl key lo hi a := ⟨_, rfl⟩
  obtain ⟨B, hB⟩ : ∃ A, A = Bt.wl key lo hi b := ⟨_, rfl⟩
  obtain ⟨C, hC⟩ : ∃ A, A = Bt.wl key lo hi c := ⟨_, rfl⟩
  obtain ⟨D, hD⟩ : ∃ A, A = Bt.wl key lo hi d := ⟨_, rfl⟩
  have HWL : Hid (Bt.wl key lo hi (.node g r es a b c d) = Bt.rnds es A B C D fr tz ∧ A = Bt.wl key lo hi a ∧ B = Bt.wl key lo hi b ∧ C = Bt.wl key lo hi c ∧ D = Bt.wl key lo hi d) := ⟨by rw [Bt.wl, HFT.out.1, HFT.out.2.1, hA, hB, hC, hD], hA, hB, hC, hD⟩
  clear hA hB hC hD
  refine wp_loop (fun a' w' => ∃ (k : Nat) (Ds : List Nat) (ys : List { e : Nat // Q e }) (u8 u9 u10 u11 u12 u13 u14 u15 u16 u17 u18 u19 u20 u21 u22 u23 u24 u25 u26 u27 u28 u29 u30 u31 u32 u33 u34 u35 u36 u37 u38 u39 u40 u41 u42 u43 u44 u45 u46 u47 u48 u49 u50 u51 u52 u53 u54 u55 u56 u57 : Value), a' = { tmps := #[.func (.yield l) #[] #[], .pointer (some ⟨Bn, 0, none⟩), .pointer (some ⟨Bl, 0, none⟩), .pointer (some ⟨Bh, 0, none⟩), .pointer (some ⟨By, 0, none⟩), .int .i64 (fr : Int), .int .i64 (tz : Int), .int .i64 (k : Int), u8, u9, u10, u11, u12, u13, u14, u15, u16, u17, u18, u19, u20, u21, u22, u23, u24, u25, u26, u27, u28, u29, u30, u31, u32, u33, u34, u35, u36, u37, u38, u39, u40, u41, u42, u43, u44, u45, u46, u47, u48, u49, u50, u51, u52, u53, u54, u55, u56, u57], defers := Bt.marks Ds } ∧ LF Q H es fr tz By A B C D J W1 k Ds ys w') (fun a' _ => 5 - (intOf (a'.tmps.getD 7 undef)).toNat) ?start ?round
  case start => exact ⟨fr, [], [], _, _, _, _, _, _, _, _, _, _, _, _, _, _, _, _, _, _, _, _, _, _, _, _, _, _, _, _, _, _, _, _, _, _, _, _, _, _, _, _, _, _, _, _, _, _, _, _, _, _, rfl, Nat.le_refl _, .inr rfl, by have := HFT.out; omega, by simp, K3.out.2.2, K3.out.1, K3.out.2.1, List.nodup_nil, fun D hD => by cases hD⟩
  case round =>
    rintro a' wr ⟨k, Ds, ys, u8, u9, u10, u11, u12, u13, u14, u15, u16, u17, u18, u19, u20, u21, u22, u23, u24, u25, u26, u27, u28, u29, u30, u31, u32, u33, u34, u35, u36, u37, u38, u39, u40, u41, u42, u43, u44, u45, u46, u47, u48, u49, u50, u51, u52, u53, u54, u55, u56, u57, rfl, hlf⟩
    have HLF : Hid (LF Q H es fr tz By A B C D J W1 k Ds ys wr) := hlf
    clear hlf K3
    dsimp only
    by_cases hkt : k ≤ tz
    · have q1 : (k : Int) ≤ (tz : Int) := by omega
      have HKT : Hid (k ≤ tz ∧ k ≤ 3) := ⟨hkt, by have := HFT.out; omega⟩
      clear hkt
      go_upto_region 7 with fail
      have CH1 := pick_seq HCH.out k
      have RT1 := pick_rt (RD.out wr HLF.out.kept).1 k
      obtain ⟨po, hpo⟩ : ∃ po, Bt.ptr (Bt.top (Bt.pick k a b c d)) = .pointer po := ⟨_, rfl⟩
      obtain ⟨_, k6, k7, k8, k9, k10, k11⟩ := RD.out wr HLF.out.kept
      have CW : Hid (∀ X, Below wr.heap.size wr X → Calls Tryz.prog 31 #[.pointer po, .agg #[l0, l1, l2, l3, l4, l5, l6, l7], .agg #[h0, h1, h2, h3, h4, h5, h6, h7]] X fun e w' => ∃ s, e = .returned (.func (.func 50) #[] #[.pointer (some ⟨s, 0, none⟩), .pointer (some ⟨s + 1, 0, none⟩), .pointer (some ⟨s + 2, 0, none⟩)]) ∧ Hid (Below wr.heap.size wr w' ∧ w'.heap[s]? = some (.cells #[.pointer po] 67 (0, 0)) ∧ w'.heap[s + 1]? = some (.cells #[l0, l1, l2, l3, l4, l5, l6, l7] 29 (0, 0)) ∧ w'.heap[s + 2]? = some (.cells #[h0, h1, h2, h3, h4, h5, h6, h7] 29 (0, 0)))) := fun X hX => by
        refine (within_c _ _ _ X l0 l1 l2 l3 l4 l5 l6 l7 h0 h1 h2 h3 h4 h5 h6 h7 rfl rfl po rfl).mono ?_
        rintro e w' ⟨rfl, rfl⟩
        exact ⟨X.heap.size, rfl, three_new hX _ _ _ _ _ _⟩
      have HCHK : Hid (WSeq key lo hi H Q #[l0, l1, l2, l3, l4, l5, l6, l7] #[h0, h1, h2, h3, h4, h5, h6, h7] (Bt.pick k a b c d) ∧ RT wr H key (Bt.pick k a b c d) ∧ Bt.ptr (Bt.top (Bt.pick k a b c d)) = .pointer po ∧ Bnd wr H lo (.agg #[l0, l1, l2, l3, l4, l5, l6, l7]) ∧ Bnd wr H hi (.agg #[h0, h1, h2, h3, h4, h5, h6, h7])) := ⟨CH1, RT1, hpo, k6, k7⟩
      have cn : wr.cell? ⟨Bn, 0, none⟩ = some (.pointer (some ⟨g, 0, none⟩)) := cells_at k8 0 _ rfl
      have cp : wr.cell? ⟨g, 1 + k, none⟩ = some (.pointer po) := pick_cell (HCAP.out wr HLF.out.kept) HKT.out.2 hpo
      have zl0 : wr.cell? ⟨Bl, 0, none⟩ = some l0 := cells_at k9 0 _ rfl
      have zl1 : wr.cell? ⟨Bl, 1, none⟩ = some l1 := cells_at k9 1 _ rfl
      have zl2 : wr.cell? ⟨Bl, 2, none⟩ = some l2 := cells_at k9 2 _ rfl
      have zl3 : wr.cell? ⟨Bl, 3, none⟩ = some l3 := cells_at k9 3 _ rfl
      have zl4 : wr.cell? ⟨Bl, 4, none⟩ = some l4 := cells_at k9 4 _ rfl
      have zl5 : wr.cell? ⟨Bl, 5, none⟩ = some l5 := cells_at k9 5 _ rfl
      have zl6 : wr.cell? ⟨Bl, 6, none⟩ = some l6 := cells_at k9 6 _ rfl
      have zl7 : wr.cell? ⟨Bl, 7, none⟩ = some l7 := cells_at k9 7 _ rfl
      have zh0 : wr.cell? ⟨Bh, 0, none⟩ = some h0 := cells_at k10 0 _ rfl
      have zh1 : wr.cell? ⟨Bh, 1, none⟩ = some h1 := cells_at k10 1 _ rfl
      have zh2 : wr.cell? ⟨Bh, 2, none⟩ = some h2 := cells_at k10 2 _ rfl
      have zh3 : wr.cell? ⟨Bh, 3, none⟩ = some h3 := cells_at k10 3 _ rfl
      have zh4 : wr.cell? ⟨Bh, 4, none⟩ = some h4 := cells_at k10 4 _ rfl
      have zh5 : wr.cell? ⟨Bh, 5, none⟩ = some h5 := cells_at k10 5 _ rfl
      have zh6 : wr.cell? ⟨Bh, 6, none⟩ = some h6 := cells_at k10 6 _ rfl
      have zh7 : wr.cell? ⟨Bh, 7, none⟩ = some h7 := cells_at k10 7 _ rfl
      have HC : Hid (∀ X, Below wr.heap.size wr X → X.cell? ⟨Bn, 0, none⟩ = some (.pointer (some ⟨g, 0, none⟩)) ∧ X.cell? ⟨g, 1 + k, none⟩ = some (.pointer po) ∧ X.cell? ⟨Bl, 0, none⟩ = some l0 ∧ X.cell? ⟨Bl, 1, none⟩ = some l1 ∧ X.cell? ⟨Bl, 2, none⟩ = some l2 ∧ X.cell? ⟨Bl, 3, none⟩ = some l3 ∧ X.cell? ⟨Bl, 4, none⟩ = some l4 ∧ X.cell? ⟨Bl, 5, none⟩ = some l5 ∧ X.cell? ⟨Bl, 6, none⟩ = some l6 ∧ X.cell? ⟨Bl, 7, none⟩ = some l7 ∧ X.cell? ⟨Bh, 0, none⟩ = some h0 ∧ X.cell? ⟨Bh, 1, none⟩ = some h1 ∧ X.cell? ⟨Bh, 2, none⟩ = some h2 ∧ X.cell? ⟨Bh, 3, none⟩ = some h3 ∧ X.cell? ⟨Bh, 4, none⟩ = some h4 ∧ X.cell? ⟨Bh, 5, none⟩ = some h5 ∧ X.cell? ⟨Bh, 6, none⟩ = some h6 ∧ X.cell? ⟨Bh, 7, none⟩ = some h7) := fun X hX => ⟨(hX.cell (p := ⟨Bn, 0, none⟩) (lt_of_row k8)).trans cn, (hX.cell (p := ⟨g, 1 + k, none⟩) (lt_of_row (HCAP.out wr HLF.out.kept))).trans cp, (hX.cell (p := ⟨Bl, 0, none⟩) (lt_of_row k9)).trans zl0, (hX.cell (p := ⟨Bl, 1, none⟩) (lt_of_row k9)).trans zl1, (hX.cell (p := ⟨Bl, 2, none⟩) (lt_of_row k9)).trans zl2, (hX.cell (p := ⟨Bl, 3, none⟩) (lt_of_row k9)).trans zl3, (hX.cell (p := ⟨Bl, 4, none⟩) (lt_of_row k9)).trans zl4, (hX.cell (p := ⟨Bl, 5, none⟩) (lt_of_row k9)).trans zl5, (hX.cell (p := ⟨Bl, 6, none⟩) (lt_of_row k9)).trans zl6, (hX.cell (p := ⟨Bl, 7, none⟩) (lt_of_row k9)).trans zl7, (hX.cell (p := ⟨Bh, 0, none⟩) (lt_of_row k10)).trans zh0, (hX.cell (p := ⟨Bh, 1, none⟩) (lt_of_row k10)).trans zh1, (hX.cell (p := ⟨Bh, 2, none⟩) (lt_of_row k10)).trans zh2, (hX.cell (p := ⟨Bh, 3, none⟩) (lt_of_row k10)).trans zh3, (hX.cell (p := ⟨Bh, 4, none⟩) (lt_of_row k10)).trans zh4, (hX.cell (p := ⟨Bh, 5, none⟩) (lt_of_row k10)).trans zh5, (hX.cell (p := ⟨Bh, 6, none⟩) (lt_of_row k10)).trans zh6, (hX.cell (p := ⟨Bh, 7, none⟩) (lt_of_row k10)).trans zh7⟩
      clear CH1 RT1 hpo k6 k7 k8 k9 k10 k11
      have qk : (k : Int) < 4 := by have := HKT.out; omega
      have qk0 : (0 : Int) ≤ (k : Int) := by omega
      go_region_held3 (fun W' => W'.cell? ⟨Bn, 0, none⟩ = some (.pointer (some ⟨g, 0, none⟩)) ∧ W'.cell? ⟨g, 1 + k, none⟩ = some (.pointer po) ∧ W'.cell? ⟨Bl, 0, none⟩ = some l0 ∧ W'.cell? ⟨Bl, 1, none⟩ = some l1 ∧ W'.cell? ⟨Bl, 2, none⟩ = some l2 ∧ W'.cell? ⟨Bl, 3, none⟩ = some l3 ∧ W'.cell? ⟨Bl, 4, none⟩ = some l4 ∧ W'.cell? ⟨Bl, 5, none⟩ = some l5 ∧ W'.cell? ⟨Bl, 6, none⟩ = some l6 ∧ W'.cell? ⟨Bl, 7, none⟩ = some l7 ∧ W'.cell? ⟨Bh, 0, none⟩ = some h0 ∧ W'.cell? ⟨Bh, 1, none⟩ = some h1 ∧ W'.cell? ⟨Bh, 2, none⟩ = some h2 ∧ W'.cell? ⟨Bh, 3, none⟩ = some h3 ∧ W'.cell? ⟨Bh, 4, none⟩ = some h4 ∧ W'.cell? ⟨Bh, 5, none⟩ = some h5 ∧ W'.cell? ⟨Bh, 6, none⟩ = some h6 ∧ W'.cell? ⟨Bh, 7, none⟩ = some h7) (go_keep) (first
        | (go_at_call 31; refine (CW.out _ (by first | exact Below.refl _ _ | exact (Below.refl _ _).drew)).mono ?_; rintro e w5 ⟨s, rfl, HW5⟩; obtain ⟨cn, cp, zl0, zl1, zl2, zl3, zl4, zl5, zl6, zl7, zh0, zh1, zh2, zh3, zh4, zh5, zh6, zh7⟩ := HC.out _ HW5.out.1))
      have L5 : Hid (LF Q H es fr tz By A B C D J W1 k Ds ys w5) := HLF.out.call HJA.out.1 (by have := HH.out; omega) HW5.out.1
      have H5 : Hid (w5.heap[s]? = some (.cells #[Bt.ptr (Bt.top (Bt.pick k a b c d))] 67 (0, 0)) ∧ w5.heap[s + 1]? = some (.cells #[l0, l1, l2, l3, l4, l5, l6, l7] 29 (0, 0)) ∧ w5.heap[s + 2]? = some (.cells #[h0, h1, h2, h3, h4, h5, h6, h7] 29 (0, 0)) ∧ RT w5 H key (Bt.pick k a b c d) ∧ Bnd w5 H lo (.agg #[l0, l1, l2, l3, l4, l5, l6, l7]) ∧ Bnd w5 H hi (.agg #[h0, h1, h2, h3, h4, h5, h6, h7]) ∧ H ≤ w5.heap.size) := by
        obtain ⟨_, r1, r2, r3, r4⟩ := HCHK.out
        have hHw : H ≤ wr.heap.size := by have := HH.out; have := HLF.out.big; omega
        exact ⟨by rw [r2]; exact HW5.out.2.1, HW5.out.2.2.1, HW5.out.2.2.2, RT.stays (HW5.out.1.mono hHw) r1, r3.stays (HW5.out.1.mono hHw), r4.stays (HW5.out.1.mono hHw), Nat.le_trans hHw HW5.out.1.size⟩
      have SQ := HCHK.out.1 w5 s (s + 1) (s + 2) H5.out.2.2.2.2.2.2 H5.out.2.2.2.1 H5.out.2.2.2.2.1 H5.out.2.2.2.2.2.1 H5.out.1 H5.out.2.1 H5.out.2.2.1
      have HSP := came_split HFT.out.2.2.2.2.1 HKT.out.1 HLF.out.ge HLF.out.came HWL.out.1
      have HSPL : Hid (∃ rest, Bt.wl key lo hi (.node g r es a b c d) = ys.map Subtype.val ++ (Bt.pick k A B C D ++ ((if k < tz then (es[k]?).toList else []) ++ rest))) := HSP
      have HPK : Hid (Bt.wl key lo hi (Bt.pick k a b c d) = Bt.pick k A B C D) := pick_wl HWL.out.2
      clear HSP zl0 zl1 zl2 zl3 zl4 zl5 zl6 zl7 zh0 zh1 zh2 zh3 zh4 zh5 zh6 zh7 cn cp CW HC HW5 q1 qk qk0
      go_wp2_with fail
      refine (wpIn_wide (n := 10)).1 ?_
      refine wpIn_rangeO (F := Fence.wide) (n := 10) rfl (by omega) (gf := 50) (lb := #[.pointer (some ⟨s, 0, none⟩), .pointer (some ⟨s + 1, 0, none⟩), .pointer (some ⟨s + 2, 0, none⟩)]) rfl trivial (enters_of Tryz.func50 (by kernel_rfl) rfl) SQ (fun h k => h.trans k) (Kq.put H5.out.2.2.2.2.2.2) rfl
        (fun q W => MI Q H By J W1 Ds (ys ++ q) W) (fun c q W => c = .ret ∧ Jx (ys ++ q) W ∧ ∀ D ∈ Ds, By ≤ D ∧ W.heap[D]? = some (.deferred (some [])))
        (MI.own HJA.out.1 (by have := HH.out; omega) L5.out.big (by have := HH.out; have := L5.out.big; omega) (fun D hD => lt_of_row (L5.out.marks D hD).2)) (fun c => stop_own HJA.out.2 (by have := HH.out; have := L5.out.big; omega) (fun D hD => lt_of_row (L5.out.marks D hD).2)) (by rw [List.append_nil]; exact L5.out.mi)
        (fun x => { tmps := #[.func (.yield l) #[] #[], .pointer (some ⟨Bn, 0, none⟩), .pointer (some ⟨Bl, 0, none⟩), .pointer (some ⟨Bh, 0, none⟩), .pointer (some ⟨By, 0, none⟩), .int .i64 (fr : Int), .int .i64 (tz : Int), .int .i64 (k : Int), .pointer (some ⟨x.1, 0, none⟩), u9, u10, u11, u12, u13, u14, u15, u16, u17, u18, u19, u20, u21, u22, u23, .int .i64 (k : Int), .int .i64 (tz : Int), .bool true, u27, u28, .pointer (some ⟨g, 0, none⟩), .int .i64 (k : Int), .pointer (some ⟨g, 0, none⟩), .pointer (some ⟨g, 1, none⟩), .pointer (some ⟨g, 1 + k, none⟩), .pointer po, .agg #[l0, l1, l2, l3, l4, l5, l6, l7], .agg #[h0, h1, h2, h3, h4, h5, h6, h7], .func (.func 50) #[] #[.pointer (some ⟨s, 0, none⟩), .pointer (some ⟨s + 1, 0, none⟩), .pointer (some ⟨s + 2, 0, none⟩)], .pointer (some ⟨x.1, 0, none⟩), u39, u40, u41, u42, u43, u44, u45, u46, u47, u48, u49, u50, u51, u52, u53, u54, u55, u56, u57], defers := [] }) ?assign ?body ?done ?stop
      case assign =>
        intro l' x X K hK
        gi_wp2
        exact hK
      case body =>
        intro l' q x X hs hM hlen
        have HM : Hid (MI Q H By J W1 Ds (ys ++ q) X) := hM
        have cy : X.cell? ⟨By, 0, none⟩ = some (.func (.yield l) #[] #[]) := cells_at (RD.out X HM.out.2.1).2.2.2.2.2.2 0 _ rfl
        obtain ⟨fn, tmps, asg, bdy, hy, hR⟩ := HY.out (ys ++ q) x X (by have := HM.out.2.2.1; have := HH.out; omega) HM.out.1 (by
          obtain ⟨rest, e⟩ := HSPL.out
          rw [HPK.out] at hlen
          rw [e]
          simp only [List.length_append, List.length_map]
          omega)
        have HR : Hid (RoundIn Fence.wide (9 - 1) Tryz.prog l fn tmps asg bdy X fun e W' => KeepsFrom By X W' ∧ ((e = .returned (.bool true) ∧ J (ys ++ q ++ [x]) W' ∧ Kq H X W') ∨ (e = .returned (.bool false) ∧ Jx (ys ++ q ++ [x]) W'))) := hR
        have HS5 : Hid (W1.heap.size ≤ w5.heap.size ∧ w5.heap.size ≤ X.heap.size) := ⟨L5.out.big, hs⟩
        clear hM hR hs hlen
        gi_wp2
        refine RoundIn.mono (round_any HR.out) ?_
        rintro e X' ⟨hkf, ⟨rfl, hj, hk⟩ | ⟨rfl, hjx⟩⟩
        · have HE : Hid (ownPostG w5.heap.size (Kq H) (fun q W => MI Q H By J W1 Ds (ys ++ q) W) (fun c q W => c = .ret ∧ Jx (ys ++ q) W ∧ ∀ D ∈ Ds, By ≤ D ∧ W.heap[D]? = some (.deferred (some []))) (q ++ [x]) X .normal { tmps := #[], defers := [] } X') := ⟨keepsFrom_up hkf (by have := HH.out; have := HS5.out; omega), hk, by rw [← List.append_assoc]; exact hj, HM.out.2.1.trans hk, Nat.le_trans HM.out.2.2.1 hk.below.size, fun D hD => ⟨(HM.out.2.2.2 D hD).1, hkf.same _ _ (HM.out.2.2.2 D hD).1 (HM.out.2.2.2 D hD).2 rfl⟩⟩
          clear hkf hj hk
          gi_wp2
          exact HE.out
        · have HE : Hid (ownPostG w5.heap.size (Kq H) (fun q W => MI Q H By J W1 Ds (ys ++ q) W) (fun c q W => c = .ret ∧ Jx (ys ++ q) W ∧ ∀ D ∈ Ds, By ≤ D ∧ W.heap[D]? = some (.deferred (some []))) (q ++ [x]) X .ret { tmps := #[], defers := [] } X') := ⟨keepsFrom_up hkf (by have := HH.out; have := HS5.out; omega), rfl, by rw [← List.append_assoc]; exact hjx, fun D hD => ⟨(HM.out.2.2.2 D hD).1, hkf.same _ _ (HM.out.2.2.2 D hD).1 (HM.out.2.2.2 D hD).2 rfl⟩⟩
          clear hkf hjx
          gi_wp2
          exact HE.out
      case stop =>
        rintro Dn c q X hDn hSp ⟨rfl, hjx, hmk⟩ hDD
        have HSTOP : Hid (∀ tm, LeavesInM Fence.wide 9 Tryz.prog Tryz.f50 tm (fun e W' => (∃ v, e = .returned v) ∧ ((∃ xs : List { e : Nat // Q e }, xs.map Subtype.val = Bt.wl key lo hi (.node g r es a b c d) ∧ J xs W') ∨ (∃ pre : List { e : Nat // Q e }, pre.map Subtype.val <+: Bt.wl key lo hi (.node g r es a b c d) ∧ Jx pre W'))) (Bt.marks (Dn :: Ds)) .returning X) := fun tm =>
          leaves_marks (J := Jx) (s := ys ++ q) (B := By) HJA.out.2 rfl (fun w h => ⟨⟨_, rfl⟩, .inr ⟨ys ++ q, stop_prefix HSPL.out (by rw [← HPK.out]; exact hSp), h⟩⟩) (Dn :: Ds) X (List.nodup_cons.2 ⟨fun hm => by have := lt_of_row (L5.out.marks Dn hm).2; omega, L5.out.nodup⟩) (fun E hE => by
            rcases List.mem_cons.1 hE with rfl | hE
            · exact ⟨by have := HH.out; have := L5.out.big; omega, hDD⟩
            · exact hmk E hE) hjx
        gi_wp2
        exact HSTOP.out _
      case done =>
        rintro Dn q X hDn hS hM hDD
        obtain ⟨zs, hzs⟩ : ∃ zs, zs = ys ++ q := ⟨_, rfl⟩
        have HZ : Hid (MI Q H By J W1 (Dn :: Ds) zs X.drew ∧ (Dn :: Ds).Nodup ∧ zs.map Subtype.val = ys.map Subtype.val ++ Bt.pick k A B C D) := by
          rw [hzs]
          refine ⟨⟨HJA.out.1 _ _ _ none hM.1 grown_drew (fun r e => by cases e), ⟨hM.2.1.below.drew, hM.2.1.cells⟩, hM.2.2.1, fun E hE => ?_⟩, List.nodup_cons.2 ⟨fun hm => by have := lt_of_row (L5.out.marks Dn hm).2; omega, L5.out.nodup⟩, by rw [List.map_append, hS, HPK.out]⟩
          rcases List.mem_cons.1 hE with rfl | hE
          · exact ⟨by have := HH.out; have := L5.out.big; omega, hDD⟩
          · exact hM.2.2.2 E hE
        clear hzs hS hM hDD hDn
        have HC0 : Hid ((ys.map Subtype.val = (List.range' fr (k - fr)).flatMap fun i => Bt.rnd es tz i A B C D) ∧ fr ≤ k) := ⟨HLF.out.came, HLF.out.ge⟩
        clear L5 H5 SQ
        go_upto_region 10 with fail
        by_cases hlt : k < tz
        · obtain ⟨e, he⟩ : ∃ e, es[k]? = some e := ⟨_, List.getElem?_eq_getElem (by have := HFT.out; omega)⟩
          have cy : X.drew.cell? ⟨By, 0, none⟩ = some (.func (.yield l) #[] #[]) := cells_at (RD.out _ HZ.out.1.2.1).2.2.2.2.2.2 0 _ rfl
          have cn : X.drew.cell? ⟨Bn, 0, none⟩ = some (.pointer (some ⟨g, 0, none⟩)) := cells_at (RD.out _ HZ.out.1.2.1).2.2.2.1 0 _ rfl
          have cg : X.drew.cell? ⟨g, 0, none⟩ = some (.slice (some ⟨r, 0, none⟩) n cap) := cells_at (HCAP.out _ HZ.out.1.2.1) 0 _ rfl
          have ce : X.drew.cell? ⟨r, k, none⟩ = some (.pointer (some ⟨e, 0, none⟩)) := by
            have := (RD.out _ HZ.out.1.2.1).1.1.2.2.2.1 k e he
            rw [Nat.zero_add] at this
            exact this
          obtain ⟨x, hx⟩ : ∃ x : { e : Nat // Q e }, x.1 = e := ⟨⟨e, HQ.out e (List.mem_of_getElem? he)⟩, rfl⟩
          obtain ⟨fn, tmps, asg, bdy, hy, hR⟩ := HY.out zs x X.drew (by have := HZ.out.1.2.2.1; have := HH.out; omega) HZ.out.1.1 (by
            obtain ⟨rest, e1⟩ := HSPL.out
            have := congrArg List.length HZ.out.2.2
            rw [List.length_map] at this
            rw [e1, if_pos hlt, he, this]
            simp)
          rw [hx] at hy
          have HR : Hid (RoundIn Fence.wide (9 - 1) Tryz.prog l fn tmps asg bdy X.drew fun e W' => KeepsFrom By X.drew W' ∧ ((e = .returned (.bool true) ∧ J (zs ++ [x]) W' ∧ Kq H X.drew W') ∨ (e = .returned (.bool false) ∧ Jx (zs ++ [x]) W'))) := hR
          have HEX : Hid (es[k]? = some e ∧ x.1 = e) := ⟨he, hx⟩
          clear hR he hx
          have q1 : (k : Int) < (tz : Int) := by omega
          have q2 : decide ((k : Int) < (tz : Int)) = true := decide_eq_true q1
          have q3 : (k : Int) < (n : Int) := by have := HFT.out; omega
          have q4 : (0 : Int) ≤ (k : Int) := by omega
          have hmx : Tryz.prog.follows .mixedOrders = true := by kernel_rfl
          have HR2 : Hid (RoundIn Fence.wide (9 - 1) Tryz.prog l fn tmps asg bdy X.drew fun e W' => ∃ b, e = .returned (.bool b) ∧ Hid (KeepsFrom By X.drew W' ∧ ((b = true ∧ J (zs ++ [x]) W' ∧ Kq H X.drew W') ∨ (b = false ∧ Jx (zs ++ [x]) W')))) := RoundIn.mono HR.out (by
            rintro e W' ⟨hkf, ⟨rfl, hj, hk⟩ | ⟨rfl, hjx⟩⟩
            · exact ⟨true, rfl, hkf, .inl ⟨rfl, hj, hk⟩⟩
            · exact ⟨false, rfl, hkf, .inr ⟨rfl, hjx⟩⟩)
          clear HR
          refine (wpIn_wide (n := 10)).1 ?_
          refine wpIn_mono (Q := fun en a' X' => en = .normal ∧ ∃ bb, a' = { tmps := #[.func (.yield l) #[] #[], .pointer (some ⟨Bn, 0, none⟩), .pointer (some ⟨Bl, 0, none⟩), .pointer (some ⟨Bh, 0, none⟩), .pointer (some ⟨By, 0, none⟩), .int .i64 (fr : Int), .int .i64 (tz : Int), .int .i64 (k : Int), u8, u9, u10, u11, u12, u13, u14, u15, u16, u17, u18, u19, u20, u21, u22, u23, .int .i64 (k : Int), .int .i64 (tz : Int), .bool true, u27, u28, .pointer (some ⟨g, 0, none⟩), .int .i64 (k : Int), .pointer (some ⟨g, 0, none⟩), .pointer (some ⟨g, 1, none⟩), .pointer (some ⟨g, 1 + k, none⟩), .pointer po, .agg #[l0, l1, l2, l3, l4, l5, l6, l7], .agg #[h0, h1, h2, h3, h4, h5, h6, h7], .func (.func 50) #[] #[.pointer (some ⟨s, 0, none⟩), .pointer (some ⟨s + 1, 0, none⟩), .pointer (some ⟨s + 2, 0, none⟩)], u38, u39, u40, u41, u42, .int .i64 (k : Int), .int .i64 (tz : Int), .bool true, .bool true, .func (.yield l) #[] #[], .pointer (some ⟨g, 0, none⟩), .pointer (some ⟨g, 0, none⟩), .pointer (some ⟨g, 0, none⟩), .slice (some ⟨r, 0, none⟩) n cap, .int .i64 (k : Int), .pointer (some ⟨r, k, none⟩), .pointer (some ⟨e, 0, none⟩), .bool bb, .bool (!bb), .bool (!bb)], defers := { target := .collected Dn, args := #[] } :: Bt.marks Ds } ∧ Hid (KeepsFrom By X.drew X' ∧ ((bb = true ∧ J (zs ++ [x]) X' ∧ Kq H X.drew X') ∨ (bb = false ∧ Jx (zs ++ [x]) X')))) ?reg ?cont
          case reg =>
            refine wpIn_mono (Q := NoExit _) ?_ NoExit.imp
            gi_region_with_o (refine RoundIn.mono (round_wide HR2.out) ?_; rintro en X' ⟨bb, rfl, HX'⟩)
            all_goals exact NoExit.normal ⟨rfl, bb, rfl, HX'⟩
          case cont =>
            rintro en a' X' ⟨rfl, bb, rfl, HX'⟩
            clear HR2 hy cy cn cg ce q1 q2 q3 q4
            obtain ⟨k1, hk1⟩ : ∃ k1, k1 = k + 1 := ⟨_, rfl⟩
            obtain ⟨v1, v2⟩ : IntKind.i64.wrap ((k : Int) + 1) = (k1 : Int) ∧ wrap64 ((k : Int) + 1) = (k1 : Int) := Bt.wr (by omega) (by have := HKT.out; omega)
            cases bb with
            | true =>
              have HN : Hid (LF Q H es fr tz By A B C D J W1 k1 (Dn :: Ds) (zs ++ [x]) X' ∧ k1 = k + 1) := by
                obtain ⟨hkf, hj, hk⟩ : KeepsFrom By X.drew X' ∧ J (zs ++ [x]) X' ∧ Kq H X.drew X' := by
                  rcases HX'.out with ⟨h1, ⟨_, h2, h3⟩ | ⟨h2, _⟩⟩
                  · exact ⟨h1, h2, h3⟩
                  · cases h2
                rw [hk1]
                exact ⟨⟨by have := HC0.out.2; omega, .inl (by have := HKT.out; omega), by have := HKT.out; omega, by
                  rw [List.map_append, HZ.out.2.2, HC0.out.1, came_next HC0.out.2, Bt.rnd, if_pos hlt, HEX.out.1, ← HEX.out.2]
                  simp [List.append_assoc], hj, HZ.out.1.2.1.trans hk, Nat.le_trans HZ.out.1.2.2.1 hk.below.size, HZ.out.2.1, fun D hD => ⟨(HZ.out.1.2.2.2 D hD).1, hkf.same _ _ (HZ.out.1.2.2.2 D hD).1 (HZ.out.1.2.2.2 D hD).2 rfl⟩⟩, rfl⟩
              clear HX' hk1
              go_wp2
              refine ⟨⟨k1, Dn :: Ds, zs ++ [x], _, _, _, _, _, _, _, _, _, _, _, _, _, _, _, _, _, _, _, _, _, _, _, _, _, _, _, _, _, _, _, _, _, _, _, _, _, _, _, _, _, _, _, _, _, _, _, _, _, _, rfl, HN.out.1⟩, ?_⟩
              have := HN.out.2
              have := HKT.out
              simp [intOf]
              omega
            | false =>
              have HSTOP : Hid (∀ tm, LeavesInM Fence.wide 9 Tryz.prog Tryz.f50 tm (fun e W' => (∃ v, e = .returned v) ∧ ((∃ xs : List { e : Nat // Q e }, xs.map Subtype.val = Bt.wl key lo hi (.node g r es a b c d) ∧ J xs W') ∨ (∃ pre : List { e : Nat // Q e }, pre.map Subtype.val <+: Bt.wl key lo hi (.node g r es a b c d) ∧ Jx pre W'))) (Bt.marks (Dn :: Ds)) .returning X') := fun tm => by
                obtain ⟨hkf, hjx⟩ : KeepsFrom By X.drew X' ∧ Jx (zs ++ [x]) X' := by
                  rcases HX'.out with ⟨h1, ⟨h2, _⟩ | ⟨_, h2⟩⟩
                  · cases h2
                  · exact ⟨h1, h2⟩
                refine leaves_marks (J := Jx) (s := zs ++ [x]) (B := By) HJA.out.2 rfl (fun w h => ⟨⟨_, rfl⟩, .inr ⟨zs ++ [x], ?_, h⟩⟩) (Dn :: Ds) X' HZ.out.2.1 (fun D hD => ⟨(HZ.out.1.2.2.2 D hD).1, hkf.same _ _ (HZ.out.1.2.2.2 D hD).1 (HZ.out.1.2.2.2 D hD).2 rfl⟩) hjx
                obtain ⟨rest, e1⟩ := HSPL.out
                rw [e1, if_pos hlt, HEX.out.1, List.map_append, HZ.out.2.2, ← HEX.out.2]
                exact ⟨rest, by simp [List.append_assoc]⟩
              clear HX' hk1
              go_wp2
              exact HSTOP.out _
        · have q1 : ¬ (k : Int) < (tz : Int) := by omega
          have q2 : decide ((k : Int) < (tz : Int)) = false := decide_eq_false q1
          obtain ⟨k1, hk1⟩ : ∃ k1, k1 = k + 1 := ⟨_, rfl⟩
          obtain ⟨v1, v2⟩ : IntKind.i64.wrap ((k : Int) + 1) = (k1 : Int) ∧ wrap64 ((k : Int) + 1) = (k1 : Int) := Bt.wr (by omega) (by have := HKT.out; omega)
          have HN : Hid (∀ X', Below X.drew.heap.size X.drew X' → LF Q H es fr tz By A B C D J W1 k1 (Dn :: Ds) zs X' ∧ k1 = k + 1) := fun X' hX' => by
            rw [hk1]
            refine ⟨LF.call (w := X.drew) ⟨by have := HC0.out.2; omega, .inl (by have := HKT.out; omega), by have := HKT.out; omega, by
                  rw [HZ.out.2.2, HC0.out.1, came_next HC0.out.2, Bt.rnd, if_neg hlt]
                  simp, HZ.out.1.1, HZ.out.1.2.1, HZ.out.1.2.2.1, HZ.out.2.1, HZ.out.1.2.2.2⟩ HJA.out.1 (by have := HH.out; omega) hX', rfl⟩
          clear hk1
          refine wp_region_below X.heap.size X (Below.refl _ _) (by kernel_rfl) (by kernel_rfl) ?_
          repeat (go_big_quiet_step (fail))
          refine wpQuiet_nil ?_
          intro _ hw'
          obtain ⟨pq, hw''⟩ := hw'
          subst hw''
          have HN2 := HN.out _ (show Below X.drew.heap.size X.drew pq.W from ⟨pq.h.os, pq.h.tape, pq.h.output, pq.h.size, pq.h.block⟩)
          have HN3 : Hid (LF Q H es fr tz By A B C D J W1 k1 (Dn :: Ds) zs pq.W ∧ k1 = k + 1) := HN2
          clear HN2 HN
          go_wp2
          first
            | refine ⟨⟨k1, Dn :: Ds, ⟨rfl, rfl⟩, zs, HN3.out.1⟩, ?_⟩
            | refine ⟨⟨k1, Dn :: Ds, zs, _, _, _, _, _, _, _, _, _, _, _, _, _, _, _, _, _, _, _, _, _, _, _, _, _, _, _, _, _, _, _, _, _, _, _, _, _, _, _, _, _, _, _, _, _, _, _, _, _, _, rfl, HN3.out.1⟩, ?_⟩
          have := HN3.out.2
          have := HKT.out
          simp [intOf]
          omega
    · have q1 : ¬ (k : Int) ≤ (tz : Int) := by omega
      have HEND : Hid (∀ tm, LeavesInM Fence.wide 9 Tryz.prog Tryz.f50 tm (fun e W' => (∃ v, e = .returned v) ∧ ((∃ xs : List { e : Nat // Q e }, xs.map Subtype.val = Bt.wl key lo hi (.node g r es a b c d) ∧ J xs W') ∨ (∃ pre : List { e : Nat // Q e }, pre.map Subtype.val <+: Bt.wl key lo hi (.node g r es a b c d) ∧ Jx pre W'))) (Bt.marks Ds) .returning wr) := fun tm => by
        refine leaves_marks (J := J) (s := ys) (B := By) HJA.out.1 rfl (fun w h => ⟨⟨_, rfl⟩, .inl ⟨ys, ?_, h⟩⟩) Ds wr HLF.out.nodup HLF.out.marks HLF.out.inv
        rw [HLF.out.came, HWL.out.1, Bt.rnds]
        have h1 := HLF.out.le
        have h2 := HLF.out.ge
        rw [show tz + 1 - fr = k - fr by omega]
      clear hkt
      go_wp2
      exact HEND.out _
end Go.Proofs.YtkigenldiinioaaGreatDoor
