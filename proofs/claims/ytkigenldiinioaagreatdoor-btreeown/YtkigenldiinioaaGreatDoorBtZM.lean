/- Put of a key that a tree has not: walked. -/
import Derived.Test.YtkigenldiinioaaGreatDoorQ17M
import Derived.Test.YtkigenldiinioaaGreatDoorQ18M
namespace Go.Proofs.YtkigenldiinioaaGreatDoor
open Go.RowKit
open Vl (V)
attribute [local go_sem ↓] Go.wp_at_zero Go.wp_at_succ
/-- what comes ahead in Put's region -/
def Bt.zpre : Nat → List Nat := fun i => (#[[], [], [1], [1, 2], [1, 2, 3], [], [], [6], [6, 7], [6, 7, 8], [6, 7, 8, 9], [6, 7, 8, 9, 10], [6, 7, 8, 9, 10, 11], [1, 2, 3, 4, 5, 6, 7, 8, 9, 10, 11, 12], [0, 1, 2, 3, 4, 5, 6, 7, 8, 9, 10, 11, 12, 13], [0, 1, 2, 3, 4, 5, 6, 7, 8, 9, 10, 11, 12, 13, 14], [0, 1, 2, 3, 4, 5, 6, 7, 8, 9, 10, 11, 12, 13, 14, 15]] : Array (List Nat)).getD i []
/-- what its slots hold -/
def Bt.zval (tb e : Nat) (po : Option Addr) (m m1 lv : Nat) : Nat → Value := fun i => (#[.pointer (some ⟨tb, 0, none⟩), .pointer (some ⟨tb, 0, none⟩), .pointer (some ⟨tb, 0, none⟩), .pointer (some ⟨tb, 0, none⟩), .pointer po, .pointer (some ⟨e, 0, none⟩), .pointer (some ⟨tb, 0, none⟩), .pointer (some ⟨tb, 0, none⟩), .pointer (some ⟨tb, 0, none⟩), .pointer po, .int .i64 (m : Int), .int .i64 (m1 : Int), .int .i64 (lv : Int), undef, .pointer (some ⟨tb, 0, none⟩), .pointer (some ⟨tb, 0, none⟩), undef] : Array Value).getD i undef
/-- the region's state: by what is done -/
structure ZI (Z : Nat → Value) (Pre : World → Prop) (Mid Post : Bt.T → World → Prop) (L : Nat → Bool) (f : Nat → Value) (W : World) : Prop where
  vals : ∀ j, j ≠ 13 → j ≠ 16 → L j = true → f j = Z j
  ahead : L 13 = false → L 16 = false ∧ Pre W
  behind : L 13 = true → ∃ t', f 13 = Bt.ptr (Bt.top t') ∧ (L 16 = false → Mid t' W) ∧ (L 16 = true → Post t' W)
theorem ZI.pure {Z : Nat → Value} {Pre : World → Prop} {Mid Post : Bt.T → World → Prop} {L : Nat → Bool} {f : Nat → Value} {W : World} (h : ZI Z Pre Mid Post L f W) {i : Nat} {v : Value} (h1 : i ≠ 13) (h2 : i ≠ 16) (hv : v = Z i) : ZI Z Pre Mid Post (updB L i) (upd f i v) W where
  vals := fun j q1 q2 hL => by
    by_cases e : j = i
    · subst e; rw [upd_same]; exact hv
    · rw [updB_other e] at hL; rw [upd_other e]; exact h.vals j q1 q2 hL
  ahead := fun hL => by
    rw [updB_other (fun q => h1 q.symm)] at hL
    rw [updB_other (fun q => h2 q.symm)]
    exact h.ahead hL
  behind := fun hL => by
    rw [updB_other (fun q => h1 q.symm)] at hL
    rw [updB_other (fun q => h2 q.symm), upd_other (fun q => h1 q.symm)]
    exact h.behind hL
theorem ZI.call {Z : Nat → Value} {Pre : World → Prop} {Mid Post : Bt.T → World → Prop} {L : Nat → Bool} {f : Nat → Value} {W W' : World} (h : ZI Z Pre Mid Post L f W) {t' : Bt.T} (hn : L 16 = false) (hM : Mid t' W') : ZI Z Pre Mid Post (updB L 13) (upd f 13 (Bt.ptr (Bt.top t'))) W' where
  vals := fun j q1 q2 hL => by
    rw [updB_other q1] at hL; rw [upd_other q1]; exact h.vals j q1 q2 hL
  ahead := fun hL => by rw [updB_same] at hL; cases hL
  behind := fun _ => ⟨t', upd_same _ _ _, fun _ => hM, fun hL => by rw [updB_other (by omega), hn] at hL; cases hL⟩
theorem ZI.store {Z : Nat → Value} {Pre : World → Prop} {Mid Post : Bt.T → World → Prop} {L : Nat → Bool} {f : Nat → Value} {W W' : World} {v : Value} (h : ZI Z Pre Mid Post L f W) (h13 : L 13 = true) {t' : Bt.T} (ht : f 13 = Bt.ptr (Bt.top t')) (hM : Post t' W') : ZI Z Pre Mid Post (updB L 16) (upd f 16 v) W' where
  vals := fun j q1 q2 hL => by
    rw [updB_other q2] at hL; rw [upd_other q2]; exact h.vals j q1 q2 hL
  ahead := fun hL => by rw [updB_other (by omega), h13] at hL; cases hL
  behind := fun _ => ⟨t', by rw [upd_other (by omega)]; exact ht, fun hL => (by rw [updB_same] at hL; cases hL), fun _ => hM⟩
/-- the first number in a new row -/
theorem insF_c {W : World} {id : Nat} :
    Calls Tryz.prog 43 #[.slice none 0 0, .int .i64 0, .slice (some ⟨W.heap.size, 0, none⟩) 1 1] (W.alloc (.cells #[.int .u64 (id : Int)] 51)) fun ex w' => ∃ i' cap', ex = .returned (.slice (some ⟨i', 0, none⟩) 1 cap') ∧ Below W.heap.size W w' ∧ W.heap.size ≤ i' ∧ IdsAt w' (.slice (some ⟨i', 0, none⟩) 1 cap') [id] := by
  obtain ⟨X, hX⟩ : ∃ X, X = W.alloc (.cells #[.int .u64 (id : Int)] 51) := ⟨_, rfl⟩
  have bX : Below W.heap.size W X := by rw [hX]; exact below_new _ _
  rw [← hX]
  refine (insU_c 0 0 W.heap.size [] (.int .u64 (id : Int)) (.slice none 0 0) X ⟨rfl, .inl ⟨rfl, rfl⟩⟩ (Nat.le_refl _) (by omega) (by rw [hX]; exact heap_alloc_new W _) (fun q => by cases q) (fun u hu => by cases hu) rfl).mono ?_
  rintro ex w' ⟨v', rfl, o1, g1, at1⟩
  obtain ⟨r', cap', rfl⟩ := ownsRow_succ o1
  refine ⟨r', cap', rfl, bX.grown g1 bX.size (fun k q => by cases q), ?_, o1⟩
  rcases at1 with q | q
  · cases q
  · have q2 := Option.some.inj (show some r' = some X.heap.size from q)
    have := bX.size
    omega
section
variable {w : World} {F : Nat → Prop} {tb : Nat} {t : Bt.T} {key : Nat → V} {ids : Nat → List Nat} {ir : Nat → Nat} {n : Nat}
set_option maxHeartbeats 4000000 in
set_option maxRecDepth 100000 in
theorem put_new (h : TA w F tb t key ids ir n) (hU : Bn.HasU w) (hO : WithOK t) {x : V} {v : Value} (hv : Rep w w.heap.size x v) (hx : Bt.kerr x = 0) (hsm : Vl.small x) {id : Nat} (he : Bt.at? key x (Bt.flat t) = none) (hn : n < 1024) :
    Calls Tryz.prog 24 #[.pointer (some ⟨tb, 0, none⟩), v, .int .u64 (id : Int)] w fun ex w' => ex = .returned (.int .i64 0) ∧ ∃ e t' i' s, Bt.flat t' = Bt.kins (Bt.set key e x) e (Bt.flat t) ∧ w.heap.size ≤ e ∧ w.heap.size ≤ s ∧ Kept (OB tb t ir) w w' ∧ TA w' (fun g => F g ∨ (s ≤ g ∧ g < w'.heap.size)) tb t' (Bt.set key e x) (Bt.set ids e [id]) (Bt.set ir e i') (n + 1) ∧ ∀ g, OB tb t' (Bt.set ir e i') g → OB tb t ir g ∨ w.heap.size ≤ g := by
  have CA : Hid (∀ W, Below w.heap.size w W → Calls Tryz.prog 34 #[.pointer (some ⟨tb, 0, none⟩), v] W fun ex w' => ex = .returned (.tuple #[.pointer none, .int .i64 0]) ∧ Below W.heap.size W w') := fun W hW => by
    have := h.at_has hU hv hx W hW
    rw [he] at this
    exact this
  have CP : Hid (∀ W, Calls Tryz.prog 39 #[.pointer none, .int .u64 (id : Int)] W fun ex w' => ex = .returned (.tuple #[.int .i64 0, .bool false]) ∧ Below W.heap.size W w') := fun W => eplace_nil id W
  have CO : Hid (∀ W, Below w.heap.size w W → Calls Tryz.prog 32 #[v] W fun ex w' => ∃ k0 k1 k2 k3 k4 k5, ex = .returned (.agg #[k0, k1, k2, k3, k4, k5]) ∧ Hid (Below w.heap.size w w' ∧ RepA w' (fun g => w.heap.size ≤ g ∧ g < w'.heap.size) x (.agg #[k0, k1, k2, k3, k4, k5]))) := fun W hW => by
    refine (own_c x hsm W w.heap.size v hW.size (rep_stays hW (Nat.le_refl _) _ _ hv)).mono ?_
    rintro ex w' ⟨v', rfl, hb, hr⟩
    obtain ⟨k3, b3, n3, s3, a3, l3, e3, a4, l4, e4, rfl⟩ := repA_form hr
    exact ⟨_, _, _, _, _, _, rfl, hW.trans (hb.mono hW.size), repA_stays (fun _ _ => rfl) (fun g hg => ⟨by have := hg.1; have := hW.size; omega, hg.2⟩) _ _ hr⟩
  have HT : Hid (∀ W, Below w.heap.size w W → W.cell? ⟨tb, 1, none⟩ = some (.int .i64 (n : Int))) := fun W hW => cells_at ((hW.block _ (lt_of_row h.box)).trans h.box) 1 _ rfl
  obtain ⟨d0, d1, d2, d3, d4, d5, rfl⟩ := repV_box hv
  have qn : ¬ ((1024 : Int) ≤ (n : Int)) := by omega
  have qd : decide ((1024 : Int) ≤ (n : Int)) = false := decide_eq_false qn
  have HH : Hid (TA w F tb t key ids ir n ∧ WithOK t ∧ Vl.small x ∧ Bt.at? key x (Bt.flat t) = none ∧ n < 1024) := ⟨h, hO, hsm, he, hn⟩
  obtain ⟨w1, hw1⟩ : ∃ w1, w1 = w.alloc (.cells #[d0, d1, d2, d3, d4, d5] 27) := ⟨_, rfl⟩
  obtain ⟨B, hBe⟩ : ∃ B, B = w.heap.size := ⟨_, rfl⟩
  have hB1 : w1.heap[B]? = some (.cells #[d0, d1, d2, d3, d4, d5] 27 (0, 0)) := by rw [hw1, hBe]; exact heap_alloc_new w _
  have b1 : Below w.heap.size w w1 := by rw [hw1]; exact below_new _ _
  have HB : Hid (∀ W, Below w1.heap.size w1 W → Below w.heap.size w W ∧ W.heap[B]? = some (.cells #[d0, d1, d2, d3, d4, d5] 27 (0, 0))) := fun W hW => ⟨b1.trans (hW.mono b1.size), (hW.block _ (lt_of_row hB1)).trans hB1⟩
  clear h hU hv hx he hn hsm hO b1
  have cb := fun i u (hi : #[d0, d1, d2, d3, d4, d5][i]? = some u) => cells_at hB1 i u hi
  have c0 := cb 0 d0 rfl
  have c1 := cb 1 d1 rfl
  have c2 := cb 2 d2 rfl
  have c3 := cb 3 d3 rfl
  have c4 := cb 4 d4 rfl
  have c5 := cb 5 d5 rfl
  clear cb hB1
  go_enter Tryz.func24, Tryz.ntmps24
  go_upto_region 1 with fail
  rw [← hw1, ← hBe]
  clear hw1 hBe
  go_upto_region 7 with (first | (go_at_call 34; refine (CA.out _ (HB.out _ (Below.refl _ _)).1).mono ?_; rintro ex w2 ⟨rfl, hb⟩; have HB2 : Hid (Below w1.heap.size w1 w2) := hb; clear hb) | (go_at_call 39; refine (CP.out _).mono ?_; rintro ex w3 ⟨rfl, hb⟩; have HB3 : Hid (Below w1.heap.size w1 w3) := HB2.out.trans (hb.mono HB2.out.size); clear hb))
  have t1 := HT.out w3 (HB.out _ HB3.out).1
  clear CA CP HT HB2 c0 c1 c2 c3 c4 c5
  have cb := fun i u (hi : #[d0, d1, d2, d3, d4, d5][i]? = some u) => cells_at (HB.out _ HB3.out).2 i u hi
  have c0 := cb 0 d0 rfl
  have c1 := cb 1 d1 rfl
  have c2 := cb 2 d2 rfl
  have c3 := cb 3 d3 rfl
  have c4 := cb 4 d4 rfl
  have c5 := cb 5 d5 rfl
  clear cb
  go_upto_region 11 with (go_at_call 32; refine (CO.out _ (HB.out _ HB3.out).1).mono ?_; rintro ex w4 ⟨k0, k1, k2, k3, k4, k5, rfl, HV⟩)
  clear c0 c1 c2 c3 c4 c5 t1 HB HB3 CO qn qd
  obtain ⟨e, hee⟩ : ∃ e, e = w4.heap.size := ⟨_, rfl⟩
  obtain ⟨w5, hw5⟩ : ∃ w5, w5 = w4.alloc (.cells #[k0, k1, k2, k3, k4, k5, .slice none 0 0] 73) := ⟨_, rfl⟩
  rw [← hw5, ← hee]
  have h5 : Below w.heap.size w w5 := by rw [hw5]; exact HV.out.1.alloc HV.out.1.size _
  have s5 : w5.heap.size = e + 1 := by rw [hw5, hee]; simp
  have he5 : w5.heap[e]? = some (.cells #[k0, k1, k2, k3, k4, k5, .slice none 0 0] 73 (0, 0)) := by rw [hw5, hee]; exact heap_alloc_new w4 _
  have b45 : Below w4.heap.size w4 w5 := by rw [hw5]; exact below_new _ _
  have hle : w.heap.size ≤ e := by rw [hee]; exact HV.out.1.size
  have hT := HH.out.1
  have hnew : ∀ f ∈ Bt.flat t, f ≠ e := fun f hf q => by have := hT.lt f (hT.ent f hf).1; omega
  have hT5 : TA w5 F tb t key ids ir n := hT.stays h5
  have hex : EK w5 w5.heap.size x e := ⟨by omega, k0, k1, k2, k3, k4, k5, _, he5, rep_stays (H := w4.heap.size) b45 (by omega) _ _ (repA_rep (fun g hg => hg.2) _ _ HV.out.2)⟩
  obtain ⟨m, hm⟩ : ∃ m, m = (Bt.flat t).length := ⟨_, rfl⟩
  have hm1 : m ≤ 1024 := by have := hT.keys; have := hT.le; omega
  obtain ⟨m1, hm2⟩ : ∃ m1, m1 = m + 1 := ⟨_, rfl⟩
  obtain ⟨lv, hlv⟩ : ∃ lv, lv = Bt.fewest m1 := ⟨_, rfl⟩
  obtain ⟨po, hpo⟩ : ∃ po, Bt.ptr (Bt.top t) = .pointer po := ⟨_, rfl⟩
  have C42 : Hid (∀ W, Below w5.heap.size w5 W → Calls Tryz.prog 42 #[.pointer po] W fun ex w' => ex = .returned (.int .i64 (m : Int)) ∧ w' = W) := fun W hW => by
    rw [← hpo, hm]
    exact count_t t W (hT5.stays hW).nt
  have C41 : Hid (∀ W, Calls Tryz.prog 41 #[.int .i64 (m1 : Int)] W fun ex w' => ex = .returned (.int .i64 (lv : Int)) ∧ w' = W) := fun W => by
    rw [hlv]
    exact fewest_c m1 (by omega) W
  obtain ⟨Mid, hMid⟩ : ∃ Mid : Bt.T → World → Prop, Mid = fun t' w' => Only (Bt.blocks t) w5 w' ∧ NT w' t' ∧ Bt.wf t' ∧ Bt.flat t' = Bt.kins (Bt.set key e x) e (Bt.flat t) ∧ Bt.levels t' = Bt.fewest ((Bt.flat t).length + 1) ∧ (Bt.blocks t').Nodup ∧ ∀ g ∈ Bt.blocks t', g ∈ Bt.blocks t ∨ w5.heap.size ≤ g := ⟨_, rfl⟩
  have C40 : Hid (∀ W, Below w5.heap.size w5 W → Calls Tryz.prog 40 #[.pointer po, .pointer (some ⟨e, 0, none⟩), .int .i64 (lv : Int)] W fun ex w' => ∃ t', ex = .returned (Bt.ptr (Bt.top t')) ∧ Mid t' w') := fun W hW => by
    have hTW := hT5.stays hW
    have ho : ∀ f ∈ Bt.flat t, Bt.set key e x f = key f := fun f hf => Bt.set_other (hnew f hf)
    have c := HH.out.2.1 (Bt.set key e x) W e hTW.nt hTW.wf (Bt.rises_congr ho hTW.rises) (fun f hf => by rw [ho f hf]; exact (hTW.ent f hf).2.2.ek) (by rw [Bt.set_same]; exact (hex.stays hW).up hW.size) (by rw [Bt.set_same, Bt.at_congr ho]; exact HH.out.2.2.2.1) (by have := hT.keys; have := HH.out.2.2.2.2; omega) hTW.nd hTW.lev
    rw [hpo, ← hm, ← hm2, ← hlv] at c
    refine c.mono ?_
    rintro ex w' ⟨t', rfl, o, r1, r2, r3, r4, r5, r6⟩
    refine ⟨t', rfl, ?_⟩
    rw [hMid]
    refine ⟨⟨o.os.trans hW.os, o.tape.trans hW.tape, o.output.trans hW.output, Nat.le_trans hW.size o.size, fun k hk hkm => (o.block k (Nat.lt_of_lt_of_le hk hW.size) hkm).trans (hW.block k hk)⟩, r1, r2, r3, by rw [r4, hlv, hm2, hm], r5, fun g hg => ?_⟩
    rcases r6 g hg with q | q
    · exact .inl q
    · exact .inr (Nat.le_trans hW.size q)
  have htl := hT.lt tb hT.fbox
  have HM : Hid (∀ t' W0, Mid t' W0 → W0.heap[tb]? = some (.cells #[.pointer po, .int .i64 (n : Int)] 69 (0, 0)) ∧ W0.heap[e]? = some (.cells #[k0, k1, k2, k3, k4, k5, .slice none 0 0] 73 (0, 0))) := fun t' W0 hM => by
    rw [hMid] at hM
    refine ⟨?_, ?_⟩
    · rw [← hpo]
      exact (hM.1.block tb (by omega) (fun q => (hT.blk_ne q).1 rfl)).trans hT5.box
    · exact (hM.1.block e (by omega) (fun q => by have := hT.lt e (hT.fnt e q); omega)).trans he5
  have HFIN : Hid (∀ t' W0 W7 i' cap', Mid t' W0 → Below (W0.setCell ⟨tb, 0, none⟩ (Bt.ptr (Bt.top t'))).heap.size (W0.setCell ⟨tb, 0, none⟩ (Bt.ptr (Bt.top t'))) W7 → (W0.setCell ⟨tb, 0, none⟩ (Bt.ptr (Bt.top t'))).heap.size ≤ i' → IdsAt W7 (.slice (some ⟨i', 0, none⟩) 1 cap') [id] → W7.heap[e]? = some (.cells #[k0, k1, k2, k3, k4, k5, .slice none 0 0] 73 (0, 0)) ∧ (W7.setCell ⟨e, 6, none⟩ (.slice (some ⟨i', 0, none⟩) 1 cap')).heap[tb]? = some (.cells #[Bt.ptr (Bt.top t'), .int .i64 (n : Int)] 69 (0, 0)) ∧ ∃ e2 t2 i2 s, Bt.flat t2 = Bt.kins (Bt.set key e2 x) e2 (Bt.flat t) ∧ w.heap.size ≤ e2 ∧ w.heap.size ≤ s ∧ Kept (OB tb t ir) w ((W7.setCell ⟨e, 6, none⟩ (.slice (some ⟨i', 0, none⟩) 1 cap')).setCell ⟨tb, 1, none⟩ (.int .i64 ((n + 1 : Nat) : Int))) ∧ TA ((W7.setCell ⟨e, 6, none⟩ (.slice (some ⟨i', 0, none⟩) 1 cap')).setCell ⟨tb, 1, none⟩ (.int .i64 ((n + 1 : Nat) : Int))) (fun g => F g ∨ (s ≤ g ∧ g < ((W7.setCell ⟨e, 6, none⟩ (.slice (some ⟨i', 0, none⟩) 1 cap')).setCell ⟨tb, 1, none⟩ (.int .i64 ((n + 1 : Nat) : Int))).heap.size)) tb t2 (Bt.set key e2 x) (Bt.set ids e2 [id]) (Bt.set ir e2 i2) (n + 1) ∧ ∀ g, OB tb t2 (Bt.set ir e2 i2) g → OB tb t ir g ∨ w.heap.size ≤ g) := fun t' W0 W7 i' cap' hM h7 hi' hrow => by
    obtain ⟨q1, q2⟩ := HM.out t' W0 hM
    rw [hMid] at hM
    obtain ⟨o, r1, r2, r3, r4, r5, r6⟩ := hM
    have s6 : (W0.setCell ⟨tb, 0, none⟩ (Bt.ptr (Bt.top t'))).heap.size = W0.heap.size := by simp
    rw [s6] at h7 hi'
    have so := o.size
    have hte : tb ≠ e := by omega
    have e6 : (W0.setCell ⟨tb, 0, none⟩ (Bt.ptr (Bt.top t'))).heap[e]? = some (.cells #[k0, k1, k2, k3, k4, k5, .slice none 0 0] 73 (0, 0)) := by rw [heap_setCell_other _ _ _ _ (fun q => hte q.symm)]; exact q2
    have t6 := heap_setCell_same W0 tb 0 _ 69 (Bt.ptr (Bt.top t')) q1
    have e7 := (h7.block e (by omega)).trans e6
    have t7 := (h7.block tb (by omega)).trans t6
    have t8 : (W7.setCell ⟨e, 6, none⟩ (.slice (some ⟨i', 0, none⟩) 1 cap')).heap[tb]? = some (.cells #[Bt.ptr (Bt.top t'), .int .i64 (n : Int)] 69 (0, 0)) := by rw [heap_setCell_other _ _ _ _ hte]; exact t7
    refine ⟨e7, t8, e, t', i', w4.heap.size, r3, hle, HV.out.1.size, ?_⟩
    obtain ⟨W9, hW9⟩ : ∃ W9, W9 = (W7.setCell ⟨e, 6, none⟩ (.slice (some ⟨i', 0, none⟩) 1 cap')).setCell ⟨tb, 1, none⟩ (.int .i64 ((n + 1 : Nat) : Int)) := ⟨_, rfl⟩
    have t9 := heap_setCell_same _ tb 1 _ 69 (.int .i64 ((n + 1 : Nat) : Int)) t8
    have e8 := heap_setCell_same W7 e 6 _ 73 (.slice (some ⟨i', 0, none⟩) 1 cap') e7
    have e9 : W9.heap[e]? = some (.cells #[k0, k1, k2, k3, k4, k5, .slice (some ⟨i', 0, none⟩) 1 cap'] 73 (0, 0)) := by rw [hW9, heap_setCell_other _ _ _ _ (fun q => hte q.symm)]; exact e8
    rw [← hW9] at t9 ⊢
    have s9 : W9.heap.size = W7.heap.size := by rw [hW9]; simp
    have s7 := h7.size
    rw [s6] at s7
    have oth : ∀ k, k ≠ e → k ≠ tb → k < W0.heap.size → W9.heap[k]? = W0.heap[k]? := fun k p1 p2 p3 => by
      rw [hW9, heap_setCell_other _ _ _ _ p2, heap_setCell_other _ _ _ _ p1, h7.block k p3, heap_setCell_other _ _ _ _ p2]
    have k9 : Kept (fun g => g ∈ Bt.blocks t ∨ g = tb) w4 W9 := by
      refine ⟨?_, ?_, ?_, by omega, fun k hk hf => ?_⟩
      · rw [hW9]; exact (show W7.os = w4.os from h7.os.trans (o.os.trans b45.os))
      · rw [hW9]; exact (show W7.tape = w4.tape from h7.tape.trans (o.tape.trans b45.tape))
      · rw [hW9]; exact (show W7.output = w4.output from h7.output.trans (o.output.trans b45.output))
      · exact (oth k (by omega) (fun q => hf (.inr q)) (by omega)).trans ((o.block k (by omega) fun q => hf (.inl q)).trans (b45.block k hk))
    have nt9 : NT W9 t' := nt_stays r1 fun g hg => by
      have hgl := nt_lt r1 g hg
      rcases r6 g hg with q | q
      · have := hT.lt g (hT.fnt g q)
        exact oth g (by omega) (hT.blk_ne q).1 hgl
      · exact oth g (by omega) (by omega) hgl
    have row9 : IdsAt W9 (.slice (some ⟨i', 0, none⟩) 1 cap') [id] := owns_stays hrow fun g hg => by
      obtain rfl : g = i' := by injection hg with hg; exact hg.symm
      rw [hW9, heap_setCell_other _ _ _ _ (show g ≠ tb by omega), heap_setCell_other _ _ _ _ (show g ≠ e by omega)]
    exact hT.grew HV.out.1 HV.out.2 HH.out.2.2.1 hee k9 t9 nt9 (fun g hg => (r6 g hg).imp (fun q => q) fun q => by omega) r5 r2 r3 r4 e9 (by omega) row9 HH.out.2.2.2.2 HH.out.2.2.2.1
  have CIN : Hid (∀ W, Calls Tryz.prog 43 #[.slice none 0 0, .int .i64 0, .slice (some ⟨W.heap.size, 0, none⟩) 1 1] (W.alloc (.cells #[.int .u64 (id : Int)] 51)) fun ex w' => ∃ i' cap', ex = .returned (.slice (some ⟨i', 0, none⟩) 1 cap') ∧ Hid (Below W.heap.size W w' ∧ W.heap.size ≤ i' ∧ IdsAt w' (.slice (some ⟨i', 0, none⟩) 1 cap') [id])) := fun W => insF_c
  have HC : Hid (∀ W, Below w5.heap.size w5 W → W.cell? ⟨tb, 0, none⟩ = some (.pointer po)) := fun W hW => by
    have := cells_at ((hT5.stays hW).box) 0 (.pointer po) (by rw [hpo]; rfl)
    exact this
  obtain ⟨n1, hn1⟩ : ∃ n1, n1 = n + 1 := ⟨_, rfl⟩
  obtain ⟨v1, v2⟩ : IntKind.i64.wrap ((n : Int) + 1) = (n1 : Int) ∧ wrap64 ((n : Int) + 1) = (n1 : Int) := Bt.wr (by omega) (by have := HH.out.2.2.2.2; omega)
  obtain ⟨u1, u2⟩ : IntKind.i64.wrap ((m : Int) + 1) = (m1 : Int) ∧ wrap64 ((m : Int) + 1) = (m1 : Int) := Bt.wr (by omega) (by omega)
  have HN1 : Hid (n1 = n + 1) := hn1
  clear hw5 hee h5 s5 he5 b45 hle hT hnew hT5 hex hm hm1 hm2 hlv hpo hMid htl hn1 HV HH
  refine wp_region_ph (by kernel_rfl) (by kernel_rfl) Bt.zpre (by kernel_rfl) (fun f => { tmps := #[.pointer (some ⟨tb, 0, none⟩), .agg #[d0, d1, d2, d3, d4, d5], .int .u64 (id : Int), undef, .pointer (some ⟨B, 0, none⟩), undef, .int .i64 0, .pointer (some ⟨e, 0, none⟩), .int .i64 0, .int .i64 0, .bool false, .tuple #[.pointer none, .int .i64 0], .pointer (some ⟨tb, 0, none⟩), .agg #[d0, d1, d2, d3, d4, d5], .tuple #[.pointer none, .int .i64 0], .pointer none, .int .i64 0, .int .i64 0, .bool false, undef, .tuple #[.int .i64 0, .bool false], .pointer none, .int .u64 (id : Int), .tuple #[.int .i64 0, .bool false], .int .i64 0, .bool false, .bool false, .bool false, .bool false, .pointer (some ⟨tb, 0, none⟩), .pointer (some ⟨tb, 0, none⟩), .pointer (some ⟨tb, 1, none⟩), .int .i64 (n : Int), .bool false, .bool true, .pointer none, .bool true, .agg #[d0, d1, d2, d3, d4, d5], .agg #[k0, k1, k2, k3, k4, k5], .agg #[k0, k1, k2, k3, k4, k5, .slice none 0 0], .pointer (some ⟨e, 0, none⟩), f 0, f 1, f 2, f 3, f 4, f 5, f 6, f 7, f 8, f 9, f 10, f 11, f 12, f 13, f 14, f 15, undef, undef, undef, undef, undef, undef, undef, undef, undef, undef, undef, undef, undef, undef, undef, undef, undef, undef], defers := [] }) (fun _ => undef) rfl (ZI (Bt.zval tb e po m m1 lv) (fun W => Below w5.heap.size w5 W) Mid (fun t' W => ∃ W0, Mid t' W0 ∧ W = W0.setCell ⟨tb, 0, none⟩ (Bt.ptr (Bt.top t')))) ?init ?step ?done
  case init => exact ⟨fun j _ _ h => (by cases h), fun _ => ⟨rfl, (Below.refl _ _).drew⟩, fun h => (by cases h)⟩
  case done =>
    intro L f W hL hI
    obtain ⟨t', h13, _, hP⟩ := hI.behind (hL 13 (by simp))
    obtain ⟨W0, hM, rfl⟩ := hP (hL 16 (by simp))
    obtain ⟨p1, p2⟩ := HM.out t' W0 hM
    have HMM : Hid (Mid t' W0) := hM
    obtain ⟨w6, hw6⟩ : ∃ w6, w6 = W0.setCell ⟨tb, 0, none⟩ (Bt.ptr (Bt.top t')) := ⟨_, rfl⟩
    have htb : e ≠ tb := fun q => by
      rw [q] at p2
      rw [p1] at p2
      simp only [Option.some.injEq, Obj.cells.injEq] at p2
      exact absurd p2.2.1 (by decide)
    have y6 : w6.cell? ⟨e, 6, none⟩ = some (.slice none 0 0) := by
      rw [hw6]
      exact cells_at (by rw [heap_setCell_other _ _ _ _ htb]; exact p2) 6 _ rfl
    have HW6 : Hid (w6 = W0.setCell ⟨tb, 0, none⟩ (Bt.ptr (Bt.top t'))) := hw6
    rw [← hw6]
    clear hI hP hM hL p1 p2 h13 hw6 htb HM HC C40 C41 C42 u1 u2
    dsimp only
    go_upto_region 13 with (go_at_call 43; refine (CIN.out _).mono ?_; rintro ex w7 ⟨i', cap', rfl, HI7⟩; have HF : Hid _ := HFIN.out t' W0 w7 i' cap' HMM.out (by rw [← HW6.out]; exact HI7.out.1) (by rw [← HW6.out]; exact HI7.out.2.1) HI7.out.2.2; clear y6; have u6 := cells_at HF.out.1 6 _ rfl; have fz := row_freeV HF.out.1)
    obtain ⟨w8, hw8⟩ : ∃ w8, w8 = w7.setCell ⟨e, 6, none⟩ (.slice (some ⟨i', 0, none⟩) 1 cap') := ⟨_, rfl⟩
    have HG := HF.out
    rw [← hw8] at HG ⊢
    have HG2 : Hid _ := HG.2.2
    have y1 := cells_at HG.2.1 1 _ rfl
    have fy := row_freeV HG.2.1
    clear HG HF HFIN CIN HI7 hw8 u6 fz
    go_wp2
    clear v1 v2
    go_ret
    rw [HN1.out]
    exact ⟨rfl, HG2.out⟩
  case step =>
    intro i hi L f W hLi hwt hno hI
    have HI : Hid _ := hI
    have hi17 : i < 17 := hi
    clear hi hI
    rcases (show i = 0 ∨ i = 1 ∨ i = 2 ∨ i = 3 ∨ i = 4 ∨ i = 5 ∨ i = 6 ∨ i = 7 ∨ i = 8 ∨ i = 9 ∨ i = 10 ∨ i = 11 ∨ i = 12 ∨ i = 13 ∨ i = 14 ∨ i = 15 ∨ i = 16 by omega) with rfl | rfl | rfl | rfl | rfl | rfl | rfl | rfl | rfl | rfl | rfl | rfl | rfl | rfl | rfl | rfl | rfl
    · -- 0
      clear hwt hno hLi
      refine wpOp_of rfl rfl ?_
      intro K' hK'
      have HK' : Hid _ := hK'
      clear hK'
      change Oper.wp _ ⟨_, _, _, _, _, _⟩ _ _ _ _
      dsimp only
      go_simp
      exact HK'.out _ _ ⟨.pointer (some ⟨tb, 0, none⟩), (by rfl), HI.out.pure (by omega) (by omega) rfl⟩
    · -- 1
      clear hwt hno hLi
      refine wpOp_of rfl rfl ?_
      intro K' hK'
      have HK' : Hid _ := hK'
      clear hK'
      change Oper.wp _ ⟨_, _, _, _, _, _⟩ _ _ _ _
      dsimp only
      go_simp
      exact HK'.out _ _ ⟨.pointer (some ⟨tb, 0, none⟩), (by rfl), HI.out.pure (by omega) (by omega) rfl⟩
    · -- 2
      have g1 : f 1 = .pointer (some ⟨tb, 0, none⟩) := HI.out.vals 1 (by omega) (by omega) (hwt 1 rfl)
      clear hwt hno hLi
      refine wpOp_of rfl rfl ?_
      intro K' hK'
      have HK' : Hid _ := hK'
      clear hK'
      change Oper.wp _ ⟨_, _, _, _, _, _⟩ _ _ _ _
      dsimp only
      rw [g1]
      go_simp
      exact HK'.out _ _ ⟨.pointer (some ⟨tb, 0, none⟩), (by simp [upd, g1]), HI.out.pure (by omega) (by omega) rfl⟩
    · -- 3
      have g2 : f 2 = .pointer (some ⟨tb, 0, none⟩) := HI.out.vals 2 (by omega) (by omega) (hwt 2 rfl)
      clear hwt hno hLi
      refine wpOp_of rfl rfl ?_
      intro K' hK'
      have HK' : Hid _ := hK'
      clear hK'
      change Oper.wp _ ⟨_, _, _, _, _, _⟩ _ _ _ _
      dsimp only
      rw [g2]
      go_simp
      exact HK'.out _ _ ⟨.pointer (some ⟨tb, 0, none⟩), (by simp [upd, g2]), HI.out.pure (by omega) (by omega) rfl⟩
    · -- 4
      have g3 : f 3 = .pointer (some ⟨tb, 0, none⟩) := HI.out.vals 3 (by omega) (by omega) (hwt 3 rfl)
      have hp := (HI.out.ahead (hno 13 (by decide))).2
      have c := HC.out W hp
      clear hp
      clear hwt hno hLi
      refine wpOp_of rfl rfl ?_
      intro K' hK'
      have HK' : Hid _ := hK'
      clear hK'
      change Oper.wp _ ⟨_, _, _, _, _, _⟩ _ _ _ _
      dsimp only
      rw [g3]
      go_simp
      exact HK'.out _ _ ⟨.pointer po, (by simp [upd, g3]), HI.out.pure (by omega) (by omega) rfl⟩
    · -- 5
      clear hwt hno hLi
      refine wpOp_of rfl rfl ?_
      intro K' hK'
      have HK' : Hid _ := hK'
      clear hK'
      change Oper.wp _ ⟨_, _, _, _, _, _⟩ _ _ _ _
      dsimp only
      go_simp
      exact HK'.out _ _ ⟨.pointer (some ⟨e, 0, none⟩), (by rfl), HI.out.pure (by omega) (by omega) rfl⟩
    · -- 6
      clear hwt hno hLi
      refine wpOp_of rfl rfl ?_
      intro K' hK'
      have HK' : Hid _ := hK'
      clear hK'
      change Oper.wp _ ⟨_, _, _, _, _, _⟩ _ _ _ _
      dsimp only
      go_simp
      exact HK'.out _ _ ⟨.pointer (some ⟨tb, 0, none⟩), (by rfl), HI.out.pure (by omega) (by omega) rfl⟩
    · -- 7
      have g6 : f 6 = .pointer (some ⟨tb, 0, none⟩) := HI.out.vals 6 (by omega) (by omega) (hwt 6 rfl)
      clear hwt hno hLi
      refine wpOp_of rfl rfl ?_
      intro K' hK'
      have HK' : Hid _ := hK'
      clear hK'
      change Oper.wp _ ⟨_, _, _, _, _, _⟩ _ _ _ _
      dsimp only
      rw [g6]
      go_simp
      exact HK'.out _ _ ⟨.pointer (some ⟨tb, 0, none⟩), (by simp [upd, g6]), HI.out.pure (by omega) (by omega) rfl⟩
    · -- 8
      have g7 : f 7 = .pointer (some ⟨tb, 0, none⟩) := HI.out.vals 7 (by omega) (by omega) (hwt 7 rfl)
      clear hwt hno hLi
      refine wpOp_of rfl rfl ?_
      intro K' hK'
      have HK' : Hid _ := hK'
      clear hK'
      change Oper.wp _ ⟨_, _, _, _, _, _⟩ _ _ _ _
      dsimp only
      rw [g7]
      go_simp
      exact HK'.out _ _ ⟨.pointer (some ⟨tb, 0, none⟩), (by simp [upd, g7]), HI.out.pure (by omega) (by omega) rfl⟩
    · -- 9
      have g8 : f 8 = .pointer (some ⟨tb, 0, none⟩) := HI.out.vals 8 (by omega) (by omega) (hwt 8 rfl)
      have hp := (HI.out.ahead (hno 13 (by decide))).2
      have c := HC.out W hp
      clear hp
      clear hwt hno hLi
      refine wpOp_of rfl rfl ?_
      intro K' hK'
      have HK' : Hid _ := hK'
      clear hK'
      change Oper.wp _ ⟨_, _, _, _, _, _⟩ _ _ _ _
      dsimp only
      rw [g8]
      go_simp
      exact HK'.out _ _ ⟨.pointer po, (by simp [upd, g8]), HI.out.pure (by omega) (by omega) rfl⟩
    · -- 10
      have g9 : f 9 = .pointer po := HI.out.vals 9 (by omega) (by omega) (hwt 9 rfl)
      have hp := (HI.out.ahead (hno 13 (by decide))).2
      have HP : Hid (Below w5.heap.size w5 W) := hp
      clear hp
      clear hwt hno hLi
      refine wpOp_of rfl rfl ?_
      intro K' hK'
      have HK' : Hid _ := hK'
      clear hK'
      change Oper.wp _ ⟨_, _, _, _, _, _⟩ _ _ _ _
      dsimp only
      rw [g9]
      go_simp
      go_at_call 42
      refine (C42.out W HP.out).mono ?_
      rintro ex wa ⟨rfl, rfl⟩
      exact HK'.out _ _ ⟨.int .i64 (m : Int), (by simp [upd, g9]), HI.out.pure (by omega) (by omega) rfl⟩
    · -- 11
      have g10 : f 10 = .int .i64 (m : Int) := HI.out.vals 10 (by omega) (by omega) (hwt 10 rfl)
      clear hwt hno hLi
      refine wpOp_of rfl rfl ?_
      intro K' hK'
      have HK' : Hid _ := hK'
      clear hK'
      change Oper.wp _ ⟨_, _, _, _, _, _⟩ _ _ _ _
      dsimp only
      rw [g10]
      go_simp
      exact HK'.out _ _ ⟨.int .i64 (m1 : Int), (by simp [upd, g10]), HI.out.pure (by omega) (by omega) rfl⟩
    · -- 12
      have g11 : f 11 = .int .i64 (m1 : Int) := HI.out.vals 11 (by omega) (by omega) (hwt 11 rfl)
      clear hwt hno hLi
      refine wpOp_of rfl rfl ?_
      intro K' hK'
      have HK' : Hid _ := hK'
      clear hK'
      change Oper.wp _ ⟨_, _, _, _, _, _⟩ _ _ _ _
      dsimp only
      rw [g11]
      go_simp
      go_at_call 41
      refine (C41.out _).mono ?_
      rintro ex wa ⟨rfl, rfl⟩
      exact HK'.out _ _ ⟨.int .i64 (lv : Int), (by simp [upd, g11]), HI.out.pure (by omega) (by omega) rfl⟩
    · -- 13
      have g4 : f 4 = .pointer po := HI.out.vals 4 (by omega) (by omega) (hwt 4 rfl)
      have g5 : f 5 = .pointer (some ⟨e, 0, none⟩) := HI.out.vals 5 (by omega) (by omega) (hwt 5 rfl)
      have g12 : f 12 = .int .i64 (lv : Int) := HI.out.vals 12 (by omega) (by omega) (hwt 12 rfl)
      have hp := (HI.out.ahead hLi).2
      have HP : Hid (Below w5.heap.size w5 W) := hp
      have n16 := (HI.out.ahead hLi).1
      clear hp
      clear hwt hno hLi
      refine wpOp_of rfl rfl ?_
      intro K' hK'
      have HK' : Hid _ := hK'
      clear hK'
      change Oper.wp _ ⟨_, _, _, _, _, _⟩ _ _ _ _
      dsimp only
      rw [g4, g5, g12]
      go_simp
      go_at_call 40
      refine (C40.out W HP.out).mono ?_
      rintro ex wa ⟨t', rfl, hM⟩
      exact HK'.out _ _ ⟨Bt.ptr (Bt.top t'), (by simp [upd, g4, g5, g12]), HI.out.call n16 hM⟩
    · -- 14
      have g0 : f 0 = .pointer (some ⟨tb, 0, none⟩) := HI.out.vals 0 (by omega) (by omega) (hwt 0 rfl)
      clear hwt hno hLi
      refine wpOp_of rfl rfl ?_
      intro K' hK'
      have HK' : Hid _ := hK'
      clear hK'
      change Oper.wp _ ⟨_, _, _, _, _, _⟩ _ _ _ _
      dsimp only
      rw [g0]
      go_simp
      exact HK'.out _ _ ⟨.pointer (some ⟨tb, 0, none⟩), (by simp [upd, g0]), HI.out.pure (by omega) (by omega) rfl⟩
    · -- 15
      have g14 : f 14 = .pointer (some ⟨tb, 0, none⟩) := HI.out.vals 14 (by omega) (by omega) (hwt 14 rfl)
      clear hwt hno hLi
      refine wpOp_of rfl rfl ?_
      intro K' hK'
      have HK' : Hid _ := hK'
      clear hK'
      change Oper.wp _ ⟨_, _, _, _, _, _⟩ _ _ _ _
      dsimp only
      rw [g14]
      go_simp
      exact HK'.out _ _ ⟨.pointer (some ⟨tb, 0, none⟩), (by simp [upd, g14]), HI.out.pure (by omega) (by omega) rfl⟩
    · -- 16
      have g15 : f 15 = .pointer (some ⟨tb, 0, none⟩) := HI.out.vals 15 (by omega) (by omega) (hwt 15 rfl)
      obtain ⟨t', g13, hMd, _⟩ := HI.out.behind (hwt 13 rfl)
      have hM := hMd hLi
      have l13 := hwt 13 rfl
      obtain ⟨p1, p2⟩ := HM.out t' W hM
      have c := cells_at p1 0 _ rfl
      have fz := row_freeV p1
      have HMM : Hid (Mid t' W ∧ L 13 = true ∧ f 13 = Bt.ptr (Bt.top t')) := ⟨hM, l13, g13⟩
      obtain ⟨pp, hpp⟩ : ∃ pp, Bt.ptr (Bt.top t') = .pointer pp := ⟨_, rfl⟩
      rw [hpp] at g13
      have HPP : Hid (Bt.ptr (Bt.top t') = .pointer pp) := hpp
      clear hMd hM l13 p1 p2 hpp
      clear hwt hno hLi
      refine wpOp_of rfl rfl ?_
      intro K' hK'
      have HK' : Hid _ := hK'
      clear hK'
      change Oper.wp _ ⟨_, _, _, _, _, _⟩ _ _ _ _
      dsimp only
      rw [g15, g13]
      go_simp
      exact HK'.out _ _ ⟨undef, (by simp [upd, g15, g13]), HI.out.store HMM.out.2.1 HMM.out.2.2 ⟨W, HMM.out.1, by rw [HPP.out]⟩⟩
end
end Go.Proofs.YtkigenldiinioaaGreatDoor
