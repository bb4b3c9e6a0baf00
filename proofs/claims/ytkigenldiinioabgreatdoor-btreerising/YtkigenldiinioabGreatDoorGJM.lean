/- Several texts, joined: BtTs, BtTt, BtRs, BtRw -/
import Derived.Test.YtkigenldiinioabGreatDoorGIM
import Derived.Test.YtkigenldiinioabGreatDoorBtZM
import Derived.Test.YtkigenldiinioabGreatDoorBtRbM
import Derived.Test.YtkigenldiinioabGreatDoorEnSM
import Derived.Test.YtkigenldiinioabGreatDoorGFM
/- Trees as lists of keys with their numbers: what the calls make of them. -/
namespace Go.Proofs.YtkigenldiinioabGreatDoor
open Go.RowKit Go.Shelf
open Vl (V)
attribute [local go_sem ↓] Go.wp_at_zero Go.wp_at_succ
namespace Bt
/-- what a tree has -/
def cont (t : T) (key : Nat → V) (ids : Nat → List Nat) : List (V × List Nat) := (flat t).map fun e => (key e, ids e)
/-- how many keys are ahead of one -/
def lspot (x : V) (L : List (V × List Nat)) : Nat := (L.takeWhile fun p => decide (Vl.cmp p.1 x < 0)).length
/-- a new key with a number -/
def lnew (x : V) (id : Nat) (L : List (V × List Nat)) : List (V × List Nat) := L.take (lspot x L) ++ (x, [id]) :: L.drop (lspot x L)
/-- how many numbers there are -/
def lsum (L : List (V × List Nat)) : Nat := (L.map fun p => p.2.length).sum
theorem spot_cont (key : Nat → V) (ids : Nat → List Nat) (x : V) (l : List Nat) : spot key x l = lspot x (l.map fun e => (key e, ids e)) := by
  rw [spot, lspot, List.takeWhile_map, List.length_map]
  rfl
theorem spot_congr {key key' : Nat → V} {x : V} {l : List Nat} (h : ∀ e ∈ l, key' e = key e) : spot key' x l = spot key x l := by
  unfold spot
  induction l with
  | nil => rfl
  | cons a r ih =>
    have ha := h a (by simp)
    have hr := ih fun e he => h e (by simp [he])
    by_cases q : ahead key x a = true
    · rw [List.takeWhile_cons_of_pos q, List.takeWhile_cons_of_pos (by rw [ahead, ha]; exact q), List.length_cons, List.length_cons, hr]
    · rw [List.takeWhile_cons_of_neg q, List.takeWhile_cons_of_neg (by rw [ahead, ha]; exact q)]
theorem kins_cont {key : Nat → V} {ids : Nat → List Nat} {x : V} {e id : Nat} {l : List Nat} (he : ∀ f ∈ l, f ≠ e) : (kins (set key e x) e l).map (fun f => (set key e x f, set ids e [id] f)) = lnew x id (l.map fun f => (key f, ids f)) := by
  have h1 : ∀ f ∈ l, set key e x f = key f := fun f hf => set_other (he f hf)
  have hm : l.map (fun f => (set key e x f, set ids e [id] f)) = l.map fun f => (key f, ids f) := List.map_congr_left fun f hf => by rw [set_other (he f hf), set_other (he f hf)]
  rw [kins, lnew, set_same, spot_congr h1, spot_cont key ids, List.map_append, List.map_cons, List.map_take, List.map_drop, hm, set_same, set_same]
theorem at_cont {key : Nat → V} {ids : Nat → List Nat} {x : V} {l : List Nat} {L : List (V × List Nat)} (hL : L = l.map fun e => (key e, ids e)) (h : ∀ p ∈ L, Vl.cmp p.1 x ≠ 0) : at? key x l = none := at_less fun e he => h (key e, ids e) (by rw [hL]; exact List.mem_map.2 ⟨e, he, rfl⟩)
end Bt
/-- a tree in memory, with what it has: F where no key's memory lies, O its own blocks -/
def TSt (w : World) (F O : Nat → Prop) (tb : Nat) (L : List (V × List Nat)) : Prop := ∃ t key ids ir n, TA w F tb t key ids ir n ∧ L = Bt.cont t key ids ∧ (∀ g, OB tb t ir g → O g) ∧ ∀ g, O g → F g
theorem TSt.start {w : World} {F : Nat → Prop} {tb : Nat} (h : w.heap[tb]? = some (.cells #[.pointer none, .int .i64 0] 58 (0, 0))) (hF : F tb) (hl : ∀ g, F g → g < w.heap.size) : TSt w F (fun g => g = tb) tb [] :=
  ⟨.nil, fun _ => Bt.wv 0, fun _ => [], fun _ => 0, 0, {
    box := h
    lt := hl
    fbox := hF
    nt := trivial
    fnt := fun g hg => by cases hg
    nd := List.nodup_nil
    ent := fun e he => by cases he
    inj := fun e he => by cases he
    wf := trivial
    rises := List.Pairwise.nil
    lev := by simp [Bt.levels, Bt.flat, Bt.fewest_zero]
    small := fun e he => by cases he
    asc := fun e he => by cases he
    sum := rfl
    le := by omega }, rfl, fun g hg => hg.elim (fun q => q) (fun q => q.elim (fun q => nomatch q) (fun ⟨e, he, _⟩ => nomatch he)), fun g hg => by rw [hg]; exact hF⟩
theorem TSt.lt {w : World} {F O : Nat → Prop} {tb : Nat} {L : List (V × List Nat)} (h : TSt w F O tb L) {g : Nat} (hg : F g) : g < w.heap.size := by
  obtain ⟨t, key, ids, ir, n, h1, _⟩ := h
  exact h1.lt g hg
/-- a tree stays where another one changes -/
theorem TSt.other {w w' : World} {F F' O P : Nat → Prop} {tb : Nat} {L : List (V × List Nat)} (h : TSt w F O tb L) (hk : Kept P w w') (hP : ∀ g, O g → ¬ P g) (hPF : ∀ g, P g → F g) (h1 : ∀ g, F g → F' g) (h2 : ∀ g, F' g → F g ∨ w.heap.size ≤ g) (h3 : ∀ g, F' g → g < w'.heap.size) : TSt w' F' O tb L := by
  obtain ⟨t, key, ids, ir, n, hT, hL, ho, hoF⟩ := h
  have own : ∀ g, OB tb t ir g → w'.heap[g]? = w.heap[g]? := fun g hg => hk.block g (hT.lt g (hT.ob hg)) (hP g (ho g hg))
  refine ⟨t, key, ids, ir, n, {
    box := (own tb (.inl rfl)).trans hT.box
    lt := h3
    fbox := h1 _ hT.fbox
    nt := nt_stays hT.nt fun g hg => own g (.inr (.inl hg))
    fnt := fun g hg => h1 _ (hT.fnt g hg)
    nd := hT.nd
    ent := fun e he => ⟨h1 _ (hT.ent e he).1, h1 _ (hT.ent e he).2.1, (hT.ent e he).2.2.stays (own e (.inr (.inr ⟨e, he, .inl rfl⟩))) (own _ (.inr (.inr ⟨e, he, .inr rfl⟩))) fun g hg hf => ⟨hk.block g hg fun q => hf (hPF g q), Nat.lt_of_lt_of_le hg hk.size, fun q => by
      rcases h2 g q with q | q
      · exact hf q
      · omega⟩⟩
    inj := hT.inj
    wf := hT.wf
    rises := hT.rises
    lev := hT.lev
    small := hT.small
    asc := hT.asc
    sum := hT.sum
    le := hT.le }, hL, ho, fun g hg => h1 g (hoF g hg)⟩
theorem TSt.stays {w w' : World} {F O : Nat → Prop} {tb : Nat} {L : List (V × List Nat)} (h : TSt w F O tb L) (hb : Below w.heap.size w w') : TSt w' F O tb L := by
  obtain ⟨t, key, ids, ir, n, hT, hL, ho, hoF⟩ := h
  exact ⟨t, key, ids, ir, n, hT.stays hb, hL, ho, hoF⟩
theorem TSt.sum {w : World} {F O : Nat → Prop} {tb : Nat} {L : List (V × List Nat)} {t : Bt.T} {key : Nat → V} {ids : Nat → List Nat} {ir : Nat → Nat} {n : Nat} (hT : TA w F tb t key ids ir n) (hL : L = Bt.cont t key ids) (_ : ∀ g, O g → F g) : n = Bt.lsum L ∧ L.length = (Bt.flat t).length := by
  rw [hL, Bt.lsum, Bt.cont, List.map_map, hT.sum]
  exact ⟨rfl, by rw [List.length_map]⟩
/-- Put of a new key -/
theorem put_t {w : World} {F O : Nat → Prop} {tb : Nat} {L : List (V × List Nat)} (h : TSt w F O tb L) (hU : Bn.HasU w) {x : V} {v : Value} (hv : Rep w w.heap.size x v) (hx : Bt.kerr x = 0) (hsm : Vl.small x) {id : Nat} (he : ∀ p ∈ L, Vl.cmp p.1 x ≠ 0) (hn : Bt.lsum L < 1024) :
    Calls Tryz.prog 12 #[.pointer (some ⟨tb, 0, none⟩), v, .int .u64 (id : Int)] w fun ex w' => ex = .returned (.int .i64 0) ∧ ∃ F' O', TSt w' F' O' tb (Bt.lnew x id L) ∧ Kept O w w' ∧ (∀ g, F g → F' g) ∧ (∀ g, F' g → F g ∨ w.heap.size ≤ g) ∧ (∀ g, O' g → O g ∨ w.heap.size ≤ g) ∧ ∀ g, O g → O' g := by
  obtain ⟨t, key, ids, ir, n, hT, hL, ho, hoF⟩ := h
  obtain ⟨hs, _⟩ := TSt.sum (O := O) hT hL hoF
  refine (put_new hT hU (withOK_all t) hv hx hsm (id := id) (Bt.at_cont hL he) (by omega)).mono ?_
  rintro ex w' ⟨rfl, e, t', i', s, k1, k2, k3, k4, k5, k6⟩
  have hne : ∀ f ∈ Bt.flat t, f ≠ e := fun f hf q => by have := hT.lt f (hT.ent f hf).1; omega
  refine ⟨rfl, _, fun g => O g ∨ OB tb t' (Bt.set ir e i') g, ⟨t', _, _, _, _, k5, ?_, fun g hg => .inr hg, fun g hg => ?_⟩, k4.mono ho, fun g hg => .inl hg, fun g hg => ?_, fun g hg => ?_, fun g hg => .inl hg⟩
  · rw [Bt.cont, k1, hL]
    exact (Bt.kins_cont hne).symm
  · rcases hg with q | q
    · exact .inl (hoF g q)
    · exact k5.ob q
  · rcases hg with q | q
    · exact .inl q
    · exact .inr (by omega)
  · rcases hg with q | q
    · exact .inl q
    · exact (k6 g q).imp (ho g) (fun q => q)
end Go.Proofs.YtkigenldiinioabGreatDoor
/- What Find, Range, Depth and Count tell of a tree as a list. -/
namespace Go.Proofs.YtkigenldiinioabGreatDoor
open Go.RowKit Go.Shelf
open Vl (V)
attribute [local go_sem ↓] Go.wp_at_zero Go.wp_at_succ
theorem flat7 : ∀ {cs : List (List Value)} {j r : Nat} {c : List Value}, (∀ c ∈ cs, c.length = 7) → cs[j]? = some c → r < 7 → cs.flatten[j * 7 + r]? = c[r]?
  | [], j, r, c, _, hc, _ => by simp at hc
  | a :: t, 0, r, c, h, hc, hr => by
    have h7 := h a (by simp)
    rw [List.getElem?_cons_zero] at hc
    obtain rfl := Option.some.inj hc
    rw [List.flatten_cons, List.getElem?_append_left (by omega)]
    simp
  | a :: t, j + 1, r, c, h, hc, hr => by
    have h7 := h a (by simp)
    rw [List.getElem?_cons_succ] at hc
    rw [List.flatten_cons, List.getElem?_append_right (by omega), h7, show (j + 1) * 7 + r - 7 = j * 7 + r by omega]
    exact flat7 (fun c hc => h c (by simp [hc])) hc hr
theorem RI.entsAt {w W : World} {B : Nat} {key : Nat → V} {ids : Nat → List Nat} {es : List Nat} {v : Value} (h : RI w B key ids es v W) (hs : ∀ e ∈ es, (ids e).length ≤ 1000000) : ∃ a c, v = .slice a es.length c ∧ EntsAt W a (es.map fun e => (key e, ids e)) := by
  obtain ⟨cs, h1, h2, h3⟩ := h.ents
  rcases h2.2 with ⟨rfl, h0⟩ | ⟨g, cap, cur, rfl, _, hcr, _, _, _, htk⟩
  · refine ⟨none, 0, by rw [h0], fun j p hp => ?_⟩
    have : es = [] := List.eq_nil_of_length_eq_zero h0
    rw [this] at hp
    simp at hp
  · refine ⟨_, cap, rfl, fun j p hp => ?_⟩
    rw [List.getElem?_map] at hp
    cases hq : es[j]? with
    | none => rw [hq] at hp; cases hp
    | some e =>
      rw [hq] at hp
      obtain rfl := Option.some.inj hp
      have hjl := (List.getElem?_eq_some_iff.1 hq).1
      obtain ⟨c, hc⟩ : ∃ c, cs[j]? = some c := ⟨_, List.getElem?_eq_getElem (by omega)⟩
      obtain ⟨k0, k1, k2, k3, k4, k5, i, cp, rfl, hr, _, hi⟩ := h3 j e c hq hc
      obtain ⟨_, hil, hic⟩ := ids_cells hi
      have h7 : ∀ c ∈ cs, c.length = 7 := fun c hc => by
        obtain ⟨m, hm⟩ := List.getElem?_of_mem hc
        have hml := (List.getElem?_eq_some_iff.1 hm).1
        exact (h3 m _ c (List.getElem?_eq_getElem (by omega)) hm).len
      have cel : ∀ r u, r < 7 → [k0, k1, k2, k3, k4, k5, Value.slice (some ⟨i, 0, none⟩) (ids e).length cp][r]? = some u → W.cell? ⟨g, j * 7 + r, none⟩ = some u := fun r u hr hu => by
        refine cells_at hcr _ _ ?_
        have h8 := flat7 h7 hc hr
        rw [hu, ← htk, List.getElem?_take_of_lt (by omega), Array.getElem?_toList] at h8
        exact h8
      refine ⟨g, k0, k1, k2, k3, k4, k5, some ⟨i, 0, none⟩, cp, rfl, lt_of_row hcr, ⟨cel 0 _ (by omega) rfl, cel 1 _ (by omega) rfl, cel 2 _ (by omega) rfl, cel 3 _ (by omega) rfl, cel 4 _ (by omega) rfl, cel 5 _ (by omega) rfl, cel 6 _ (by omega) rfl⟩, repA_rep (fun g hg => hg.1.2.1) _ _ hr, fun m x hx => ⟨i, rfl, hil, ?_⟩, hs e (List.mem_of_getElem? hq)⟩
      have := hic m x hx
      rw [Nat.zero_add] at this
      exact this
namespace Bt
theorem at_unique {key : Nat → V} {x : V} {e0 : Nat} : ∀ {l : List Nat}, Rises key l → e0 ∈ l → Vl.cmp (key e0) x = 0 → at? key x l = some e0
  | [], _, h, _ => by cases h
  | y :: r, hr, h, hc => by
    obtain ⟨m1, m2⟩ := rises_cons.1 hr
    rw [at_cons]
    rcases List.mem_cons.1 h with q | q
    · rw [← q, if_pos hc]
    · have h1 := lt_of_lt_of_eq (m1 e0 q) hc
      rw [if_neg (by omega)]
      exact at_unique m2 q hc
end Bt
section
variable {w : World} {F O : Nat → Prop} {tb : Nat} {L : List (V × List Nat)}
/-- what Range gives of a tree -/
theorem range_t (h : TSt w F O tb L) (hU : Bn.HasU w) (lo hi : Option (Bool × V)) (lv hv : Value) (hlo : Bnd w w.heap.size lo lv) (hhi : Bnd w w.heap.size hi hv) (klo : ∀ p, lo = some p → Bt.kerr p.2 = 0) (khi : ∀ p, hi = some p → Bt.kerr p.2 = 0) :
    Calls Tryz.prog 7 #[.pointer (some ⟨tb, 0, none⟩), lv, hv] w fun ex w' => ∃ a n c, ex = .returned (.tuple #[.slice a n c, .int .i64 0]) ∧ n = (L.filter fun p => Bt.inR lo hi p.1).length ∧ n ≤ 1024 ∧ EntsAt w' a (L.filter fun p => Bt.inR lo hi p.1) ∧ Below w.heap.size w w' := by
  obtain ⟨t, key, ids, ir, n, hT, hL, _, _⟩ := h
  refine (range_ok hT hU lo hi lv hv hlo hhi klo khi).mono ?_
  rintro ex w' ⟨v, B, rfl, hB, hR⟩
  rw [Bt.wl_flat hT.wf hT.rises] at hR
  obtain ⟨a, c, rfl, hE⟩ := hR.entsAt fun e he => by
    have := hT.few (List.mem_filter.1 he).1
    have := hT.le
    omega
  have e1 : ((Bt.flat t).filter fun e => Bt.inR lo hi (key e)).map (fun e => (key e, ids e)) = L.filter fun p => Bt.inR lo hi p.1 := by
    rw [hL, Bt.cont, List.filter_map]
    rfl
  have e2 := congrArg List.length e1
  rw [List.length_map] at e2
  rw [e1] at hE
  refine ⟨a, _, c, rfl, e2, ?_, hE, hR.below⟩
  have := List.length_filter_le (fun e => Bt.inR lo hi (key e)) (Bt.flat t)
  have := hT.keys
  have := hT.le
  omega
/-- how deep a tree is -/
theorem depth_t (h : TSt w F O tb L) : Calls Tryz.prog 14 #[.pointer (some ⟨tb, 0, none⟩)] w fun e w' => e = .returned (.int .i64 (Bt.fewest L.length : Int)) ∧ w' = w := by
  obtain ⟨t, key, ids, ir, n, hT, hL, hoF⟩ := h
  have hl := (TSt.sum (O := O) hT hL hoF.2).2
  have h10 : Bt.levels t ≤ 10 := by
    rw [hT.lev]
    have := hT.keys
    have := hT.le
    exact (Bt.fewest_le 10 _).2 (Nat.le_trans (by omega : _ ≤ 1024) (by decide))
  rw [hl, ← hT.lev]
  exact depth_tree tb n t w hT.box hT.nt (by omega)
set_option maxHeartbeats 1000000 in
/-- what Find gives of a key that is there -/
theorem find_t (h : TSt w F O tb L) (hU : Bn.HasU w) {x k : V} {v : Value} {l : List Nat} (hv : Rep w w.heap.size x v) (hx : Bt.kerr x = 0) (hm : (k, l) ∈ L) (hc : Vl.cmp k x = 0) :
    Calls Tryz.prog 8 #[.pointer (some ⟨tb, 0, none⟩), v] w fun ex w' => ∃ pi cap, ex = .returned (.tuple #[.slice pi l.length cap, .int .i64 0]) ∧ NumsAt w' pi l ∧ Below w.heap.size w w' := by
  obtain ⟨t, key, ids, ir, n, hT, hL, _, _⟩ := h
  obtain ⟨e, he, hat, hi⟩ : ∃ e, e ∈ Bt.flat t ∧ Bt.at? key x (Bt.flat t) = some e ∧ ids e = l := by
    rw [hL, Bt.cont, List.mem_map] at hm
    obtain ⟨e, he, hk⟩ := hm
    cases hk
    exact ⟨e, he, Bt.at_unique hT.rises he hc, rfl⟩
  have CA : Hid (∀ W, Below w.heap.size w W → Calls Tryz.prog 23 #[.pointer (some ⟨tb, 0, none⟩), v] W fun ex w' => ex = .returned (.tuple #[.pointer (some ⟨e, 0, none⟩), .int .i64 0]) ∧ Below W.heap.size W w') := fun W hW => by
    have := hT.at_has hU hv hx W hW
    rw [hat] at this
    exact this
  obtain ⟨fe, fi, c0, c1, c2, c3, c4, c5, cap, h1, h2, h3⟩ := hT.ent e he
  rw [hi] at h1 h3
  have hfew : l.length ≤ 1024 := by rw [← hi]; have := hT.few he; have := hT.le; omega
  obtain ⟨il, hil⟩ : ∃ il, il = l.length := ⟨_, rfl⟩
  rw [← hil] at h1 h3 hfew ⊢
  have HC : Hid (∀ W, Below w.heap.size w W → W.cell? ⟨e, 6, none⟩ = some (.slice (some ⟨ir e, 0, none⟩) il cap)) := fun W hW => cells_at ((hW.block _ (lt_of_row h1)).trans h1) 6 _ rfl
  have CC : Hid (∀ X, Below w.heap.size w X → Calls Tryz.prog 22 #[.slice (some ⟨ir e, 0, none⟩) il cap] X fun ex w' => ∃ i' cap', ex = .returned (.slice (some ⟨i', 0, none⟩) il cap') ∧ Hid (Below w.heap.size w w' ∧ NumsAt w' (some ⟨i', 0, none⟩) l)) := fun X hX => by
    obtain ⟨i1, hi1, hy0, hy1, hy2⟩ := info_parts insU_info
    obtain ⟨_, hgl, hcl⟩ := ids_cells h3
    refine (Tryz.slices_Clone i1 _ 1 8 hi1 hy0 hy1 hy2 rfl (by decide) (fun _ => by kernel_rfl) (ir e) 0 il cap (Bt.nums l) X (by rw [Bt.nums, List.length_map, hil]; omega) (by unfold maxLen; omega) (by omega) (fun j u hj => ?_) nums_one).mono ?_
    · rw [Bt.nums, List.getElem?_map] at hj
      cases hq : l[j]? with
      | none => rw [hq] at hj; cases hj
      | some y =>
        rw [hq] at hj
        cases hj
        exact (hX.cell (p := ⟨ir e, 0 + j, none⟩) hgl).trans (hcl j y hq)
    · rintro ex w' ⟨v', rfl, ho, hne, hb⟩
      rcases ho.2 with ⟨q, _⟩ | ⟨i', cap', cur, rfl, q2, q3, q4⟩
      · exact absurd q hne
      · refine ⟨i', cap', rfl, hX.trans (hb.mono hX.size), fun m y hy => ⟨i', rfl, lt_of_row q3, ?_⟩⟩
        have hI : IdsAt w' (.slice (some ⟨i', 0, none⟩) l.length cap') l := by
          rw [hil] at ho
          refine ⟨ho.1, ?_⟩
          rcases ho.2 with ⟨q, _⟩ | ⟨g2, cap2, cur2, r1, _, r3⟩
          · exact absurd q (by simp)
          · exact .inr ⟨g2, cap2, cur2, r1, Nat.zero_le _, r3⟩
        have := (ids_cells hI).2.2 m y hy
        rw [Nat.zero_add] at this
        exact this
  obtain ⟨d0, d1, d2, d3, d4, d5, rfl⟩ := repV_box hv
  clear hT hL hU hv hx hm hc he hat hi fe fi h1 h2 h3 hfew hil
  go_enter Tryz.func8, Tryz.ntmps8
  go_wp2_with (go_at_call 23; refine (CA.out _ (below_new _ _)).mono ?_; rintro ex w2 ⟨rfl, hb⟩; have HB2 : Hid (Below w.heap.size w w2) := (below_new _ _).trans (hb.mono (by simp)); clear hb; have c6 := HC.out _ HB2.out)
  refine (CC.out _ HB2.out).mono ?_
  rintro ex w3 ⟨i', cap', rfl, HV⟩
  clear CC CA HC c6
  go_wp2
  go_ret2
  exact ⟨_, cap', rfl, HV.out.2, HV.out.1⟩
end
end Go.Proofs.YtkigenldiinioabGreatDoor
/- Two trees beside one another; keys that rise and keys that fall. -/
namespace Go.Proofs.YtkigenldiinioabGreatDoor
open Go.RowKit Go.Shelf
open Vl (V)
theorem TSt.oF {w : World} {F O : Nat → Prop} {tb : Nat} {L : List (V × List Nat)} (h : TSt w F O tb L) : ∀ g, O g → F g := by
  obtain ⟨_, _, _, _, _, _, _, _, h⟩ := h
  exact h
/-- two trees beside one another -/
def RS (w : World) (ub db : Nat) (A B : List (V × List Nat)) (W : World) : Prop := ∃ F O P, TSt W F O ub A ∧ TSt W F P db B ∧ (∀ g, O g → ¬ P g) ∧ (∀ g, F g → w.heap.size ≤ g) ∧ Below w.heap.size w W
theorem RS.swap {w W : World} {ub db : Nat} {A B : List (V × List Nat)} (h : RS w ub db A B W) : RS w db ub B A W := by
  obtain ⟨F, O, P, h1, h2, h3, h4, h5⟩ := h
  exact ⟨F, P, O, h2, h1, fun g q q2 => h3 g q2 q, h4, h5⟩
theorem RS.stays {w W W' : World} {ub db : Nat} {A B : List (V × List Nat)} (h : RS w ub db A B W) (hb : Below W.heap.size W W') : RS w ub db A B W' := by
  obtain ⟨F, O, P, h1, h2, h3, h4, h5⟩ := h
  exact ⟨F, O, P, h1.stays hb, h2.stays hb, h3, h4, h5.trans (hb.mono h5.size)⟩
theorem RS.below {w W : World} {ub db : Nat} {A B : List (V × List Nat)} (h : RS w ub db A B W) : Below w.heap.size w W := by
  obtain ⟨F, O, P, h1, h2, h3, h4, h5⟩ := h
  exact h5
theorem RS.start {w W : World} {ub db : Nat} (hne : ub ≠ db) (h1 : W.heap[ub]? = some (.cells #[.pointer none, .int .i64 0] 58 (0, 0))) (h2 : W.heap[db]? = some (.cells #[.pointer none, .int .i64 0] 58 (0, 0))) (hu : w.heap.size ≤ ub) (hd : w.heap.size ≤ db) (hb : Below w.heap.size w W) : RS w ub db [] [] W := by
  refine ⟨fun g => g = ub ∨ g = db, _, _, TSt.start h1 (.inl rfl) ?_, TSt.start h2 (.inr rfl) ?_, fun g q q2 => hne (q.symm.trans q2), fun g hg => ?_, hb⟩
  · rintro g (rfl | rfl)
    · exact lt_of_row h1
    · exact lt_of_row h2
  · rintro g (rfl | rfl)
    · exact lt_of_row h1
    · exact lt_of_row h2
  · rcases hg with rfl | rfl
    · exact hu
    · exact hd
theorem rs_put {w W : World} {ub db : Nat} {A B : List (V × List Nat)} (h : RS w ub db A B W) (hU : Bn.HasU w) {x : V} {v : Value} (hv : ∀ W', Rep W' W'.heap.size x v) (hx : Bt.kerr x = 0) (hsm : Vl.small x) {id : Nat} (he : ∀ p ∈ A, Vl.cmp p.1 x ≠ 0) (hn : Bt.lsum A < 1024) :
    Calls Tryz.prog 12 #[.pointer (some ⟨ub, 0, none⟩), v, .int .u64 (id : Int)] W fun ex w' => ex = .returned (.int .i64 0) ∧ RS w ub db (Bt.lnew x id A) B w' := by
  obtain ⟨F, O, P, h1, h2, h3, h4, h5⟩ := h
  have oF := h1.oF
  refine (put_t h1 (hU.stays h5) (hv W) hx hsm he hn).mono ?_
  rintro ex w' ⟨rfl, F', O', k1, k2, k3, k4, k5, k6⟩
  refine ⟨rfl, F', O', P, k1, h2.other k2 (fun g q q2 => h3 g q2 q) oF k3 k4 (fun g q => k1.lt q), fun g q q2 => ?_, fun g q => ?_, ?_⟩
  · rcases k5 g q with q3 | q3
    · exact h3 g q3 q2
    · have := h2.lt (h2.oF g q2)
      omega
  · rcases k4 g q with q3 | q3
    · exact h4 g q3
    · have := h5.size; omega
  · exact h5.trans (k2.below (fun g q => h4 g (oF g q)) h5.size)
namespace Bt
def upL (id i : Nat) : List (V × List Nat) := (List.range i).map fun k => (wv ((k : Nat) : Int), [id])
def dnL (id n i : Nat) : List (V × List Nat) := (List.range i).map fun k => (wv ((n - i + k : Nat) : Int), [id])
theorem wv_lt {m n : Nat} : (Vl.cmp (wv (m : Int)) (wv (n : Int)) < 0 ↔ m < n) ∧ (Vl.cmp (wv (m : Int)) (wv (n : Int)) = 0 ↔ m = n) := by
  rw [wv_cmp]
  unfold Lib.compareInt
  constructor
  · split <;> (try split) <;> omega
  · split <;> (try split) <;> omega
theorem lspot_all {x : V} : ∀ {L : List (V × List Nat)}, (∀ p ∈ L, Vl.cmp p.1 x < 0) → lspot x L = L.length
  | [], _ => rfl
  | p :: r, h => by
    have := lspot_all (x := x) (L := r) fun q hq => h q (by simp [hq])
    rw [lspot] at this ⊢
    rw [List.takeWhile_cons_of_pos (by simpa using h p (by simp)), List.length_cons, this, List.length_cons]
theorem lspot_none {x : V} : ∀ {L : List (V × List Nat)}, (∀ p ∈ L, ¬ Vl.cmp p.1 x < 0) → lspot x L = 0
  | [], _ => rfl
  | p :: r, h => by
    rw [lspot, List.takeWhile_cons_of_neg (by simpa using h p (by simp))]
    rfl
theorem upL_mem {id i : Nat} {p : V × List Nat} (h : p ∈ upL id i) : ∃ k, k < i ∧ p = (wv (k : Int), [id]) := by
  obtain ⟨k, hk, rfl⟩ := List.mem_map.1 h
  exact ⟨k, List.mem_range.1 hk, rfl⟩
theorem dnL_mem {id n i : Nat} {p : V × List Nat} (h : p ∈ dnL id n i) : ∃ k, k < i ∧ p = (wv ((n - i + k : Nat) : Int), [id]) := by
  obtain ⟨k, hk, rfl⟩ := List.mem_map.1 h
  exact ⟨k, List.mem_range.1 hk, rfl⟩
theorem lnew_up (id i : Nat) : lnew (wv (i : Int)) id (upL id i) = upL id (i + 1) := by
  have h : ∀ p ∈ upL id i, Vl.cmp p.1 (wv (i : Int)) < 0 := fun p hp => by
    obtain ⟨k, hk, rfl⟩ := upL_mem hp
    exact wv_lt.1.2 hk
  rw [lnew, lspot_all h, List.take_length, List.drop_length, upL, upL, List.range_succ, List.map_append]
  rfl
theorem lnew_dn {id n i d : Nat} (hd : d = n - 1 - i) (hi : i < n) : lnew (wv (d : Int)) id (dnL id n i) = dnL id n (i + 1) := by
  have h : ∀ p ∈ dnL id n i, ¬ Vl.cmp p.1 (wv (d : Int)) < 0 := fun p hp => by
    obtain ⟨k, hk, rfl⟩ := dnL_mem hp
    rw [wv_lt.1]
    omega
  rw [lnew, lspot_none h, List.take_zero, List.drop_zero, List.nil_append, dnL, dnL, List.range_succ_eq_map, List.map_cons, List.map_map]
  have e1 : n - (i + 1) + 0 = d := by omega
  rw [e1]
  congr 1
  refine List.map_congr_left fun k _ => ?_
  have e2 : n - i + k = n - (i + 1) + (k + 1) := by omega
  show _ = (wv ((n - (i + 1) + (k + 1) : Nat) : Int), [id])
  rw [e2]
theorem dn_up (id n : Nat) : dnL id n n = upL id n := by
  rw [dnL, upL]
  refine List.map_congr_left fun k _ => ?_
  rw [show n - n + k = k by omega]
theorem upL_length (id i : Nat) : (upL id i).length = i := by rw [upL, List.length_map, List.length_range]
theorem dnL_length (id n i : Nat) : (dnL id n i).length = i := by rw [dnL, List.length_map, List.length_range]
theorem lsum_ones : ∀ {L : List (V × List Nat)}, (∀ p ∈ L, p.2.length = 1) → lsum L = L.length
  | [], _ => rfl
  | p :: r, h => by
    have := lsum_ones (L := r) fun q hq => h q (by simp [hq])
    have h1 := h p (by simp)
    rw [lsum] at this ⊢
    rw [List.map_cons, List.sum_cons, this, h1, List.length_cons]
    omega
theorem up_sum (id i : Nat) : lsum (upL id i) = i := by
  rw [lsum_ones (fun p hp => by obtain ⟨k, _, rfl⟩ := upL_mem hp; rfl), upL_length]
theorem dn_sum (id n i : Nat) : lsum (dnL id n i) = i := by
  rw [lsum_ones (fun p hp => by obtain ⟨k, _, rfl⟩ := dnL_mem hp; rfl), dnL_length]
theorem up_new (id i : Nat) : ∀ p ∈ upL id i, Vl.cmp p.1 (wv (i : Int)) ≠ 0 := fun p hp => by
  obtain ⟨k, hk, rfl⟩ := upL_mem hp
  intro q
  have := wv_lt.2.1 q
  omega
theorem dn_new {id n i d : Nat} (hd : d = n - 1 - i) (hi : i < n) : ∀ p ∈ dnL id n i, Vl.cmp p.1 (wv (d : Int)) ≠ 0 := fun p hp => by
  obtain ⟨k, hk, rfl⟩ := dnL_mem hp
  intro q
  have := wv_lt.2.1 q
  omega
/-- how many binary digits a number has -/
def digs (k : Nat) : Nat := if h : k = 0 then 0 else 1 + digs (k / 2)
theorem digs_zero : digs 0 = 0 := by rw [digs]; rfl
theorem digs_pos {k : Nat} (h : k ≠ 0) : digs k = 1 + digs (k / 2) := by rw [digs, dif_neg h]
theorem digs_mono : ∀ {a b : Nat}, a ≤ b → digs a ≤ digs b
  | a, b, h => by
    by_cases ha : a = 0
    · subst ha; rw [digs_zero]; omega
    · rw [digs_pos ha, digs_pos (show b ≠ 0 by omega)]
      have := digs_mono (a := a / 2) (b := b / 2) (by omega)
      omega
termination_by a _ _ => a
decreasing_by omega
theorem fewest_digs (m : Nat) : fewest m ≤ digs (m + 1) := by
  induction m using Nat.strongRecOn with
  | _ m ih =>
    by_cases h : m = 0
    · subst h; rw [fewest_zero]; omega
    · rw [fewest_pos h, digs_pos (by omega)]
      have h1 := ih (m / 4) (by omega)
      have h2 := digs_mono (a := m / 4 + 1) (b := (m + 1) / 2) (by omega)
      omega
theorem digs_small {k : Nat} (h : k ≤ 1000000) : digs k ≤ 100 := by
  have h1 : ∀ m a, a < 2 ^ m → digs a ≤ m := by
    intro m
    induction m with
    | zero => intro a ha; rw [show a = 0 by simpa using ha, digs_zero]; omega
    | succ m ih =>
      intro a ha
      by_cases h0 : a = 0
      · subst h0; rw [digs_zero]; omega
      · rw [digs_pos h0]
        have := ih (a / 2) (by rw [Nat.pow_succ] at ha; omega)
        omega
  have := h1 20 k (by omega)
  omega
theorem filter_all (L : List (V × List Nat)) : L.filter (fun p => inR none none p.1) = L := List.filter_eq_self.2 fun _ _ => rfl
end Bt
end Go.Proofs.YtkigenldiinioabGreatDoor
/- Keys that rise, and keys that fall, make trees that answer alike: walked. -/
namespace Go.Proofs.YtkigenldiinioabGreatDoor
open Go.RowKit Go.Shelf
open Vl (V)
attribute [local go_sem ↓] Go.wp_at_zero Go.wp_at_succ
/-- what a round's calls do -/
structure RC (w : World) (ub db id n : Nat) : Prop where
  whole : ∀ (k : Nat) (A B : List (V × List Nat)) (W : World), RS w ub db A B W → Calls Tryz.prog 13 #[.int .i64 (k : Int)] W fun e w' => e = .returned (Bt.wa (k : Int)) ∧ Hid (RS w ub db A B w' ∧ Below W.heap.size W w')
  up : ∀ (i : Nat) (W : World), i < n → RS w ub db (Bt.upL id i) (Bt.dnL id n i) W → Calls Tryz.prog 12 #[.pointer (some ⟨ub, 0, none⟩), Bt.wa (i : Int), .int .u64 (id : Int)] W fun ex w' => ex = .returned (.int .i64 0) ∧ RS w ub db (Bt.upL id (i + 1)) (Bt.dnL id n i) w'
  down : ∀ (i d : Nat) (W : World), i < n → d = n - 1 - i → RS w ub db (Bt.upL id (i + 1)) (Bt.dnL id n i) W → Calls Tryz.prog 12 #[.pointer (some ⟨db, 0, none⟩), Bt.wa (d : Int), .int .u64 (id : Int)] W fun ex w' => ex = .returned (.int .i64 0) ∧ RS w ub db (Bt.upL id (i + 1)) (Bt.dnL id n (i + 1)) w'
  findu : ∀ (i : Nat) (W : World), i < n → RS w ub db (Bt.upL id n) (Bt.upL id n) W → Calls Tryz.prog 8 #[.pointer (some ⟨ub, 0, none⟩), Bt.wa (i : Int)] W fun ex w' => ∃ g cap, ex = .returned (.tuple #[.slice (some ⟨g, 0, none⟩) 1 cap, .int .i64 0]) ∧ Hid (RS w ub db (Bt.upL id n) (Bt.upL id n) w' ∧ g < w'.heap.size ∧ w'.cell? ⟨g, 0, none⟩ = some (.int .u64 (id : Int)))
  findd : ∀ (i : Nat) (W : World), i < n → RS w ub db (Bt.upL id n) (Bt.upL id n) W → Calls Tryz.prog 8 #[.pointer (some ⟨db, 0, none⟩), Bt.wa (i : Int)] W fun ex w' => ∃ g cap, ex = .returned (.tuple #[.slice (some ⟨g, 0, none⟩) 1 cap, .int .i64 0]) ∧ Hid (RS w ub db (Bt.upL id n) (Bt.upL id n) w' ∧ Below W.heap.size W w' ∧ g < w'.heap.size ∧ w'.cell? ⟨g, 0, none⟩ = some (.int .u64 (id : Int)))
theorem wv_repn (k : Nat) (hk : k ≤ 1000) (W : World) (H : Nat) : Rep W H (Bt.wv (k : Int)) (Bt.wa (k : Int)) := wv_rep W H k (by omega)
theorem rs_find {w W : World} {ub db id n i : Nat} (hU : Bn.HasU w) (hn : n ≤ 400) (hi : i < n) (h : RS w ub db (Bt.upL id n) (Bt.upL id n) W) :
    Calls Tryz.prog 8 #[.pointer (some ⟨ub, 0, none⟩), Bt.wa (i : Int)] W fun ex w' => ∃ g cap, ex = .returned (.tuple #[.slice (some ⟨g, 0, none⟩) 1 cap, .int .i64 0]) ∧ Hid (RS w ub db (Bt.upL id n) (Bt.upL id n) w' ∧ Below W.heap.size W w' ∧ g < w'.heap.size ∧ w'.cell? ⟨g, 0, none⟩ = some (.int .u64 (id : Int))) := by
  have h' := h
  obtain ⟨F, O, P, h1, h2, h3, h4, h5⟩ := h
  refine (find_t h1 (hU.stays h5) (wv_repn i (by omega) W W.heap.size) (wv_kerr _) (k := Bt.wv (i : Int)) (l := [id]) (List.mem_map.2 ⟨i, List.mem_range.2 hi, rfl⟩) (Bt.wv_lt.2.2 rfl)).mono ?_
  rintro ex w' ⟨pi, cap, rfl, hN, hb⟩
  obtain ⟨g, rfl, hg, hc⟩ := hN 0 id rfl
  exact ⟨g, cap, rfl, h'.stays hb, hb, hg, hc⟩
theorem rc_of {w : World} {ub db id n : Nat} (hU : Bn.HasU w) (hn : n ≤ 400) : RC w ub db id n where
  whole := fun k A B W h => (whole_c (k : Int) W).mono (by
    rintro e w' ⟨rfl, hb⟩
    exact ⟨rfl, h.stays hb, hb⟩)
  up := fun i W hi h => by
    have := rs_put h hU (x := Bt.wv (i : Int)) (v := Bt.wa (i : Int)) (id := id) (fun W' => wv_repn i (by omega) W' _) (wv_kerr _) (wv_small _) (Bt.up_new id i) (by rw [Bt.up_sum]; omega)
    rw [Bt.lnew_up] at this
    exact this
  down := fun i d W hi hd h => by
    have := rs_put h.swap hU (x := Bt.wv (d : Int)) (v := Bt.wa (d : Int)) (id := id) (fun W' => wv_repn d (by omega) W' _) (wv_kerr _) (wv_small _) (Bt.dn_new hd hi) (by rw [Bt.dn_sum]; omega)
    rw [Bt.lnew_dn hd hi] at this
    refine this.mono ?_
    rintro ex w' ⟨rfl, h⟩
    exact ⟨rfl, h.swap⟩
  findu := fun i W hi h => (rs_find hU hn hi h).mono (by
    rintro ex w' ⟨g, cap, rfl, hh⟩
    exact ⟨g, cap, rfl, hh.out.1, hh.out.2.2.1, hh.out.2.2.2⟩)
  findd := fun i W hi h => (rs_find hU hn hi h.swap).mono (by
    rintro ex w' ⟨g, cap, rfl, hh⟩
    exact ⟨g, cap, rfl, hh.out.1.swap, hh.out.2.1, hh.out.2.2.1, hh.out.2.2.2⟩)
theorem ris_nums {n i a d i1 : Nat} (hi : i < n) (hn : n ≤ 400) (ha : a = n - 1) (hd : d = n - 1 - i) (h1 : i1 = i + 1) : (IntKind.i64.wrap ((n : Int) - 1) = (a : Int) ∧ wrap64 ((n : Int) - 1) = (a : Int)) ∧ (IntKind.i64.wrap ((a : Int) - (i : Int)) = (d : Int) ∧ wrap64 ((a : Int) - (i : Int)) = (d : Int)) ∧ (IntKind.i64.wrap ((i : Int) + 1) = (i1 : Int) ∧ wrap64 ((i : Int) + 1) = (i1 : Int)) :=
  ⟨Bt.wr (by omega) (by omega), Bt.wr (by omega) (by omega), Bt.wr (by omega) (by omega)⟩
theorem dig_nums {k h d d1 : Nat} (hh : h = k / 2) (hd : d1 = d + 1) (hb : d ≤ 1000) (hk : k ≤ 401) : ((k : Int).tdiv 2 = (h : Int) ∧ (k : Int) / 2 = (h : Int)) ∧ (IntKind.i64.wrap (h : Int) = (h : Int) ∧ wrap64 (h : Int) = (h : Int)) ∧ (IntKind.i64.wrap ((d : Int) + 1) = (d1 : Int) ∧ wrap64 ((d : Int) + 1) = (d1 : Int)) :=
  ⟨⟨by rw [hh]; rfl, by omega⟩, Bt.wr rfl (by omega), Bt.wr (by omega) (by omega)⟩
set_option maxHeartbeats 8000000 in
set_option maxRecDepth 100000 in
theorem rising_in (w : World) (hU : Bn.HasU w) (n id : Nat) (hn : n ≤ 400) : Calls Tryz.prog 4 #[.int .i64 (n : Int), .int .u64 (id : Int)] w fun e w' => e = .returned (.bool true) ∧ Below w.heap.size w w' := by
  have CL : Hid (Calls Tryz.prog 5 #[] w fun e w' => e = .returned (.bool true) ∧ Below w.heap.size w w') := livesB_c w hU
  have HRC : Hid (∀ ub db, RC w ub db id n) := fun ub db => rc_of hU hn
  have CRG : Hid (∀ (ub db : Nat) (W : World), RS w ub db (Bt.upL id n) (Bt.upL id n) W → Calls Tryz.prog 7 #[.pointer (some ⟨ub, 0, none⟩), .agg #[.bool false, .bool false, .int .u8 0, .bool false, .int .i64 0, .string ⟨#[]⟩, .slice none 0 0, .slice none 0 0], .agg #[.bool false, .bool false, .int .u8 0, .bool false, .int .i64 0, .string ⟨#[]⟩, .slice none 0 0, .slice none 0 0]] W fun ex w' => ∃ a c, ex = .returned (.tuple #[.slice a n c, .int .i64 0]) ∧ Hid (EntsAt w' a (Bt.upL id n) ∧ Below W.heap.size W w')) := fun ub db W h => by
    obtain ⟨F, O, P, h1, h2, h3, h4, h5⟩ := h
    refine (range_t h1 (hU.stays h5) none none _ _ (bnd_none _ _) (bnd_none _ _) (fun p h => by cases h) (fun p h => by cases h)).mono ?_
    rintro ex w' ⟨a, m, c, rfl, hm, _, hE, hb⟩
    rw [Bt.filter_all] at hm hE
    rw [Bt.upL_length] at hm
    rw [hm]
    exact ⟨a, c, rfl, hE, hb⟩
  have CDP : Hid (∀ (ub db : Nat) (W : World), RS w ub db (Bt.upL id n) (Bt.upL id n) W → Calls Tryz.prog 14 #[.pointer (some ⟨ub, 0, none⟩)] W fun e w' => e = .returned (.int .i64 (Bt.fewest n : Int)) ∧ w' = W) := fun ub db W h => by
    obtain ⟨F, O, P, h1, h2, h3, h4, h5⟩ := h
    have := depth_t h1
    rw [Bt.upL_length] at this
    exact this
  have CSM : Hid (∀ (a b : Option Addr) (ca cb : Nat) (W : World), EntsAt W a (Bt.upL id n) → EntsAt W b (Bt.upL id n) → Calls Tryz.prog 9 #[.slice a n ca, .slice b n cb] W fun e w' => e = .returned (.bool true) ∧ Below W.heap.size W w') := fun a b ca cb W h1 h2 => by
    have := sameE_c (Bt.upL id n) a b ca cb W (by rw [Bt.upL_length]; omega) h1 h2
    rw [Bt.upL_length] at this
    exact this
  have HN : Hid (n ≤ 400) := hn
  have q1 : ¬ (n : Int) < 0 := by omega
  have q2 : ¬ (400 : Int) < (n : Int) := by omega
  have q3 : decide ((n : Int) < 0) = false := decide_eq_false q1
  have q4 : decide ((400 : Int) < (n : Int)) = false := decide_eq_false q2
  have hnb : n ≤ 400 := hn
  clear hU hn
  go_enter Tryz.func4, Tryz.ntmps4
  go_wp2_with fail
  refine CL.out.mono ?_
  rintro e w1 ⟨rfl, hb1⟩
  have K1 : Hid (Below w.heap.size w w1) := hb1
  clear hb1 CL
  go_wp2_with fail
  refine (new_c w1).mono ?_
  rintro e w2 ⟨rfl, rfl⟩
  go_wp2_with fail
  refine (new_c _).mono ?_
  rintro e w3 ⟨rfl, hw3⟩
  obtain ⟨ub, hub⟩ : ∃ ub, ub = w1.heap.size := ⟨_, rfl⟩
  obtain ⟨db, hdb⟩ : ∃ db, db = (w1.alloc (.cells #[.pointer none, .int .i64 0] 58)).heap.size := ⟨_, rfl⟩
  rw [← hub, ← hdb]
  have HS : Hid (RS w ub db (Bt.upL id 0) (Bt.dnL id n 0) w3) := by
    have s1 := K1.out.size
    have hx : db = ub + 1 := by rw [hdb, hub]; simp
    have b2 : Below w.heap.size w (w1.alloc (.cells #[.pointer none, .int .i64 0] 58)) := K1.out.alloc s1 _
    refine RS.start (by omega) ?_ ?_ (by omega) (by omega) (by rw [hw3]; exact b2.alloc b2.size _)
    · rw [hw3, hub]
      exact (Below.heap_alloc _ _ _ (by simp)).trans (heap_alloc_new w1 _)
    · rw [hw3, hdb]
      exact heap_alloc_new _ _
  clear hw3 hub hdb K1 q1 q2 q3 q4
  go_wp2
  go_loopw [7] (fun v wr => ∃ (i : Nat), v = .int .i64 (i : Int) ∧ i ≤ n ∧ RS w ub db (Bt.upL id i) (Bt.dnL id n i) wr) (fun v _ => n - (intOf v).toNat)
  case atStart => exact ⟨0, rfl, Nat.zero_le _, HS.out⟩
  case round =>
    clear HS
    obtain ⟨i, rfl, hi, hrs⟩ := hrel
    have HR : Hid (RS w ub db (Bt.upL id i) (Bt.dnL id n i) wr) := hrs
    clear hrs
    by_cases hin : i < n
    · have q0 : (i : Int) < (n : Int) := by omega
      obtain ⟨a, ha⟩ : ∃ a, a = n - 1 := ⟨_, rfl⟩
      obtain ⟨d, hd⟩ : ∃ d, d = n - 1 - i := ⟨_, rfl⟩
      obtain ⟨i1, hi1⟩ : ∃ i1, i1 = i + 1 := ⟨_, rfl⟩
      obtain ⟨⟨v1, v2⟩, ⟨v3, v4⟩, v5, v6⟩ := ris_nums hin hnb ha hd hi1
      have HD : Hid (i < n ∧ d = n - 1 - i ∧ i1 = i + 1) := ⟨hin, hd, hi1⟩
      clear ha hd hi1 hin hi
      go_wp2_with fail
      refine ((HRC.out ub db).whole i _ _ _ HR.out).mono ?_
      rintro e w4 ⟨rfl, H4⟩
      clear HR
      dsimp only [Bt.wa]
      go_wp2_with fail
      refine ((HRC.out ub db).up i _ HD.out.1 H4.out.1).mono ?_
      rintro e w5 ⟨rfl, h5⟩
      have H5 : Hid _ := h5
      clear h5 H4
      go_wp2_with fail
      refine ((HRC.out ub db).whole d _ _ _ H5.out).mono ?_
      rintro e w6 ⟨rfl, H6⟩
      clear H5
      dsimp only [Bt.wa]
      go_wp2_with fail
      refine ((HRC.out ub db).down i d _ HD.out.1 HD.out.2.1 H6.out.1).mono ?_
      rintro e w7 ⟨rfl, h7⟩
      have H7 : Hid _ := h7
      clear h7 H6
      go_wp2
      clear v1 v2 v3 v4 v5 v6
      go_roundw
      case rel => first | exact ⟨i1, rfl, by have := HD.out; omega, by rw [HD.out.2.2]; exact H7.out⟩ | ((repeat apply Exists.intro); exact ⟨⟨i1, rfl, by have := HD.out; omega, by rw [HD.out.2.2]; exact H7.out⟩, rfl⟩)
      case measure =>
        simp only [intOf]
        have := HD.out
        omega
    · have q0 : ¬ (i : Int) < (n : Int) := by omega
      obtain rfl : i = n := by omega
      obtain ⟨n1, hn1⟩ : ∃ n1, n1 = i + 1 := ⟨_, rfl⟩
      obtain ⟨v5, v6⟩ : IntKind.i64.wrap ((i : Int) + 1) = (n1 : Int) ∧ wrap64 ((i : Int) + 1) = (n1 : Int) := Bt.wr (by omega) (by omega)
      have HN1 : Hid (n1 = i + 1 ∧ i ≤ 400) := ⟨hn1, hnb⟩
      have HR2 : Hid (RS w ub db (Bt.upL id i) (Bt.upL id i) wr) := by
        have := HR.out
        rw [Bt.dn_up] at this
        exact this
      clear HR hn1 hin hi
      go_wp2
      clear v5 v6
      obtain ⟨wB, rfl⟩ : ∃ wB, wB = wr := ⟨_, rfl⟩
      go_loopw [8, 9] (fun v u wr => ∃ (d k : Nat), v = .int .i64 (d : Int) ∧ u = .int .i64 (k : Int) ∧ k ≤ 401 ∧ d + Bt.digs k = Bt.digs n1 ∧ wr = wB) (fun _ u _ => (intOf u).toNat)
      case atStart => exact ⟨0, n1, rfl, rfl, by have := HN1.out; omega, by omega, rfl⟩
      case round =>
        obtain ⟨d, k, rfl, rfl, hk, hdk, hwr⟩ := hrel
        subst hwr
        have hdl : d ≤ 1000 := by
          have := Bt.digs_small (k := n1) (by have := HN1.out; omega)
          omega
        by_cases hk0 : k = 0
        · subst hk0
          have q5 : ¬ (0 : Int) < ((0 : Nat) : Int) := by omega
          have HDG : Hid (d = Bt.digs (i + 1)) := by
            rw [Bt.digs_zero, HN1.out.1] at hdk
            exact hdk
          have hle : Bt.fewest i ≤ d := by rw [HDG.out]; exact Bt.fewest_digs i
          obtain ⟨fw, hfw⟩ : ∃ fw, fw = Bt.fewest i := ⟨_, rfl⟩
          rw [← hfw] at hle CDP
          have q6 : (fw : Int) ≤ (d : Int) := by omega
          clear hk hdk hdl hle hfw
          go_wp2
          go_loopw [10] (fun v wr => ∃ (j : Nat), v = .int .i64 (j : Int) ∧ j ≤ i ∧ RS w ub db (Bt.upL id i) (Bt.upL id i) wr) (fun v _ => i - (intOf v).toNat)
          case atStart => exact ⟨0, rfl, Nat.zero_le _, HR2.out⟩
          case round =>
            clear HR2
            obtain ⟨j, rfl, hj, hrs⟩ := hrel
            have HR : Hid (RS w ub db (Bt.upL id i) (Bt.upL id i) wr) := hrs
            clear hrs
            by_cases hji : j < i
            · have q7 : (j : Int) < (i : Int) := by omega
              obtain ⟨j1, hj1⟩ : ∃ j1, j1 = j + 1 := ⟨_, rfl⟩
              obtain ⟨v5, v6⟩ : IntKind.i64.wrap ((j : Int) + 1) = (j1 : Int) ∧ wrap64 ((j : Int) + 1) = (j1 : Int) := Bt.wr (by omega) (by omega)
              have HJ : Hid (j < i ∧ j1 = j + 1) := ⟨hji, hj1⟩
              clear hj1 hji hj
              go_wp2_with fail
              refine ((HRC.out ub db).whole j _ _ _ HR.out).mono ?_
              rintro e w4 ⟨rfl, H4⟩
              clear HR
              dsimp only [Bt.wa]
              go_wp2_with fail
              refine ((HRC.out ub db).findu j _ HJ.out.1 H4.out.1).mono ?_
              rintro e w5 ⟨ga, capa, rfl, H5⟩
              clear H4
              go_wp2_with fail
              refine ((HRC.out ub db).whole j _ _ _ H5.out.1).mono ?_
              rintro e w6 ⟨rfl, H6⟩
              dsimp only [Bt.wa]
              go_wp2_with fail
              refine ((HRC.out ub db).findd j _ HJ.out.1 H6.out.1).mono ?_
              rintro e w7 ⟨gb, capb, rfl, H7⟩
              have cb : w7.cell? ⟨gb, 0, none⟩ = some (.int .u64 (id : Int)) := H7.out.2.2.2
              have ca : w7.cell? ⟨ga, 0, none⟩ = some (.int .u64 (id : Int)) := by
                have h5 := H5.out.2.1
                have h6 := H6.out.2.size
                exact (H7.out.2.1.cell (p := ⟨ga, 0, none⟩) (by show ga < _; omega)).trans ((H6.out.2.cell (p := ⟨ga, 0, none⟩) h5).trans H5.out.2.2)
              clear H5 H6
              go_wp2
              clear v5 v6
              go_roundw
              case rel => first | exact ⟨j1, rfl, by have := HJ.out; omega, H7.out.1⟩ | ((repeat apply Exists.intro); exact ⟨⟨j1, rfl, by have := HJ.out; omega, H7.out.1⟩, rfl⟩)
              case measure =>
                simp only [intOf]
                have := HJ.out
                omega
            · have q7 : ¬ (j : Int) < (i : Int) := by omega
              clear hji hj
              go_wp2_with fail
              refine (CRG.out ub db _ HR.out).mono ?_
              rintro e w4 ⟨a, ca, rfl, HA⟩
              have H4 : Hid (RS w ub db (Bt.upL id i) (Bt.upL id i) w4) := HR.out.stays HA.out.2
              go_wp2_with fail
              refine (CRG.out db ub _ H4.out.swap).mono ?_
              rintro e w5 ⟨b, cb, rfl, HB⟩
              have H5 : Hid (RS w ub db (Bt.upL id i) (Bt.upL id i) w5) := H4.out.stays HB.out.2
              go_wp2_with fail
              refine (CSM.out a b ca cb _ (HA.out.1.stays HB.out.2) HB.out.1).mono ?_
              rintro e w6 ⟨rfl, hb6⟩
              have H6 : Hid (RS w ub db (Bt.upL id i) (Bt.upL id i) w6) := H5.out.stays hb6
              clear hb6 H4 H5 HA HB HR
              go_wp2_with fail
              refine (CDP.out ub db _ H6.out).mono ?_
              rintro e w7 ⟨rfl, rfl⟩
              go_wp2_with fail
              refine (CDP.out db ub _ H6.out.swap).mono ?_
              rintro e w8 ⟨rfl, rfl⟩
              go_wp2
              go_ret
              exact ⟨rfl, H6.out.below⟩
        · have q5 : (0 : Int) < (k : Int) := by omega
          obtain ⟨h, hh⟩ : ∃ h, h = k / 2 := ⟨_, rfl⟩
          obtain ⟨d1, hd1⟩ : ∃ d1, d1 = d + 1 := ⟨_, rfl⟩
          have HQ : Hid (h ≤ 401 ∧ d1 + Bt.digs h = Bt.digs n1 ∧ h < k) := by
            rw [Bt.digs_pos hk0, ← hh] at hdk
            exact ⟨by omega, by omega, by omega⟩
          obtain ⟨⟨v7, v8⟩, ⟨v9, v10⟩, v11, v12⟩ := dig_nums hh hd1 hdl hk
          clear hh hd1 hdl hk hdk hk0
          go_wp2
          clear v7 v8 v9 v10 v11 v12
          go_roundw
          case rel => exact ⟨d1, h, rfl, rfl, HQ.out.1, HQ.out.2.1, trivial⟩
          case measure =>
            simp only [intOf]
            have := HQ.out
            omega
set_option maxHeartbeats 1000000 in
theorem rising_out (w : World) (hU : Bn.HasU w) (z : Int) (id : Nat) (hz : z < 0 ∨ 400 < z) : Calls Tryz.prog 4 #[.int .i64 z, .int .u64 (id : Int)] w fun e w' => e = .returned (.bool true) ∧ Below w.heap.size w w' := by
  have CL : Hid (Calls Tryz.prog 5 #[] w fun e w' => e = .returned (.bool true) ∧ Below w.heap.size w w') := livesB_c w hU
  clear hU
  by_cases h0 : z < 0
  · have q3 : decide (z < 0) = true := decide_eq_true h0
    go_enter Tryz.func4, Tryz.ntmps4
    go_wp2_with (go_at_call 5; refine CL.out.mono ?_; rintro e w1 ⟨rfl, hb1⟩; have K1 : Hid (Below w.heap.size w w1) := hb1; clear hb1)
    go_ret
    exact ⟨rfl, K1.out⟩
  · have q3 : decide (z < 0) = false := decide_eq_false h0
    have h1 : 400 < z := by omega
    have q4 : decide (400 < z) = true := decide_eq_true h1
    go_enter Tryz.func4, Tryz.ntmps4
    go_wp2_with (go_at_call 5; refine CL.out.mono ?_; rintro e w1 ⟨rfl, hb1⟩; have K1 : Hid (Below w.heap.size w w1) := hb1; clear hb1)
    go_ret
    exact ⟨rfl, K1.out⟩
end Go.Proofs.YtkigenldiinioabGreatDoor
