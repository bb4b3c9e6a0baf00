/- Several texts, joined: BtTt, BtDl -/
import Derived.Test.YtkigenldiinioaaGreatDoorQ26M
import Derived.Shelf.SlicesE.Delete
/- What Find, Range, Depth and Count tell of a tree as a list. -/
namespace Go.Proofs.YtkigenldiinioaaGreatDoor
open Go.RowKit Go.Shelf
open Vl (V)
attribute [local go_sem ↓] Go.wp_at_zero Go.wp_at_succ
theorem flat7 : ∀ {cs : List (List Value)} {j r : Nat} {c : List Value}, (∀ c ∈ cs, c.length = 7) → cs[j]? = some c → r < 7 → cs.flatten[j * 7 + r]? = c[r]?
  | [], j, r, c, _, hc, _ => by simp at hc
  | a :: t, 0, r, c, h, hc, hr => by
    have h7 := h a (by simp)
    rw [List.getElem?_cons_zero] at hc
    obtain rfl := Option.some.inj hc
    rw [List.flatten_cons, List.getElem?_append_left (by omega)]
    simp
  | a :: t, j + 1, r, c, h, hc, hr => by
    have h7 := h a (by simp)
    rw [List.getElem?_cons_succ] at hc
    rw [List.flatten_cons, List.getElem?_append_right (by omega), h7, show (j + 1) * 7 + r - 7 = j * 7 + r by omega]
    exact flat7 (fun c hc => h c (by simp [hc])) hc hr
theorem RI.entsAt {w W : World} {B : Nat} {key : Nat → V} {ids : Nat → List Nat} {es : List Nat} {v : Value} (h : RI w B key ids es v W) (hs : ∀ e ∈ es, (ids e).length ≤ 1000000) : ∃ a c, v = .slice a es.length c ∧ EntsAt W a (es.map fun e => (key e, ids e)) := by
  obtain ⟨cs, h1, h2, h3⟩ := h.ents
  rcases h2.2 with ⟨rfl, h0⟩ | ⟨g, cap, cur, rfl, _, hcr, _, _, _, htk⟩
  · refine ⟨none, 0, by rw [h0], fun j p hp => ?_⟩
    have : es = [] := List.eq_nil_of_length_eq_zero h0
    rw [this] at hp
    simp at hp
  · refine ⟨_, cap, rfl, fun j p hp => ?_⟩
    rw [List.getElem?_map] at hp
    cases hq : es[j]? with
    | none => rw [hq] at hp; cases hp
    | some e =>
      rw [hq] at hp
      obtain rfl := Option.some.inj hp
      have hjl := (List.getElem?_eq_some_iff.1 hq).1
      obtain ⟨c, hc⟩ : ∃ c, cs[j]? = some c := ⟨_, List.getElem?_eq_getElem (by omega)⟩
      obtain ⟨k0, k1, k2, k3, k4, k5, i, cp, rfl, hr, _, hi⟩ := h3 j e c hq hc
      obtain ⟨_, hil, hic⟩ := ids_cells hi
      have h7 : ∀ c ∈ cs, c.length = 7 := fun c hc => by
        obtain ⟨m, hm⟩ := List.getElem?_of_mem hc
        have hml := (List.getElem?_eq_some_iff.1 hm).1
        exact (h3 m _ c (List.getElem?_eq_getElem (by omega)) hm).len
      have cel : ∀ r u, r < 7 → [k0, k1, k2, k3, k4, k5, Value.slice (some ⟨i, 0, none⟩) (ids e).length cp][r]? = some u → W.cell? ⟨g, j * 7 + r, none⟩ = some u := fun r u hr hu => by
        refine cells_at hcr _ _ ?_
        have h8 := flat7 h7 hc hr
        rw [hu, ← htk, List.getElem?_take_of_lt (by omega), Array.getElem?_toList] at h8
        exact h8
      refine ⟨g, k0, k1, k2, k3, k4, k5, some ⟨i, 0, none⟩, cp, rfl, lt_of_row hcr, ⟨cel 0 _ (by omega) rfl, cel 1 _ (by omega) rfl, cel 2 _ (by omega) rfl, cel 3 _ (by omega) rfl, cel 4 _ (by omega) rfl, cel 5 _ (by omega) rfl, cel 6 _ (by omega) rfl⟩, repA_rep (fun g hg => hg.1.2.1) _ _ hr, fun m x hx => ⟨i, rfl, hil, ?_⟩, hs e (List.mem_of_getElem? hq)⟩
      have := hic m x hx
      rw [Nat.zero_add] at this
      exact this
namespace Bt
theorem at_unique {key : Nat → V} {x : V} {e0 : Nat} : ∀ {l : List Nat}, Rises key l → e0 ∈ l → Vl.cmp (key e0) x = 0 → at? key x l = some e0
  | [], _, h, _ => by cases h
  | y :: r, hr, h, hc => by
    obtain ⟨m1, m2⟩ := rises_cons.1 hr
    rw [at_cons]
    rcases List.mem_cons.1 h with q | q
    · rw [← q, if_pos hc]
    · have h1 := lt_of_lt_of_eq (m1 e0 q) hc
      rw [if_neg (by omega)]
      exact at_unique m2 q hc
end Bt
section
variable {w : World} {F O : Nat → Prop} {tb : Nat} {L : List (V × List Nat)}
/-- what Range gives of a tree -/
theorem range_t (h : TSt w F O tb L) (hU : Bn.HasU w) (lo hi : Option (Bool × V)) (lv hv : Value) (hlo : Bnd w w.heap.size lo lv) (hhi : Bnd w w.heap.size hi hv) (klo : ∀ p, lo = some p → Bt.kerr p.2 = 0) (khi : ∀ p, hi = some p → Bt.kerr p.2 = 0) :
    Calls Tryz.prog 11 #[.pointer (some ⟨tb, 0, none⟩), lv, hv] w fun ex w' => ∃ a n c, ex = .returned (.tuple #[.slice a n c, .int .i64 0]) ∧ n = (L.filter fun p => Bt.inR lo hi p.1).length ∧ n ≤ 1024 ∧ EntsAt w' a (L.filter fun p => Bt.inR lo hi p.1) ∧ Below w.heap.size w w' := by
  obtain ⟨t, key, ids, ir, n, hT, hL, _, _⟩ := h
  refine (range_ok hT hU lo hi lv hv hlo hhi klo khi).mono ?_
  rintro ex w' ⟨v, B, rfl, hB, hR⟩
  rw [Bt.wl_flat hT.wf hT.rises] at hR
  obtain ⟨a, c, rfl, hE⟩ := hR.entsAt fun e he => by
    have := hT.few (List.mem_filter.1 he).1
    have := hT.le
    omega
  have e1 : ((Bt.flat t).filter fun e => Bt.inR lo hi (key e)).map (fun e => (key e, ids e)) = L.filter fun p => Bt.inR lo hi p.1 := by
    rw [hL, Bt.cont, List.filter_map]
    rfl
  have e2 := congrArg List.length e1
  rw [List.length_map] at e2
  rw [e1] at hE
  refine ⟨a, _, c, rfl, e2, ?_, hE, hR.below⟩
  have := List.length_filter_le (fun e => Bt.inR lo hi (key e)) (Bt.flat t)
  have := hT.keys
  have := hT.le
  omega
/-- how deep a tree is -/
theorem depth_t (h : TSt w F O tb L) : Calls Tryz.prog 20 #[.pointer (some ⟨tb, 0, none⟩)] w fun e w' => e = .returned (.int .i64 (Bt.fewest L.length : Int)) ∧ w' = w := by
  obtain ⟨t, key, ids, ir, n, hT, hL, hoF⟩ := h
  have hl := (TSt.sum (O := O) hT hL hoF.2).2
  have h10 : Bt.levels t ≤ 10 := by
    rw [hT.lev]
    have := hT.keys
    have := hT.le
    exact (Bt.fewest_le 10 _).2 (Nat.le_trans (by omega : _ ≤ 1024) (by decide))
  rw [hl, ← hT.lev]
  exact depth_tree tb n t w hT.box hT.nt (by omega)
theorem count_s (h : TSt w F O tb L) : Calls Tryz.prog 18 #[.pointer (some ⟨tb, 0, none⟩)] w fun e w' => e = .returned (.int .i64 (Bt.lsum L : Int)) ∧ w' = w := by
  obtain ⟨t, key, ids, ir, n, hT, hL, hoF⟩ := h
  rw [← (TSt.sum (O := O) hT hL hoF.2).1]
  exact count_tree tb n _ w hT.box
set_option maxHeartbeats 1000000 in
/-- what Find gives of a key that is there -/
theorem find_t (h : TSt w F O tb L) (hU : Bn.HasU w) {x k : V} {v : Value} {l : List Nat} (hv : Rep w w.heap.size x v) (hx : Bt.kerr x = 0) (hm : (k, l) ∈ L) (hc : Vl.cmp k x = 0) :
    Calls Tryz.prog 13 #[.pointer (some ⟨tb, 0, none⟩), v] w fun ex w' => ∃ pi cap, ex = .returned (.tuple #[.slice pi l.length cap, .int .i64 0]) ∧ NumsAt w' pi l ∧ Below w.heap.size w w' := by
  obtain ⟨t, key, ids, ir, n, hT, hL, _, _⟩ := h
  obtain ⟨e, he, hat, hi⟩ : ∃ e, e ∈ Bt.flat t ∧ Bt.at? key x (Bt.flat t) = some e ∧ ids e = l := by
    rw [hL, Bt.cont, List.mem_map] at hm
    obtain ⟨e, he, hk⟩ := hm
    cases hk
    exact ⟨e, he, Bt.at_unique hT.rises he hc, rfl⟩
  have CA : Hid (∀ W, Below w.heap.size w W → Calls Tryz.prog 34 #[.pointer (some ⟨tb, 0, none⟩), v] W fun ex w' => ex = .returned (.tuple #[.pointer (some ⟨e, 0, none⟩), .int .i64 0]) ∧ Below W.heap.size W w') := fun W hW => by
    have := hT.at_has hU hv hx W hW
    rw [hat] at this
    exact this
  obtain ⟨fe, fi, c0, c1, c2, c3, c4, c5, cap, h1, h2, h3⟩ := hT.ent e he
  rw [hi] at h1 h3
  have hfew : l.length ≤ 1024 := by rw [← hi]; have := hT.few he; have := hT.le; omega
  obtain ⟨il, hil⟩ : ∃ il, il = l.length := ⟨_, rfl⟩
  rw [← hil] at h1 h3 hfew ⊢
  have HC : Hid (∀ W, Below w.heap.size w W → W.cell? ⟨e, 6, none⟩ = some (.slice (some ⟨ir e, 0, none⟩) il cap)) := fun W hW => cells_at ((hW.block _ (lt_of_row h1)).trans h1) 6 _ rfl
  have CC : Hid (∀ X, Below w.heap.size w X → Calls Tryz.prog 33 #[.slice (some ⟨ir e, 0, none⟩) il cap] X fun ex w' => ∃ i' cap', ex = .returned (.slice (some ⟨i', 0, none⟩) il cap') ∧ Hid (Below w.heap.size w w' ∧ NumsAt w' (some ⟨i', 0, none⟩) l)) := fun X hX => by
    obtain ⟨i1, hi1, hy0, hy1, hy2⟩ := info_parts insU_info
    obtain ⟨_, hgl, hcl⟩ := ids_cells h3
    refine (Tryz.slices_Clone i1 _ 1 8 hi1 hy0 hy1 hy2 rfl (by decide) (fun _ => by kernel_rfl) (ir e) 0 il cap (Bt.nums l) X (by rw [Bt.nums, List.length_map, hil]; omega) (by unfold maxLen; omega) (by omega) (fun j u hj => ?_) nums_one).mono ?_
    · rw [Bt.nums, List.getElem?_map] at hj
      cases hq : l[j]? with
      | none => rw [hq] at hj; cases hj
      | some y =>
        rw [hq] at hj
        cases hj
        exact (hX.cell (p := ⟨ir e, 0 + j, none⟩) hgl).trans (hcl j y hq)
    · rintro ex w' ⟨v', rfl, ho, hne, hb⟩
      rcases ho.2 with ⟨q, _⟩ | ⟨i', cap', cur, rfl, q2, q3, q4⟩
      · exact absurd q hne
      · refine ⟨i', cap', rfl, hX.trans (hb.mono hX.size), fun m y hy => ⟨i', rfl, lt_of_row q3, ?_⟩⟩
        have hI : IdsAt w' (.slice (some ⟨i', 0, none⟩) l.length cap') l := by
          rw [hil] at ho
          refine ⟨ho.1, ?_⟩
          rcases ho.2 with ⟨q, _⟩ | ⟨g2, cap2, cur2, r1, _, r3⟩
          · exact absurd q (by simp)
          · exact .inr ⟨g2, cap2, cur2, r1, Nat.zero_le _, r3⟩
        have := (ids_cells hI).2.2 m y hy
        rw [Nat.zero_add] at this
        exact this
  obtain ⟨d0, d1, d2, d3, d4, d5, rfl⟩ := repV_box hv
  clear hT hL hU hv hx hm hc he hat hi fe fi h1 h2 h3 hfew hil
  go_enter Tryz.func13, Tryz.ntmps13
  go_wp2_with (go_at_call 34; refine (CA.out _ (below_new _ _)).mono ?_; rintro ex w2 ⟨rfl, hb⟩; have HB2 : Hid (Below w.heap.size w w2) := (below_new _ _).trans (hb.mono (by simp)); clear hb; have c6 := HC.out _ HB2.out)
  refine (CC.out _ HB2.out).mono ?_
  rintro ex w3 ⟨i', cap', rfl, HV⟩
  clear CC CA HC c6
  go_wp2
  go_ret2
  exact ⟨_, cap', rfl, HV.out.2, HV.out.1⟩
end
end Go.Proofs.YtkigenldiinioaaGreatDoor
/- One taken out of a row: slices.Delete, laid at numbers and at entries. -/
namespace Go.Proofs
open Go.Shelf
def Tryz.laysDu_ren : Go.Shelf.Ren := ⟨fun | 45 => 44 | n => n, fun | 22 => 38 | 23 => 51 | 4 => 4 | n => n, fun | n => n⟩
theorem Tryz.laysDu : Go.Proofs.SlLaysE.n45 Tryz.prog Tryz.laysDu_ren := {
  mixed := by kernel_rfl
  f45 := ⟨Tryz.f44.name, by decide, Tryz.func44.trans (congrArg some (by kernel_rfl))⟩
  t0 := Tryz.underlying0
  a0 := Tryz.isAgg0
  z0 := Tryz.sizeOf0
  v0 := Tryz.zeroValue0
  t3 := Tryz.underlying3
  a3 := Tryz.isAgg3
  z3 := Tryz.sizeOf3
  v3 := Tryz.zeroValue3
  t4 := Tryz.underlying4
  a4 := Tryz.isAgg4
  z4 := Tryz.sizeOf4
  v4 := Tryz.zeroValue4
  t22 := Tryz.underlying38
  a22 := Tryz.isAgg38
  z22 := Tryz.sizeOf38
  v22 := Tryz.zeroValue38
  a23 := Tryz.isAgg51
  z23 := Tryz.sizeOf51 }
def Tryz.laysDe_ren : Go.Shelf.Ren := ⟨fun | 45 => 70 | n => n, fun | 22 => 92 | 23 => 71 | 4 => 4 | n => n, fun | n => n⟩
theorem Tryz.laysDe : Go.Proofs.SlLaysE.n45 Tryz.prog Tryz.laysDe_ren := {
  mixed := by kernel_rfl
  f45 := ⟨Tryz.f70.name, by decide, Tryz.func70.trans (congrArg some (by kernel_rfl))⟩
  t0 := Tryz.underlying0
  a0 := Tryz.isAgg0
  z0 := Tryz.sizeOf0
  v0 := Tryz.zeroValue0
  t3 := Tryz.underlying3
  a3 := Tryz.isAgg3
  z3 := Tryz.sizeOf3
  v3 := Tryz.zeroValue3
  t4 := Tryz.underlying4
  a4 := Tryz.isAgg4
  z4 := Tryz.sizeOf4
  v4 := Tryz.zeroValue4
  t22 := Tryz.underlying92
  a22 := Tryz.isAgg92
  z22 := Tryz.sizeOf92
  v22 := Tryz.zeroValue92
  a23 := Tryz.isAgg71
  z23 := Tryz.sizeOf71 }
end Go.Proofs
namespace Go.Proofs.YtkigenldiinioaaGreatDoor
open Go.RowKit Go.Lib Go.Sort
open Vl (V)
/-- one less -/
def Bt.less {α : Type} (l : List α) (i : Nat) : List α := l.take i ++ l.drop (i + 1)
theorem Bt.less_length {α : Type} {l : List α} {i : Nat} (h : i < l.length) : (Bt.less l i).length = l.length - 1 := by
  rw [Bt.less, List.length_append, List.length_take, List.length_drop]; omega
theorem Bt.less_map {α β : Type} (f : α → β) (l : List α) (i : Nat) : Bt.less (l.map f) i = (Bt.less l i).map f := by
  rw [Bt.less, Bt.less, List.map_append, List.map_take, List.map_drop]
theorem put_row {α : Type} [Inhabited α] {enc : α → Value} {w : World} {q g n cap i : Nat} {ty : TypeId} {cur : Array Value} {l : List α} {z : α} (hl : l.length = n) (hi : i < n) (hg : w.heap[g]? = some (.cells cur ty (0, 0))) (h1 : n ≤ cap) (h2 : cap ≤ maxLen) (h3 : cur.size = cap * 1) :
    (putRow enc (Sort.ahead w q) g 0 (l.take i ++ l.drop (i + 1) ++ List.replicate (i + 1 - i) z).toArray).ownsRow 0 ty 1 (.slice (some ⟨g, 0, none⟩) (n - 1) cap) (n - 1) ((Bt.less l i).map enc) ∧ Kept (fun k => k = g) w (putRow enc (Sort.ahead w q) g 0 (l.take i ++ l.drop (i + 1) ++ List.replicate (i + 1 - i) z).toArray) := by
  have hll : (Bt.less l i).length = n - 1 := by rw [Bt.less_length (by omega), hl]
  refine ⟨⟨by rw [List.length_map, hll, Nat.mul_one], .inr ⟨g, cap, putCells enc 0 (l.take i ++ l.drop (i + 1) ++ List.replicate (i + 1 - i) z).toArray cur, rfl, Nat.zero_le _, ?_, by omega, h2, by simp [putCells, h3], ?_⟩⟩, ⟨rfl, rfl, rfl, by simp [Sort.ahead], fun k _ hne => ?_⟩⟩
  · simp [putRow, mapBlock, Sort.ahead, Array.getElem?_modify, hg, onCells]
  · refine List.ext_getElem? fun j => ?_
    rw [Nat.mul_one]
    by_cases hj : j < n - 1
    · have hj2 : j < (Bt.less l i).length := by omega
      have hlen : (Bt.less l i ++ List.replicate (i + 1 - i) z).length = n := by rw [List.length_append, hll, List.length_replicate]; omega
      have e1 : (l.take i ++ l.drop (i + 1) ++ List.replicate (i + 1 - i) z) = Bt.less l i ++ List.replicate (i + 1 - i) z := rfl
      rw [List.getElem?_take_of_lt hj, Array.getElem?_toList, e1, List.getElem?_map, List.getElem?_eq_getElem hj2]
      have hjc : j < cur.size := by omega
      simp only [putCells, Array.getElem?_mapIdx, Array.getElem?_eq_getElem hjc, Option.map_some, Nat.zero_le, true_and, Nat.zero_add, Nat.sub_zero, List.size_toArray]
      rw [if_pos (by omega), getElem!_pos _ j (by simp; omega)]
      simp [List.getElem_append_left hj2]
    · rw [List.getElem?_take_eq_none (by omega), List.getElem?_eq_none (by rw [List.length_map]; omega)]
  · have : g ≠ k := fun e => hne e.symm
    simp [putRow, mapBlock, Sort.ahead, Array.getElem?_modify, this]
theorem holds_row {α : Type} [Inhabited α] {enc : α → Value} {w : World} {g n : Nat} {ty : TypeId} {cur : Array Value} {l : List α} (hl : l.length = n) (hg : w.heap[g]? = some (.cells cur ty (0, 0))) (htk : cur.toList.take (n * 1) = l.map enc) : Holds enc w g 0 l.toArray := fun j hj => by
  have hj' : j < l.length := by simpa using hj
  refine ⟨?_, ?_⟩
  · rw [Nat.zero_add]
    refine cells_at hg j _ ?_
    have h1 : (l.map enc)[j]? = some (enc l[j]) := by rw [List.getElem?_map, List.getElem?_eq_getElem hj']; rfl
    rw [← htk, List.getElem?_take_of_lt (by omega), Array.getElem?_toList] at h1
    rw [h1, getElem!_pos _ j hj]
    simp
  · simp [World.frozen?, hg]
/-- a number taken out -/
theorem delU_c (g n cap i : Nat) (l : List Nat) (w : World) (hI : IdsAt w (.slice (some ⟨g, 0, none⟩) n cap) l) (hi : i < n) (hn : n ≤ 1000000) :
    Calls Tryz.prog 44 #[.slice (some ⟨g, 0, none⟩) n cap, .int .i64 (i : Int), .int .i64 ((i + 1 : Nat) : Int)] w fun e w' => e = .returned (.slice (some ⟨g, 0, none⟩) (n - 1) cap) ∧ IdsAt w' (.slice (some ⟨g, 0, none⟩) (n - 1) cap) (Bt.less l i) ∧ Kept (fun k => k = g) w w' := by
  rcases hI.2 with ⟨h, _⟩ | ⟨g', cap', cur, h, _, h3, h4, h5, h6, h7⟩
  · cases h
  · injection h with e1 e2 e3
    obtain rfl : g = g' := by injection e1 with e1; injection e1
    subst e3
    have hln : l.length = n := e2.symm
    rw [hln] at h4 h7
    obtain ⟨i1, hi1, hy0, hy1, hy2⟩ := info_parts insU_info
    have C := AnyE.slices_Delete Tryz.laysDu (fun x : Nat => Value.int .u64 (x : Int)) (fun _ => rfl) 0 Tryz.zeroValue51 i1 hi1 hy1 g 0 cap i (i + 1) l.toArray w (holds_row hln h3 h7) (by simpa [hln] using h4) (by unfold maxLen at h5; omega) (by omega) (by simp; omega)
    rw [List.size_toArray, hln] at C
    refine Calls.mono (show Calls Tryz.prog 44 _ w _ from C) ?_
    · rintro e w' ⟨rfl, q, rfl⟩
      obtain ⟨k1, k2⟩ := put_row (enc := fun x : Nat => Value.int .u64 (x : Int)) (q := q) (z := 0) hln hi h3 h4 h5 h6
      refine ⟨by rw [show n - (i + 1 - i) = n - 1 by omega], ?_, k2⟩
      have hll : (Bt.less l i).length = n - 1 := by rw [Bt.less_length (by omega), hln]
      rw [IdsAt, hll]
      exact k1
/-- an entry taken out -/
theorem delE_c (g n cap i : Nat) (l : List Nat) (w : World) (hI : w.ownsRow 0 71 1 (.slice (some ⟨g, 0, none⟩) n cap) n (Bt.ptrs l)) (hi : i < n) (hn : n ≤ 1000000) :
    Calls Tryz.prog 70 #[.slice (some ⟨g, 0, none⟩) n cap, .int .i64 (i : Int), .int .i64 ((i + 1 : Nat) : Int)] w fun e w' => e = .returned (.slice (some ⟨g, 0, none⟩) (n - 1) cap) ∧ w'.ownsRow 0 71 1 (.slice (some ⟨g, 0, none⟩) (n - 1) cap) (n - 1) (Bt.ptrs (Bt.less l i)) ∧ Kept (fun k => k = g) w w' := by
  have hl := hI.1
  rw [Bt.ptrs, List.length_map, Nat.mul_one] at hl
  rcases hI.2 with ⟨h, _⟩ | ⟨g', cap', cur, h, _, h3, h4, h5, h6, h7⟩
  · cases h
  · injection h with e1 e2 e3
    obtain rfl : g = g' := by injection e1 with e1; injection e1
    subst e3
    have e4 : Bt.ptrs l = (l.map some).map fun x : Option Nat => Bt.ptr x := by rw [Bt.ptrs, List.map_map]; rfl
    rw [e4] at h7
    have hln : (l.map some).length = n := by rw [List.length_map]; exact hl
    obtain ⟨i1, hi1, hy0, hy1, hy2⟩ := info_parts all_info
    have C := AnyE.slices_Delete Tryz.laysDe (fun x : Option Nat => Bt.ptr x) (fun _ => rfl) none Tryz.zeroValue71 i1 hi1 hy1 g 0 cap i (i + 1) (l.map some).toArray w (holds_row hln h3 h7) (by simpa [hl] using h4) (by unfold maxLen at h5; omega) (by omega) (by simp; omega)
    rw [List.size_toArray, hln] at C
    refine Calls.mono (show Calls Tryz.prog 70 _ w _ from C) ?_
    · rintro e w' ⟨rfl, q, rfl⟩
      obtain ⟨k1, k2⟩ := put_row (enc := fun x : Option Nat => Bt.ptr x) (q := q) (z := none) hln hi h3 h4 h5 h6
      refine ⟨by rw [show n - (i + 1 - i) = n - 1 by omega], ?_, k2⟩
      have e5 : Bt.ptrs (Bt.less l i) = (Bt.less (l.map some) i).map fun x : Option Nat => Bt.ptr x := by rw [Bt.ptrs, Bt.less_map, List.map_map]; rfl
      rw [e5]
      exact k1
end Go.Proofs.YtkigenldiinioaaGreatDoor
