/- One more put into a row: slices.Insert, walked, at numbers and at entries. -/
import Derived.Test.YtkigenldiinioaaGreatDoorQ12M
import Derived.Shelf.Spec.SlicesInsert
import Derived.Shelf.Spec.SlicesInsertGrow
import Derived.Lib.AppendZerosOnto
import Derived.Maps.AppendAt
import Derived.OwnWalk
namespace Go.Proofs.YtkigenldiinioaaGreatDoor
open Go.RowKit Go.Shelf Go.Lib
open Vl (V)
attribute [local go_sem ↓] Go.wp_at_zero Go.wp_at_succ
theorem take_ins {C : Array Value} {L : List Value} {x : Value} {n i : Nat} (hL : L.length = n) (hi : i ≤ n) (h1 : ∀ j, j < i → C[j]? = L[j]?) (h2 : C[i]? = some x) (h3 : ∀ j, i ≤ j → j < n → C[j + 1]? = L[j]?) : C.toList.take (n + 1) = L.take i ++ x :: L.drop i := by
  refine List.ext_getElem? fun j => ?_
  rw [List.getElem?_take]
  by_cases hj : j < n + 1
  · rw [if_pos hj, Array.getElem?_toList]
    rcases Nat.lt_trichotomy j i with h | h | h
    · rw [List.getElem?_append_left (by rw [List.length_take]; omega), List.getElem?_take_of_lt h]; exact h1 j h
    · subst h
      rw [List.getElem?_append_right (by rw [List.length_take]; omega), List.length_take, Nat.min_eq_left (by omega), Nat.sub_self]; exact h2
    · obtain ⟨k, rfl⟩ : ∃ k, j = k + 1 := ⟨j - 1, by omega⟩
      rw [List.getElem?_append_right (by rw [List.length_take]; omega), List.length_take, Nat.min_eq_left (by omega), show k + 1 - i = (k - i) + 1 by omega, List.getElem?_cons_succ, List.getElem?_drop, show i + (k - i) = k by omega]
      exact h3 k (by omega) (by omega)
  · rw [if_neg hj]
    symm
    rw [List.getElem?_eq_none_iff]
    simp
    omega
theorem size_zeroCellsB (z : Array Value) (k : Nat) : (Builtin.zeroCells z k).size = k * z.size := by
  simp [Builtin.zeroCells]
theorem grown_setCells {W : World} {g : Nat} (vs : List Value) (o : Nat) : W.grownBy (W.setCells g o vs) (some g) := by
  have hb := below_setCellsV (B := 0) (b := g) (Nat.zero_le _) (A := W) vs o (Below.refl _ _)
  exact ⟨hb.os, hb.tape, hb.output, hb.size, fun k _ hk => heap_setCells_neV g k (fun e => hk (by rw [e])) vs o W⟩
theorem insU_info : (Tryz.prog.info? 51).map (fun i => (i.zero, i.size, i.bytes)) = some (some (.int .u64 0), 1, 8) := by kernel_rfl
set_option maxHeartbeats 4000000 in
set_option maxRecDepth 100000 in
theorem insU_end (n vb : Nat) (L : List Value) (x v : Value) (w : World) (hO : w.ownsRow 0 51 1 v n L) (hn : n ≤ 1000000) (hV : w.heap[vb]? = some (.cells #[x] 51 (0, 0))) (hx : x.oneCell' = true) :
    Calls Tryz.prog 43 #[v, .int .i64 (n : Int), .slice (some ⟨vb, 0, none⟩) 1 1] w fun e w' => ∃ v', e = .returned v' ∧ w'.ownsRow 0 51 1 v' (n + 1) (L ++ [x]) ∧ w.grownBy w' v.ownBlock ∧ (v'.ownBlock = v.ownBlock ∨ v'.ownBlock = some w.heap.size) := by
  obtain ⟨i0, hi0, hz0, hz1, hz2⟩ := info_parts insU_info
  have hnew : ∀ j u, [x][j]? = some u → w.cell? ((⟨vb, 0, none⟩ : Addr).add j) = some u := fun j u hj => by
    rw [Addr.add_lit, Nat.zero_add]
    exact cells_at hV j u (by simpa using hj)
  have HO : Hid (w.ownsRow 0 51 1 v n L) := hO
  have HN : Hid (n + 1 ≤ maxLen ∧ (n + 1) * 8 ≤ 140737488355328) := ⟨by unfold maxLen; omega, by omega⟩
  have HX : Hid (∀ u ∈ [x], u.oneCell' = true) := fun u hu => by simp at hu; subst hu; exact hx
  have HNEW : Hid (∀ j u, [x][j]? = some u → w.cell? ((⟨vb, 0, none⟩ : Addr).add j) = some u) := hnew
  rcases hO.2 with ⟨rfl, rfl⟩ | ⟨g, cap, cur, rfl, _, hc, hcap, hmx, hcs, _⟩
  · clear hO hnew hV hx hn
    go_enter Tryz.func43, Tryz.ntmps43
    go_wp2_with (at_builtin; refine wpList_append_own_at _ rfl _ _ 38 rfl 0 51 i0 _ 1 8 Tryz.underlying38 hi0 hz0 hz1 hz2 rfl (by decide) _ 0 L rfl HO.out ⟨vb, 0, none⟩ 1 1 [x] rfl rfl HNEW.out HX.out HN.out.1 HN.out.2 (Nat.zero_le _) ?_; intro v' w' h1 h2 _ h4; have HR : Hid _ := And.intro h1 (And.intro h2 h4); clear h1 h2 h4)
    go_ret
    exact ⟨_, rfl, HR.out⟩
  · have hk0 : n ≤ 9223372036854775807 := by omega
    clear hO hnew hV hx hc hcs hmx
    have hcap' : n ≤ cap := hcap
    by_cases hce : cap = n
    · subst hce
      go_enter Tryz.func43, Tryz.ntmps43
      go_wp2_with (at_builtin; refine wpList_append_own_at _ rfl _ _ 38 rfl 0 51 i0 _ 1 8 Tryz.underlying38 hi0 hz0 hz1 hz2 rfl (by decide) _ cap L rfl HO.out ⟨vb, 0, none⟩ 1 1 [x] rfl rfl HNEW.out HX.out HN.out.1 HN.out.2 (Nat.zero_le _) ?_; intro v' w' h1 h2 _ h4; have HR : Hid _ := And.intro h1 (And.intro h2 h4); clear h1 h2 h4)
      go_ret
      exact ⟨_, rfl, HR.out⟩
    · go_enter Tryz.func43, Tryz.ntmps43
      go_wp2_with (at_builtin; refine wpList_append_own_at _ rfl _ _ 38 rfl 0 51 i0 _ 1 8 Tryz.underlying38 hi0 hz0 hz1 hz2 rfl (by decide) _ n L rfl HO.out ⟨vb, 0, none⟩ 1 1 [x] rfl rfl HNEW.out HX.out HN.out.1 HN.out.2 (Nat.zero_le _) ?_; intro v' w' h1 h2 _ h4; have HR : Hid _ := And.intro h1 (And.intro h2 h4); clear h1 h2 h4)
      go_ret
      exact ⟨_, rfl, HR.out⟩
set_option maxHeartbeats 4000000 in
set_option maxRecDepth 100000 in
theorem insU_grow (G n c i g : Nat) (cs : List Value) (x : Value) (w : World) (hi : i < n) (hbig : n ≤ 1000000) (hnc : n ≤ c) (hroom : c < n + 1) (hcl : cs.length = n)
    (hcs : ∀ j v, cs[j]? = some v → w.cell? ⟨G, j, none⟩ = some v) (hV : w.cell? ⟨g, 0, none⟩ = some x) (h1c : ∀ v ∈ cs, v.oneCell' = true) (h1x : x.oneCell' = true) :
    Calls Tryz.prog 43 #[.slice (some ⟨G, 0, none⟩) n c, .int .i64 (i : Int), .slice (some ⟨g, 0, none⟩) 1 1] w fun e w' =>
      ∃ cap ROW, e = .returned (.slice (some ⟨w.heap.size, 0, none⟩) (n + 1) cap) ∧ n + 1 ≤ cap ∧ cap ≤ maxLen ∧ ROW.size = cap ∧ (∀ j, j < i → ROW[j]? = cs[j]?) ∧
        w' = (((w.alloc (.cells ROW 51)).drew.setCells w.heap.size i [x]).drew).setCells w.heap.size (i + 1) (cs.drop i) := by
  obtain rfl : c = n := by omega
  obtain ⟨i0, hi0, hz0, hzs, hzb⟩ := info_parts insU_info
  have hsz : (Tryz.prog.info? 51).map (·.size) = some 1 := by rw [hi0]; simp [hzs]
  have hbw : G < w.heap.size := block_lt_of_cell (hcs 0 _ (List.getElem?_eq_getElem (by omega)))
  have hvw : g < w.heap.size := block_lt_of_cell hV
  have hvs : ∀ j v, [x][j]? = some v → w.cell? ⟨g, j, none⟩ = some v := fun j v hj => by
    cases j with
    | zero => simp at hj; subst hj; exact hV
    | succ j => simp at hj
  have hkk : (c : Int) + 1 - (i : Int) = ((c + 1 - i : Nat) : Int) := by omega
  have hik : i + (c + 1 - i) = c + 1 := by omega
  obtain ⟨z, hz⟩ : ∃ z : Value, z = (.int .u64 0) := ⟨_, rfl⟩
  have hzc : z.cells.size = 1 := by rw [hz]; rfl
  rw [← hz] at hz0
  have hold : (Builtin.firstCells i0.size i (.slice (some ⟨G, 0, none⟩) i c)).run Tryz.prog w.drew = .ok (cs.take i).toArray w.drew := by
    rw [hzs]
    exact run_firstCells_some w.drew 1 i ⟨G, 0, none⟩ i c (cs.take i) (by rw [List.length_take]; omega) (fun j v hj => by
      rw [Addr.add_lit, Nat.zero_add]
      rw [List.getElem?_take] at hj
      split at hj
      · exact hcs j v hj
      · cases hj)
  have hrz : ∀ ty, (Builtin.append_ #[38, 3] ty #[.slice (some ⟨G, 0, none⟩) i c, .int .i64 ((c : Int) + 1 - (i : Int))]).run Tryz.prog w =
      .ok (.slice (some ⟨w.heap.size, 0, none⟩) (c + 1) (grownCap w (c + 1) c 51)) (w.drew.alloc (.cells ((cs.take i).toArray ++ Builtin.zeroCells z.cells (c + 1 - i) ++ Builtin.zeroCells z.cells (grownCap w (c + 1) c 51 - (c + 1))) 51)) := fun ty => by
    have h := Lib.run_append_grow_zeros w 38 3 ty 51 i0 _ .i64 .i64 Tryz.underlying38 Tryz.underlying3 hi0 hz0 (some ⟨G, 0, none⟩) i c (cs.take i) hold (c + 1 - i) (by omega) (by omega) (by omega) (by omega) (by rw [hzb]; omega) (by rw [hzb, hik]; exact growslice_fits (by omega) (by omega))
    rw [hik] at h
    rw [hkk]
    exact h
  obtain ⟨K, hK⟩ : ∃ K, K = grownCap w (c + 1) c 51 := ⟨_, rfl⟩
  obtain ⟨ROW, hROW⟩ : ∃ ROW : Array Value, ROW = (cs.take i).toArray ++ Builtin.zeroCells z.cells (c + 1 - i) ++ Builtin.zeroCells z.cells (K - (c + 1)) := ⟨_, rfl⟩
  rw [← hK] at hrz
  rw [← hROW] at hrz
  have hGn : c + 1 ≤ K := by rw [hK]; exact grownCap_ge w _ _ _
  have hGm : K ≤ maxLen := by rw [hK]; exact grownCap_le_maxLen w (c + 1) c 51 (by unfold maxLen; omega)
  have hG63 : K ≤ 9223372036854775807 := by unfold maxLen at hGm; omega
  have hRl : ROW.size = K := by
    rw [hROW]
    simp only [Array.size_append, List.size_toArray, List.length_take, size_zeroCellsB, hzc]
    rw [hcl, Nat.min_eq_left (by omega)]
    omega
  have HRT : Hid (∀ j, j < i → ROW[j]? = cs[j]?) := fun j hj => by
    rw [hROW, Array.append_assoc, Array.getElem?_append_left (by simp only [List.size_toArray, List.length_take]; omega), List.getElem?_toArray, List.getElem?_take_of_lt hj]
  obtain ⟨W1, hW1⟩ : ∃ W1, W1 = w.drew.alloc (.cells ROW 51) := ⟨_, rfl⟩
  rw [← hW1] at hrz
  have hN : ∀ j, j < c + 1 → (W1.cell? ⟨w.heap.size, j, none⟩).isSome = true := fun j hj => by
    rw [hW1, World.cell?_alloc_at (w := w.drew) ROW _ w.heap.size j rfl, Array.getElem?_eq_getElem (by omega)]; rfl
  have hNf : ∀ j, W1.frozen? ⟨w.heap.size, j, none⟩ = false := fun j => by rw [hW1]; exact World.frozen?_alloc_at (w := w.drew) ROW _ w.heap.size j rfl
  have hOb : ∀ j v, w.cell? ⟨G, j, none⟩ = some v → W1.cell? ⟨G, j, none⟩ = some v := fun j v h => by rw [hW1, World.cell?_alloc_past (w := w.drew) _ G j hbw]; exact h
  have hOv : ∀ j v, w.cell? ⟨g, j, none⟩ = some v → W1.cell? ⟨g, j, none⟩ = some v := fun j v h => by rw [hW1, World.cell?_alloc_past (w := w.drew) _ g j hvw]; exact h
  have h1v : ∀ v ∈ [x], v.oneCell' = true := fun v hv => by simp at hv; subst hv; exact h1x
  have hcpA : ∀ (W : World), (∀ x, W.cell? x = W1.cell? x) → (∀ x, W.frozen? x = W1.frozen? x) → ∀ ty dc, (Builtin.copy_ #[38, 38] ty #[.slice (some ⟨w.heap.size, i, none⟩) (c + 1 - i) dc, .slice (some ⟨g, 0, none⟩) 1 1]).run Tryz.prog W = .ok (goInt 1) (W.setCells w.heap.size i [x]) := fun W hWc hWf ty dc =>
    run_copy_cells W _ _ ty 51 w.heap.size i (c + 1 - i) dc ⟨g, 0, none⟩ 1 1 [x] Tryz.underlying38 hsz (by simp only [Nat.min_def, List.length_cons, List.length_nil]; split <;> omega)
      (fun j v hj => by rw [Addr.add_lit, hWc, Nat.zero_add]; exact hOv _ v (hvs j v hj))
      (fun j hj => by rw [hWc]; exact hN _ (by simp at hj; omega)) (fun j hj => by rw [hWf]; exact hNf _) h1v
  have hdl : (cs.drop i).length = c - i := by rw [List.length_drop, hcl]
  have hbN : G ≠ w.heap.size := by omega
  have hcpB : ∀ (W : World), (∀ y, W.cell? y = (W1.setCells w.heap.size i [x]).cell? y) → (∀ y, W.frozen? y = (W1.setCells w.heap.size i [x]).frozen? y) → ∀ ty dc sc, (Builtin.copy_ #[38, 38] ty #[.slice (some ⟨w.heap.size, i + 1, none⟩) (c + 1 - (i + 1)) dc, .slice (some ⟨G, i, none⟩) (c - i) sc]).run Tryz.prog W = .ok (goInt ((c - i : Nat) : Int)) (W.setCells w.heap.size (i + 1) (cs.drop i)) := fun W hWc hWf ty dc sc => by
    have h := run_copy_cells W 38 38 ty 51 w.heap.size (i + 1) (c + 1 - (i + 1)) dc ⟨G, i, none⟩ (c - i) sc (cs.drop i) Tryz.underlying38 hsz (by rw [hdl]; simp only [Nat.min_def]; split <;> omega)
      (fun j v hj => by
        rw [Addr.add_lit, hWc, World.cell?_setCells_out _ _ _ _ _ (fun h _ => absurd h hbN)]
        exact hOb _ v (hcs (i + j) v (by rwa [List.getElem?_drop] at hj)))
      (fun j hj => by rw [hWc]; exact isSome_setCells _ _ _ _ (fun t ht => hN _ (by simp at ht; omega)) _ (hN _ (by omega)))
      (fun j hj => by rw [hWf, World.frozen?_setCells]; exact hNf _) (fun v hv => h1c v (List.mem_of_mem_drop hv))
    rw [hdl] at h
    exact h
  subst hW1
  have hE1 : ∀ x, ((w.alloc (.cells ROW 51)).drew).cell? x = (w.drew.alloc (.cells ROW 51)).cell? x := fun x => rfl
  have hE2 : ∀ x, ((w.alloc (.cells ROW 51)).drew).frozen? x = (w.drew.alloc (.cells ROW 51)).frozen? x := fun x => rfl
  have hF1 : ∀ y, (((w.alloc (.cells ROW 51)).drew.setCells w.heap.size i [x]).drew).cell? y = ((w.drew.alloc (.cells ROW 51)).setCells w.heap.size i [x]).cell? y := fun y => rfl
  have hF2 : ∀ y, (((w.alloc (.cells ROW 51)).drew.setCells w.heap.size i [x]).drew).frozen? y = ((w.drew.alloc (.cells ROW 51)).setCells w.heap.size i [x]).frozen? y := fun y => rfl
  have HRL : Hid (ROW.size = K ∧ c + 1 ≤ K ∧ K ≤ maxLen) := ⟨hRl, hGn, hGm⟩
  have hz2 : ¬ ((i : Int) = (c : Int)) := by omega
  have hGi : ¬ (K = i) := by omega
  have hGim : ¬ (K = i + 1) := by omega
  have hci : ¬ (c = i) := by omega
  have hb3 : (i : Int) ≤ (c : Int) := by omega
  have hi9 : i ≤ 9223372036854775807 := by omega
  have hb1 : (0 : Int) ≤ (i : Int) + 1 := by omega
  have htn : ((i : Int) + 1).toNat = i + 1 := by omega
  have hb4 : (i : Int) + 1 ≤ (c : Int) + 1 := by omega
  have hin : i ≤ c := by omega
  have hw2 : IntKind.i64.wrap ((i : Int) + 1) = (i : Int) + 1 := by rw [IntKind.wrap_i64]; omega
  have mixed : Tryz.prog.follows Departure.mixedOrders = true := by kernel_rfl
  clear hkk hik hold hROW hK hRl hz hzc hz0 hN hNf hOb hOv hcs hvs hV h1c h1v h1x hdl hcl hGm
  go_enter Tryz.func43, Tryz.ntmps43
  go_wp2_with (first
    | (at_builtin; refine Lib.wpList_append_run _ rfl _ _ _ _ rfl _ _ rfl rfl _ _ (hrz _) ?_)
    | (at_builtin; refine wpList_copy_runI _ rfl _ _ 38 38 rfl _ _ rfl rfl (hcpA _ hE1 hE2 _ _) ?_))
  go_region_law_o (refine step_copy_runI rfl _ _ 38 38 rfl (.slice (some ⟨w.heap.size, i + 1, none⟩) (c + 1 - (i + 1)) (K - (i + 1))) (.slice (some ⟨G, i, none⟩) (c - i) (c - i)) (by simp [Act.eval, Act.put]) (by simp [Act.eval, Act.put]) (hcpB _ hF1 hF2 3 (K - (i + 1)) (c - i)) ?_)
  go_wp2
  go_ret
  exact ⟨K, ROW, rfl, HRL.out.2.1, HRL.out.2.2, HRL.out.1, HRT.out, rfl⟩
set_option maxHeartbeats 4000000 in
set_option maxRecDepth 100000 in
theorem insU_shift (b n c i vb kB : Nat) (cs : List Value) (x : Value) (w : World) (hi : i < n) (hroom : n + 1 ≤ c) (hn6 : n ≤ 1000000) (hvb : vb ≠ b) (hcl : cs.length = n)
    (hcs : ∀ j v, cs[j]? = some v → w.cell? ⟨b, j, none⟩ = some v) (hsp : ∀ j, j < n + 1 → (w.cell? ⟨b, j, none⟩).isSome = true) (hfz : ∀ j, w.frozen? ⟨b, j, none⟩ = false)
    (hV : w.heap[vb]? = some (.cells #[x] 51 (0, 0))) (h1c : ∀ v ∈ cs, v.oneCell' = true) (h1x : x.oneCell' = true) (hsb : w.shape? b = some (51, kB)) (hkB : kB ≠ 0) :
    Calls Tryz.prog 43 #[.slice (some ⟨b, 0, none⟩) n c, .int .i64 (i : Int), .slice (some ⟨vb, 0, none⟩) 1 1] w fun e w' =>
      e = .returned (.slice (some ⟨b, 0, none⟩) (n + 1) c) ∧ w' = (w.drew.setCells b (i + 1) (cs.drop i)).setCells b i [x] := by
  obtain ⟨i0, hi0, hz0, hzs, hzb⟩ := info_parts insU_info
  have hsz : (Tryz.prog.info? 51).map (·.size) = some 1 := by rw [hi0]; simp [hzs]
  have hsa : w.shape? vb = some (51, 1) := by unfold World.shape?; rw [hV]; rfl
  have hfa : ∀ j, w.frozen? ⟨vb, j, none⟩ = false := row_freeV hV
  have hvs : ∀ j v, [x][j]? = some v → w.cell? ⟨vb, j, none⟩ = some v := fun j v hj => cells_at hV j v (by simpa using hj)
  have h1v : ∀ v ∈ [x], v.oneCell' = true := fun v hv => by simp at hv; subst hv; exact h1x
  have hov : ∀ lb cb, (callFunc 68 #[.slice (some ⟨vb, 0, none⟩) 1 1, .slice (some ⟨b, i + 1, none⟩) lb cb]).run Tryz.prog w = .ok (.value (.bool false)) w := fun lb cb => by
    rw [run_callFunc_extern Tryz.func68 (by kernel_rfl) (by kernel_rfl) (by kernel_rfl) (e := Extern.SlicesOverlaps.overlaps #[38, 38] #[4]) (by kernel_rfl),
      Lib.run_overlaps_apart w 38 4 51 Tryz.underlying38 1 Tryz.sizeOf51 ⟨vb, 0, none⟩ ⟨b, i + 1, none⟩ 1 1 lb cb hvb 51 51 1 kB hsa hsb hkB (hfa _) (hfa _)]
    rfl
  have hdl : (cs.drop i).length = n - i := by rw [List.length_drop, hcl]
  have mixed : Tryz.prog.follows Departure.mixedOrders = true := by kernel_rfl
  have hz2 : ¬ ((i : Int) = (n : Int)) := by omega
  have hw1 : IntKind.i64.wrap ((i : Int) + 1) = (i : Int) + 1 := by rw [IntKind.wrap_i64]; omega
  have hb1 : (0 : Int) ≤ (i : Int) + 1 := by omega
  have hin : i ≤ n := by omega
  have htn : ((i : Int) + 1).toNat = i + 1 := by omega
  have hb2 : ¬ (c = i + 1) := by omega
  have hb3 : (i : Int) ≤ (n : Int) + 1 := by omega
  have hb5 : (i : Int) + 1 ≤ (n : Int) + 1 := by omega
  have hb4 : ¬ (c = i) := by omega
  have hcp1 : ∀ ty dc sc, (Builtin.copy_ #[38, 38] ty #[.slice (some ⟨b, i + 1, none⟩) (n - i) dc, .slice (some ⟨b, i, none⟩) (n + 1 - i) sc]).run Tryz.prog w.drew = .ok (goInt (cs.drop i).length) (w.drew.setCells b (i + 1) (cs.drop i)) := fun ty dc sc =>
    run_copy_cells w.drew _ _ ty 51 b (i + 1) (n - i) dc ⟨b, i, none⟩ (n + 1 - i) sc (cs.drop i) Tryz.underlying38 hsz (by rw [hdl]; simp only [Nat.min_def]; split <;> omega)
      (fun j v hj => by rw [Addr.add_lit]; exact hcs (i + j) v (by rwa [List.getElem?_drop] at hj))
      (fun j hj => hsp _ (by omega)) (fun j hj => hfz _) (fun v hv => h1c v (List.mem_of_mem_drop hv))
  obtain ⟨W1, hW1⟩ : ∃ W1, W1 = w.drew.setCells b (i + 1) (cs.drop i) := ⟨_, rfl⟩
  have hsp1 : ∀ k, k < n + 1 → (W1.cell? ⟨b, k, none⟩).isSome = true := fun k hk => by
    rw [hW1]
    exact isSome_setCells b (cs.drop i) (i + 1) w.drew (fun j hj => hsp (i + 1 + j) (by rw [hdl] at hj; omega)) _ (hsp k hk)
  have hcp2 : ∀ (W : World), (∀ x, W.cell? x = W1.cell? x) → (∀ x, W.frozen? x = W1.frozen? x) → ∀ ty dc, (Builtin.copy_ #[38, 38] ty #[.slice (some ⟨b, i, none⟩) (n + 1 - i) dc, .slice (some ⟨vb, 0, none⟩) 1 1]).run Tryz.prog W = .ok (goInt [x].length) (W.setCells b i [x]) := fun W hWc hWf ty dc =>
    run_copy_cells W _ _ ty 51 b i (n + 1 - i) dc ⟨vb, 0, none⟩ 1 1 [x] Tryz.underlying38 hsz (by simp only [Nat.min_def, List.length_cons, List.length_nil]; split <;> omega)
      (fun j v hj => by
        rw [Addr.add_lit, hWc, hW1, World.cell?_setCells_out b _ _ _ _ (fun h _ => absurd h hvb), Nat.zero_add]
        exact hvs j v hj)
      (fun j hj => by rw [hWc]; exact hsp1 _ (by simp at hj; omega)) (fun j hj => by rw [hWf, hW1, World.frozen?_setCells]; exact hfz _) h1v
  rw [← hW1] at hcp1
  have HW1 : Hid (W1 = w.drew.setCells b (i + 1) (cs.drop i)) := hW1
  clear hsa hsb hcs hsp hfz hV hfa hvs h1v h1c h1x hsp1 hW1 hdl
  go_enter Tryz.func43, Tryz.ntmps43
  go_wp2_with (simp only [hov])
  go_region_law_o (refine step_copy_runI rfl _ _ 38 38 rfl (.slice (some ⟨b, i + 1, none⟩) (n - i) (c - (i + 1))) (.slice (some ⟨b, i, none⟩) (n + 1 - i) (c - i)) (by simp [Act.eval, Act.put]) (by simp [Act.eval, Act.put]) (hcp1 _ _ _) ?_)
  go_wp2_with (at_builtin; refine wpList_copy_runI _ rfl _ _ 38 38 rfl _ _ rfl rfl (hcp2 _ (fun _ => rfl) (fun _ => rfl) _ _) ?_)
  go_ret
  exact ⟨rfl, by rw [HW1.out]⟩
theorem insU_c (n i vb : Nat) (L : List Value) (x v : Value) (w : World) (hO : w.ownsRow 0 51 1 v n L) (hi : i ≤ n) (hn : n ≤ 1000000) (hV : w.heap[vb]? = some (.cells #[x] 51 (0, 0))) (hne : v.ownBlock ≠ some vb) (h1 : ∀ u ∈ L, u.oneCell' = true) (hx : x.oneCell' = true) :
    Calls Tryz.prog 43 #[v, .int .i64 (i : Int), .slice (some ⟨vb, 0, none⟩) 1 1] w fun e w' => ∃ v', e = .returned v' ∧ w'.ownsRow 0 51 1 v' (n + 1) (L.take i ++ x :: L.drop i) ∧ w.grownBy w' v.ownBlock ∧ (v'.ownBlock = v.ownBlock ∨ v'.ownBlock = some w.heap.size) := by
  have hL : L.length = n := by have := hO.1; omega
  by_cases hin : i = n
  · subst hin
    refine (insU_end i vb L x v w hO hn hV hx).mono ?_
    rintro e w' ⟨v', rfl, h1, h2⟩
    refine ⟨v', rfl, ?_, h2⟩
    rw [List.take_of_length_le (by omega), List.drop_of_length_le (by omega)]
    exact h1
  · rcases hO.2 with ⟨rfl, rfl⟩ | ⟨g, cap, cur, rfl, _, hc, hcap, hmx, hcs, htk⟩
    · omega
    · rw [Nat.mul_one] at hcs htk
      have hget : ∀ j, j < n → cur[j]? = L[j]? := fun j hj => by
        rw [← htk, List.getElem?_take_of_lt hj, Array.getElem?_toList]
      have hcell : ∀ j u, L[j]? = some u → w.cell? ⟨g, j, none⟩ = some u := fun j u hj => cells_at hc j u (by rw [hget j (by have := (List.getElem?_eq_some_iff.1 hj).1; omega)]; exact hj)
      have hdl : (L.drop i).length = n - i := by rw [List.length_drop, hL]
      by_cases hroom : cap < n + 1
      · refine (insU_grow g n cap i vb L x w (by omega) hn hcap hroom hL hcell (cells_at hV 0 _ rfl) h1 hx).mono ?_
        rintro e w' ⟨cap', ROW, rfl, k1, k2, k3, k4, rfl⟩
        refine ⟨_, rfl, ⟨by simp [hL]; omega, .inr ⟨w.heap.size, cap', putAll (putAll ROW i [x]) (i + 1) (L.drop i), rfl, Nat.zero_le _, ?_, k1, k2, by rw [putAll_size, putAll_size, k3, Nat.mul_one], ?_⟩⟩, ?_, .inr rfl⟩
        · exact heap_setCells_put _ _ _ _ _ _ (heap_setCells_put _ _ _ _ (w.alloc (.cells ROW 51)).drew _ (heap_alloc_new w _))
        · rw [Nat.mul_one]
          refine take_ins hL (by omega) (fun j hj => ?_) ?_ (fun j hj1 hj2 => ?_)
          · rw [putAll_other _ _ _ _ (.inl (by omega)), putAll_other _ _ _ _ (.inl (by omega))]; exact k4 j hj
          · rw [putAll_other _ _ _ _ (.inl (by omega))]
            exact putAll_at [x] ROW i 0 x (by simp; omega) rfl
          · have := putAll_at (L.drop i) (putAll ROW i [x]) (i + 1) (j - i) (L[j]'(by omega)) (by rw [putAll_size, hdl]; omega) (by rw [List.getElem?_drop, show i + (j - i) = j by omega]; exact List.getElem?_eq_getElem _)
            rw [show i + 1 + (j - i) = j + 1 by omega] at this
            rw [this]
            exact (List.getElem?_eq_getElem _).symm
        · have b1 : Below w.heap.size w ((((w.alloc (.cells ROW 51)).drew.setCells w.heap.size i [x]).drew).setCells w.heap.size (i + 1) (L.drop i)) := below_setCellsV (Nat.le_refl _) _ _ (Below.drew (below_setCellsV (Nat.le_refl _) _ _ (Below.drew (below_new w _))))
          exact ⟨b1.os, b1.tape, b1.output, b1.size, fun k hk _ => b1.block k hk⟩
      · refine (insU_shift g n cap i vb cur.size L x w (by omega) (by omega) hn (fun e => hne (by rw [e]; rfl)) hL hcell (fun j hj => ?_) (row_freeV hc) hV h1 hx (by unfold World.shape?; rw [hc]) (by omega)).mono ?_
        · simp [World.cell?, hc]
          omega
        · rintro e w' ⟨rfl, rfl⟩
          refine ⟨_, rfl, ⟨by simp [hL]; omega, .inr ⟨g, cap, putAll (putAll cur (i + 1) (L.drop i)) i [x], rfl, Nat.zero_le _, ?_, by omega, hmx, by rw [putAll_size, putAll_size, hcs, Nat.mul_one], ?_⟩⟩, ?_, .inl rfl⟩
          · exact heap_setCells_put _ _ _ _ _ _ (heap_setCells_put _ _ _ _ w.drew _ hc)
          · rw [Nat.mul_one]
            refine take_ins hL (by omega) (fun j hj => ?_) ?_ (fun j hj1 hj2 => ?_)
            · rw [putAll_other _ _ _ _ (.inl (by omega)), putAll_other _ _ _ _ (.inl (by omega))]; exact hget j (by omega)
            · exact putAll_at [x] _ i 0 x (by rw [putAll_size]; simp; omega) rfl
            · rw [putAll_other _ _ _ _ (.inr (by simp; omega))]
              have := putAll_at (L.drop i) cur (i + 1) (j - i) (L[j]'(by omega)) (by rw [hdl]; omega) (by rw [List.getElem?_drop, show i + (j - i) = j by omega]; exact List.getElem?_eq_getElem _)
              rw [show i + 1 + (j - i) = j + 1 by omega] at this
              rw [this]
              exact (List.getElem?_eq_getElem _).symm
          · have g1 := grown_setCells (W := w.drew) (g := g) (L.drop i) (i + 1)
            have g2 := grown_setCells (W := w.drew.setCells g (i + 1) (L.drop i)) (g := g) [x] i
            exact ⟨g2.os.trans g1.os, g2.tape.trans g1.tape, g2.output.trans g1.output, Nat.le_trans g1.size g2.size, fun k hk hkg => (g2.block k (Nat.lt_of_lt_of_le hk g1.size) hkg).trans (g1.block k hk hkg)⟩
theorem insE_info : (Tryz.prog.info? 71).map (fun i => (i.zero, i.size, i.bytes)) = some (some (.pointer none), 1, 8) := by kernel_rfl
set_option maxHeartbeats 4000000 in
set_option maxRecDepth 100000 in
theorem insE_end (n vb : Nat) (L : List Value) (x v : Value) (w : World) (hO : w.ownsRow 0 71 1 v n L) (hn : n ≤ 1000000) (hV : w.heap[vb]? = some (.cells #[x] 71 (0, 0))) (hx : x.oneCell' = true) :
    Calls Tryz.prog 65 #[v, .int .i64 (n : Int), .slice (some ⟨vb, 0, none⟩) 1 1] w fun e w' => ∃ v', e = .returned v' ∧ w'.ownsRow 0 71 1 v' (n + 1) (L ++ [x]) ∧ w.grownBy w' v.ownBlock ∧ (v'.ownBlock = v.ownBlock ∨ v'.ownBlock = some w.heap.size) := by
  obtain ⟨i0, hi0, hz0, hz1, hz2⟩ := info_parts insE_info
  have hnew : ∀ j u, [x][j]? = some u → w.cell? ((⟨vb, 0, none⟩ : Addr).add j) = some u := fun j u hj => by
    rw [Addr.add_lit, Nat.zero_add]
    exact cells_at hV j u (by simpa using hj)
  have HO : Hid (w.ownsRow 0 71 1 v n L) := hO
  have HN : Hid (n + 1 ≤ maxLen ∧ (n + 1) * 8 ≤ 140737488355328) := ⟨by unfold maxLen; omega, by omega⟩
  have HX : Hid (∀ u ∈ [x], u.oneCell' = true) := fun u hu => by simp at hu; subst hu; exact hx
  have HNEW : Hid (∀ j u, [x][j]? = some u → w.cell? ((⟨vb, 0, none⟩ : Addr).add j) = some u) := hnew
  rcases hO.2 with ⟨rfl, rfl⟩ | ⟨g, cap, cur, rfl, _, hc, hcap, hmx, hcs, _⟩
  · clear hO hnew hV hx hn
    go_enter Tryz.func65, Tryz.ntmps65
    go_wp2_with (at_builtin; refine wpList_append_own_at _ rfl _ _ 92 rfl 0 71 i0 _ 1 8 Tryz.underlying92 hi0 hz0 hz1 hz2 rfl (by decide) _ 0 L rfl HO.out ⟨vb, 0, none⟩ 1 1 [x] rfl rfl HNEW.out HX.out HN.out.1 HN.out.2 (Nat.zero_le _) ?_; intro v' w' h1 h2 _ h4; have HR : Hid _ := And.intro h1 (And.intro h2 h4); clear h1 h2 h4)
    go_ret
    exact ⟨_, rfl, HR.out⟩
  · have hk0 : n ≤ 9223372036854775807 := by omega
    clear hO hnew hV hx hc hcs hmx
    have hcap' : n ≤ cap := hcap
    by_cases hce : cap = n
    · subst hce
      go_enter Tryz.func65, Tryz.ntmps65
      go_wp2_with (at_builtin; refine wpList_append_own_at _ rfl _ _ 92 rfl 0 71 i0 _ 1 8 Tryz.underlying92 hi0 hz0 hz1 hz2 rfl (by decide) _ cap L rfl HO.out ⟨vb, 0, none⟩ 1 1 [x] rfl rfl HNEW.out HX.out HN.out.1 HN.out.2 (Nat.zero_le _) ?_; intro v' w' h1 h2 _ h4; have HR : Hid _ := And.intro h1 (And.intro h2 h4); clear h1 h2 h4)
      go_ret
      exact ⟨_, rfl, HR.out⟩
    · go_enter Tryz.func65, Tryz.ntmps65
      go_wp2_with (at_builtin; refine wpList_append_own_at _ rfl _ _ 92 rfl 0 71 i0 _ 1 8 Tryz.underlying92 hi0 hz0 hz1 hz2 rfl (by decide) _ n L rfl HO.out ⟨vb, 0, none⟩ 1 1 [x] rfl rfl HNEW.out HX.out HN.out.1 HN.out.2 (Nat.zero_le _) ?_; intro v' w' h1 h2 _ h4; have HR : Hid _ := And.intro h1 (And.intro h2 h4); clear h1 h2 h4)
      go_ret
      exact ⟨_, rfl, HR.out⟩
set_option maxHeartbeats 4000000 in
set_option maxRecDepth 100000 in
theorem insE_grow (G n c i g : Nat) (cs : List Value) (x : Value) (w : World) (hi : i < n) (hbig : n ≤ 1000000) (hnc : n ≤ c) (hroom : c < n + 1) (hcl : cs.length = n)
    (hcs : ∀ j v, cs[j]? = some v → w.cell? ⟨G, j, none⟩ = some v) (hV : w.cell? ⟨g, 0, none⟩ = some x) (h1c : ∀ v ∈ cs, v.oneCell' = true) (h1x : x.oneCell' = true) :
    Calls Tryz.prog 65 #[.slice (some ⟨G, 0, none⟩) n c, .int .i64 (i : Int), .slice (some ⟨g, 0, none⟩) 1 1] w fun e w' =>
      ∃ cap ROW, e = .returned (.slice (some ⟨w.heap.size, 0, none⟩) (n + 1) cap) ∧ n + 1 ≤ cap ∧ cap ≤ maxLen ∧ ROW.size = cap ∧ (∀ j, j < i → ROW[j]? = cs[j]?) ∧
        w' = (((w.alloc (.cells ROW 71)).drew.setCells w.heap.size i [x]).drew).setCells w.heap.size (i + 1) (cs.drop i) := by
  obtain rfl : c = n := by omega
  obtain ⟨i0, hi0, hz0, hzs, hzb⟩ := info_parts insE_info
  have hsz : (Tryz.prog.info? 71).map (·.size) = some 1 := by rw [hi0]; simp [hzs]
  have hbw : G < w.heap.size := block_lt_of_cell (hcs 0 _ (List.getElem?_eq_getElem (by omega)))
  have hvw : g < w.heap.size := block_lt_of_cell hV
  have hvs : ∀ j v, [x][j]? = some v → w.cell? ⟨g, j, none⟩ = some v := fun j v hj => by
    cases j with
    | zero => simp at hj; subst hj; exact hV
    | succ j => simp at hj
  have hkk : (c : Int) + 1 - (i : Int) = ((c + 1 - i : Nat) : Int) := by omega
  have hik : i + (c + 1 - i) = c + 1 := by omega
  obtain ⟨z, hz⟩ : ∃ z : Value, z = (.pointer none) := ⟨_, rfl⟩
  have hzc : z.cells.size = 1 := by rw [hz]; rfl
  rw [← hz] at hz0
  have hold : (Builtin.firstCells i0.size i (.slice (some ⟨G, 0, none⟩) i c)).run Tryz.prog w.drew = .ok (cs.take i).toArray w.drew := by
    rw [hzs]
    exact run_firstCells_some w.drew 1 i ⟨G, 0, none⟩ i c (cs.take i) (by rw [List.length_take]; omega) (fun j v hj => by
      rw [Addr.add_lit, Nat.zero_add]
      rw [List.getElem?_take] at hj
      split at hj
      · exact hcs j v hj
      · cases hj)
  have hrz : ∀ ty, (Builtin.append_ #[92, 3] ty #[.slice (some ⟨G, 0, none⟩) i c, .int .i64 ((c : Int) + 1 - (i : Int))]).run Tryz.prog w =
      .ok (.slice (some ⟨w.heap.size, 0, none⟩) (c + 1) (grownCap w (c + 1) c 71)) (w.drew.alloc (.cells ((cs.take i).toArray ++ Builtin.zeroCells z.cells (c + 1 - i) ++ Builtin.zeroCells z.cells (grownCap w (c + 1) c 71 - (c + 1))) 71)) := fun ty => by
    have h := Lib.run_append_grow_zeros w 92 3 ty 71 i0 _ .i64 .i64 Tryz.underlying92 Tryz.underlying3 hi0 hz0 (some ⟨G, 0, none⟩) i c (cs.take i) hold (c + 1 - i) (by omega) (by omega) (by omega) (by omega) (by rw [hzb]; omega) (by rw [hzb, hik]; exact growslice_fits (by omega) (by omega))
    rw [hik] at h
    rw [hkk]
    exact h
  obtain ⟨K, hK⟩ : ∃ K, K = grownCap w (c + 1) c 71 := ⟨_, rfl⟩
  obtain ⟨ROW, hROW⟩ : ∃ ROW : Array Value, ROW = (cs.take i).toArray ++ Builtin.zeroCells z.cells (c + 1 - i) ++ Builtin.zeroCells z.cells (K - (c + 1)) := ⟨_, rfl⟩
  rw [← hK] at hrz
  rw [← hROW] at hrz
  have hGn : c + 1 ≤ K := by rw [hK]; exact grownCap_ge w _ _ _
  have hGm : K ≤ maxLen := by rw [hK]; exact grownCap_le_maxLen w (c + 1) c 71 (by unfold maxLen; omega)
  have hG63 : K ≤ 9223372036854775807 := by unfold maxLen at hGm; omega
  have hRl : ROW.size = K := by
    rw [hROW]
    simp only [Array.size_append, List.size_toArray, List.length_take, size_zeroCellsB, hzc]
    rw [hcl, Nat.min_eq_left (by omega)]
    omega
  have HRT : Hid (∀ j, j < i → ROW[j]? = cs[j]?) := fun j hj => by
    rw [hROW, Array.append_assoc, Array.getElem?_append_left (by simp only [List.size_toArray, List.length_take]; omega), List.getElem?_toArray, List.getElem?_take_of_lt hj]
  obtain ⟨W1, hW1⟩ : ∃ W1, W1 = w.drew.alloc (.cells ROW 71) := ⟨_, rfl⟩
  rw [← hW1] at hrz
  have hN : ∀ j, j < c + 1 → (W1.cell? ⟨w.heap.size, j, none⟩).isSome = true := fun j hj => by
    rw [hW1, World.cell?_alloc_at (w := w.drew) ROW _ w.heap.size j rfl, Array.getElem?_eq_getElem (by omega)]; rfl
  have hNf : ∀ j, W1.frozen? ⟨w.heap.size, j, none⟩ = false := fun j => by rw [hW1]; exact World.frozen?_alloc_at (w := w.drew) ROW _ w.heap.size j rfl
  have hOb : ∀ j v, w.cell? ⟨G, j, none⟩ = some v → W1.cell? ⟨G, j, none⟩ = some v := fun j v h => by rw [hW1, World.cell?_alloc_past (w := w.drew) _ G j hbw]; exact h
  have hOv : ∀ j v, w.cell? ⟨g, j, none⟩ = some v → W1.cell? ⟨g, j, none⟩ = some v := fun j v h => by rw [hW1, World.cell?_alloc_past (w := w.drew) _ g j hvw]; exact h
  have h1v : ∀ v ∈ [x], v.oneCell' = true := fun v hv => by simp at hv; subst hv; exact h1x
  have hcpA : ∀ (W : World), (∀ x, W.cell? x = W1.cell? x) → (∀ x, W.frozen? x = W1.frozen? x) → ∀ ty dc, (Builtin.copy_ #[92, 92] ty #[.slice (some ⟨w.heap.size, i, none⟩) (c + 1 - i) dc, .slice (some ⟨g, 0, none⟩) 1 1]).run Tryz.prog W = .ok (goInt 1) (W.setCells w.heap.size i [x]) := fun W hWc hWf ty dc =>
    run_copy_cells W _ _ ty 71 w.heap.size i (c + 1 - i) dc ⟨g, 0, none⟩ 1 1 [x] Tryz.underlying92 hsz (by simp only [Nat.min_def, List.length_cons, List.length_nil]; split <;> omega)
      (fun j v hj => by rw [Addr.add_lit, hWc, Nat.zero_add]; exact hOv _ v (hvs j v hj))
      (fun j hj => by rw [hWc]; exact hN _ (by simp at hj; omega)) (fun j hj => by rw [hWf]; exact hNf _) h1v
  have hdl : (cs.drop i).length = c - i := by rw [List.length_drop, hcl]
  have hbN : G ≠ w.heap.size := by omega
  have hcpB : ∀ (W : World), (∀ y, W.cell? y = (W1.setCells w.heap.size i [x]).cell? y) → (∀ y, W.frozen? y = (W1.setCells w.heap.size i [x]).frozen? y) → ∀ ty dc sc, (Builtin.copy_ #[92, 92] ty #[.slice (some ⟨w.heap.size, i + 1, none⟩) (c + 1 - (i + 1)) dc, .slice (some ⟨G, i, none⟩) (c - i) sc]).run Tryz.prog W = .ok (goInt ((c - i : Nat) : Int)) (W.setCells w.heap.size (i + 1) (cs.drop i)) := fun W hWc hWf ty dc sc => by
    have h := run_copy_cells W 92 92 ty 71 w.heap.size (i + 1) (c + 1 - (i + 1)) dc ⟨G, i, none⟩ (c - i) sc (cs.drop i) Tryz.underlying92 hsz (by rw [hdl]; simp only [Nat.min_def]; split <;> omega)
      (fun j v hj => by
        rw [Addr.add_lit, hWc, World.cell?_setCells_out _ _ _ _ _ (fun h _ => absurd h hbN)]
        exact hOb _ v (hcs (i + j) v (by rwa [List.getElem?_drop] at hj)))
      (fun j hj => by rw [hWc]; exact isSome_setCells _ _ _ _ (fun t ht => hN _ (by simp at ht; omega)) _ (hN _ (by omega)))
      (fun j hj => by rw [hWf, World.frozen?_setCells]; exact hNf _) (fun v hv => h1c v (List.mem_of_mem_drop hv))
    rw [hdl] at h
    exact h
  subst hW1
  have hE1 : ∀ x, ((w.alloc (.cells ROW 71)).drew).cell? x = (w.drew.alloc (.cells ROW 71)).cell? x := fun x => rfl
  have hE2 : ∀ x, ((w.alloc (.cells ROW 71)).drew).frozen? x = (w.drew.alloc (.cells ROW 71)).frozen? x := fun x => rfl
  have hF1 : ∀ y, (((w.alloc (.cells ROW 71)).drew.setCells w.heap.size i [x]).drew).cell? y = ((w.drew.alloc (.cells ROW 71)).setCells w.heap.size i [x]).cell? y := fun y => rfl
  have hF2 : ∀ y, (((w.alloc (.cells ROW 71)).drew.setCells w.heap.size i [x]).drew).frozen? y = ((w.drew.alloc (.cells ROW 71)).setCells w.heap.size i [x]).frozen? y := fun y => rfl
  have HRL : Hid (ROW.size = K ∧ c + 1 ≤ K ∧ K ≤ maxLen) := ⟨hRl, hGn, hGm⟩
  have hz2 : ¬ ((i : Int) = (c : Int)) := by omega
  have hGi : ¬ (K = i) := by omega
  have hGim : ¬ (K = i + 1) := by omega
  have hci : ¬ (c = i) := by omega
  have hb3 : (i : Int) ≤ (c : Int) := by omega
  have hi9 : i ≤ 9223372036854775807 := by omega
  have hb1 : (0 : Int) ≤ (i : Int) + 1 := by omega
  have htn : ((i : Int) + 1).toNat = i + 1 := by omega
  have hb4 : (i : Int) + 1 ≤ (c : Int) + 1 := by omega
  have hin : i ≤ c := by omega
  have hw2 : IntKind.i64.wrap ((i : Int) + 1) = (i : Int) + 1 := by rw [IntKind.wrap_i64]; omega
  have mixed : Tryz.prog.follows Departure.mixedOrders = true := by kernel_rfl
  clear hkk hik hold hROW hK hRl hz hzc hz0 hN hNf hOb hOv hcs hvs hV h1c h1v h1x hdl hcl hGm
  go_enter Tryz.func65, Tryz.ntmps65
  go_wp2_with (first
    | (at_builtin; refine Lib.wpList_append_run _ rfl _ _ _ _ rfl _ _ rfl rfl _ _ (hrz _) ?_)
    | (at_builtin; refine wpList_copy_runI _ rfl _ _ 92 92 rfl _ _ rfl rfl (hcpA _ hE1 hE2 _ _) ?_))
  go_region_law_o (refine step_copy_runI rfl _ _ 92 92 rfl (.slice (some ⟨w.heap.size, i + 1, none⟩) (c + 1 - (i + 1)) (K - (i + 1))) (.slice (some ⟨G, i, none⟩) (c - i) (c - i)) (by simp [Act.eval, Act.put]) (by simp [Act.eval, Act.put]) (hcpB _ hF1 hF2 3 (K - (i + 1)) (c - i)) ?_)
  go_wp2
  go_ret
  exact ⟨K, ROW, rfl, HRL.out.2.1, HRL.out.2.2, HRL.out.1, HRT.out, rfl⟩
set_option maxHeartbeats 4000000 in
set_option maxRecDepth 100000 in
theorem insE_shift (b n c i vb kB : Nat) (cs : List Value) (x : Value) (w : World) (hi : i < n) (hroom : n + 1 ≤ c) (hn6 : n ≤ 1000000) (hvb : vb ≠ b) (hcl : cs.length = n)
    (hcs : ∀ j v, cs[j]? = some v → w.cell? ⟨b, j, none⟩ = some v) (hsp : ∀ j, j < n + 1 → (w.cell? ⟨b, j, none⟩).isSome = true) (hfz : ∀ j, w.frozen? ⟨b, j, none⟩ = false)
    (hV : w.heap[vb]? = some (.cells #[x] 71 (0, 0))) (h1c : ∀ v ∈ cs, v.oneCell' = true) (h1x : x.oneCell' = true) (hsb : w.shape? b = some (71, kB)) (hkB : kB ≠ 0) :
    Calls Tryz.prog 65 #[.slice (some ⟨b, 0, none⟩) n c, .int .i64 (i : Int), .slice (some ⟨vb, 0, none⟩) 1 1] w fun e w' =>
      e = .returned (.slice (some ⟨b, 0, none⟩) (n + 1) c) ∧ w' = (w.drew.setCells b (i + 1) (cs.drop i)).setCells b i [x] := by
  obtain ⟨i0, hi0, hz0, hzs, hzb⟩ := info_parts insE_info
  have hsz : (Tryz.prog.info? 71).map (·.size) = some 1 := by rw [hi0]; simp [hzs]
  have hsa : w.shape? vb = some (71, 1) := by unfold World.shape?; rw [hV]; rfl
  have hfa : ∀ j, w.frozen? ⟨vb, j, none⟩ = false := row_freeV hV
  have hvs : ∀ j v, [x][j]? = some v → w.cell? ⟨vb, j, none⟩ = some v := fun j v hj => cells_at hV j v (by simpa using hj)
  have h1v : ∀ v ∈ [x], v.oneCell' = true := fun v hv => by simp at hv; subst hv; exact h1x
  have hov : ∀ lb cb, (callFunc 78 #[.slice (some ⟨vb, 0, none⟩) 1 1, .slice (some ⟨b, i + 1, none⟩) lb cb]).run Tryz.prog w = .ok (.value (.bool false)) w := fun lb cb => by
    rw [run_callFunc_extern Tryz.func78 (by kernel_rfl) (by kernel_rfl) (by kernel_rfl) (e := Extern.SlicesOverlaps.overlaps #[92, 92] #[4]) (by kernel_rfl),
      Lib.run_overlaps_apart w 92 4 71 Tryz.underlying92 1 Tryz.sizeOf71 ⟨vb, 0, none⟩ ⟨b, i + 1, none⟩ 1 1 lb cb hvb 71 71 1 kB hsa hsb hkB (hfa _) (hfa _)]
    rfl
  have hdl : (cs.drop i).length = n - i := by rw [List.length_drop, hcl]
  have mixed : Tryz.prog.follows Departure.mixedOrders = true := by kernel_rfl
  have hz2 : ¬ ((i : Int) = (n : Int)) := by omega
  have hw1 : IntKind.i64.wrap ((i : Int) + 1) = (i : Int) + 1 := by rw [IntKind.wrap_i64]; omega
  have hb1 : (0 : Int) ≤ (i : Int) + 1 := by omega
  have hin : i ≤ n := by omega
  have htn : ((i : Int) + 1).toNat = i + 1 := by omega
  have hb2 : ¬ (c = i + 1) := by omega
  have hb3 : (i : Int) ≤ (n : Int) + 1 := by omega
  have hb5 : (i : Int) + 1 ≤ (n : Int) + 1 := by omega
  have hb4 : ¬ (c = i) := by omega
  have hcp1 : ∀ ty dc sc, (Builtin.copy_ #[92, 92] ty #[.slice (some ⟨b, i + 1, none⟩) (n - i) dc, .slice (some ⟨b, i, none⟩) (n + 1 - i) sc]).run Tryz.prog w.drew = .ok (goInt (cs.drop i).length) (w.drew.setCells b (i + 1) (cs.drop i)) := fun ty dc sc =>
    run_copy_cells w.drew _ _ ty 71 b (i + 1) (n - i) dc ⟨b, i, none⟩ (n + 1 - i) sc (cs.drop i) Tryz.underlying92 hsz (by rw [hdl]; simp only [Nat.min_def]; split <;> omega)
      (fun j v hj => by rw [Addr.add_lit]; exact hcs (i + j) v (by rwa [List.getElem?_drop] at hj))
      (fun j hj => hsp _ (by omega)) (fun j hj => hfz _) (fun v hv => h1c v (List.mem_of_mem_drop hv))
  obtain ⟨W1, hW1⟩ : ∃ W1, W1 = w.drew.setCells b (i + 1) (cs.drop i) := ⟨_, rfl⟩
  have hsp1 : ∀ k, k < n + 1 → (W1.cell? ⟨b, k, none⟩).isSome = true := fun k hk => by
    rw [hW1]
    exact isSome_setCells b (cs.drop i) (i + 1) w.drew (fun j hj => hsp (i + 1 + j) (by rw [hdl] at hj; omega)) _ (hsp k hk)
  have hcp2 : ∀ (W : World), (∀ x, W.cell? x = W1.cell? x) → (∀ x, W.frozen? x = W1.frozen? x) → ∀ ty dc, (Builtin.copy_ #[92, 92] ty #[.slice (some ⟨b, i, none⟩) (n + 1 - i) dc, .slice (some ⟨vb, 0, none⟩) 1 1]).run Tryz.prog W = .ok (goInt [x].length) (W.setCells b i [x]) := fun W hWc hWf ty dc =>
    run_copy_cells W _ _ ty 71 b i (n + 1 - i) dc ⟨vb, 0, none⟩ 1 1 [x] Tryz.underlying92 hsz (by simp only [Nat.min_def, List.length_cons, List.length_nil]; split <;> omega)
      (fun j v hj => by
        rw [Addr.add_lit, hWc, hW1, World.cell?_setCells_out b _ _ _ _ (fun h _ => absurd h hvb), Nat.zero_add]
        exact hvs j v hj)
      (fun j hj => by rw [hWc]; exact hsp1 _ (by simp at hj; omega)) (fun j hj => by rw [hWf, hW1, World.frozen?_setCells]; exact hfz _) h1v
  rw [← hW1] at hcp1
  have HW1 : Hid (W1 = w.drew.setCells b (i + 1) (cs.drop i)) := hW1
  clear hsa hsb hcs hsp hfz hV hfa hvs h1v h1c h1x hsp1 hW1 hdl
  go_enter Tryz.func65, Tryz.ntmps65
  go_wp2_with (simp only [hov])
  go_region_law_o (refine step_copy_runI rfl _ _ 92 92 rfl (.slice (some ⟨b, i + 1, none⟩) (n - i) (c - (i + 1))) (.slice (some ⟨b, i, none⟩) (n + 1 - i) (c - i)) (by simp [Act.eval, Act.put]) (by simp [Act.eval, Act.put]) (hcp1 _ _ _) ?_)
  go_wp2_with (at_builtin; refine wpList_copy_runI _ rfl _ _ 92 92 rfl _ _ rfl rfl (hcp2 _ (fun _ => rfl) (fun _ => rfl) _ _) ?_)
  go_ret
  exact ⟨rfl, by rw [HW1.out]⟩
theorem insE_c (n i vb : Nat) (L : List Value) (x v : Value) (w : World) (hO : w.ownsRow 0 71 1 v n L) (hi : i ≤ n) (hn : n ≤ 1000000) (hV : w.heap[vb]? = some (.cells #[x] 71 (0, 0))) (hne : v.ownBlock ≠ some vb) (h1 : ∀ u ∈ L, u.oneCell' = true) (hx : x.oneCell' = true) :
    Calls Tryz.prog 65 #[v, .int .i64 (i : Int), .slice (some ⟨vb, 0, none⟩) 1 1] w fun e w' => ∃ v', e = .returned v' ∧ w'.ownsRow 0 71 1 v' (n + 1) (L.take i ++ x :: L.drop i) ∧ w.grownBy w' v.ownBlock ∧ (v'.ownBlock = v.ownBlock ∨ v'.ownBlock = some w.heap.size) := by
  have hL : L.length = n := by have := hO.1; omega
  by_cases hin : i = n
  · subst hin
    refine (insE_end i vb L x v w hO hn hV hx).mono ?_
    rintro e w' ⟨v', rfl, h1, h2⟩
    refine ⟨v', rfl, ?_, h2⟩
    rw [List.take_of_length_le (by omega), List.drop_of_length_le (by omega)]
    exact h1
  · rcases hO.2 with ⟨rfl, rfl⟩ | ⟨g, cap, cur, rfl, _, hc, hcap, hmx, hcs, htk⟩
    · omega
    · rw [Nat.mul_one] at hcs htk
      have hget : ∀ j, j < n → cur[j]? = L[j]? := fun j hj => by
        rw [← htk, List.getElem?_take_of_lt hj, Array.getElem?_toList]
      have hcell : ∀ j u, L[j]? = some u → w.cell? ⟨g, j, none⟩ = some u := fun j u hj => cells_at hc j u (by rw [hget j (by have := (List.getElem?_eq_some_iff.1 hj).1; omega)]; exact hj)
      have hdl : (L.drop i).length = n - i := by rw [List.length_drop, hL]
      by_cases hroom : cap < n + 1
      · refine (insE_grow g n cap i vb L x w (by omega) hn hcap hroom hL hcell (cells_at hV 0 _ rfl) h1 hx).mono ?_
        rintro e w' ⟨cap', ROW, rfl, k1, k2, k3, k4, rfl⟩
        refine ⟨_, rfl, ⟨by simp [hL]; omega, .inr ⟨w.heap.size, cap', putAll (putAll ROW i [x]) (i + 1) (L.drop i), rfl, Nat.zero_le _, ?_, k1, k2, by rw [putAll_size, putAll_size, k3, Nat.mul_one], ?_⟩⟩, ?_, .inr rfl⟩
        · exact heap_setCells_put _ _ _ _ _ _ (heap_setCells_put _ _ _ _ (w.alloc (.cells ROW 71)).drew _ (heap_alloc_new w _))
        · rw [Nat.mul_one]
          refine take_ins hL (by omega) (fun j hj => ?_) ?_ (fun j hj1 hj2 => ?_)
          · rw [putAll_other _ _ _ _ (.inl (by omega)), putAll_other _ _ _ _ (.inl (by omega))]; exact k4 j hj
          · rw [putAll_other _ _ _ _ (.inl (by omega))]
            exact putAll_at [x] ROW i 0 x (by simp; omega) rfl
          · have := putAll_at (L.drop i) (putAll ROW i [x]) (i + 1) (j - i) (L[j]'(by omega)) (by rw [putAll_size, hdl]; omega) (by rw [List.getElem?_drop, show i + (j - i) = j by omega]; exact List.getElem?_eq_getElem _)
            rw [show i + 1 + (j - i) = j + 1 by omega] at this
            rw [this]
            exact (List.getElem?_eq_getElem _).symm
        · have b1 : Below w.heap.size w ((((w.alloc (.cells ROW 71)).drew.setCells w.heap.size i [x]).drew).setCells w.heap.size (i + 1) (L.drop i)) := below_setCellsV (Nat.le_refl _) _ _ (Below.drew (below_setCellsV (Nat.le_refl _) _ _ (Below.drew (below_new w _))))
          exact ⟨b1.os, b1.tape, b1.output, b1.size, fun k hk _ => b1.block k hk⟩
      · refine (insE_shift g n cap i vb cur.size L x w (by omega) (by omega) hn (fun e => hne (by rw [e]; rfl)) hL hcell (fun j hj => ?_) (row_freeV hc) hV h1 hx (by unfold World.shape?; rw [hc]) (by omega)).mono ?_
        · simp [World.cell?, hc]
          omega
        · rintro e w' ⟨rfl, rfl⟩
          refine ⟨_, rfl, ⟨by simp [hL]; omega, .inr ⟨g, cap, putAll (putAll cur (i + 1) (L.drop i)) i [x], rfl, Nat.zero_le _, ?_, by omega, hmx, by rw [putAll_size, putAll_size, hcs, Nat.mul_one], ?_⟩⟩, ?_, .inl rfl⟩
          · exact heap_setCells_put _ _ _ _ _ _ (heap_setCells_put _ _ _ _ w.drew _ hc)
          · rw [Nat.mul_one]
            refine take_ins hL (by omega) (fun j hj => ?_) ?_ (fun j hj1 hj2 => ?_)
            · rw [putAll_other _ _ _ _ (.inl (by omega)), putAll_other _ _ _ _ (.inl (by omega))]; exact hget j (by omega)
            · exact putAll_at [x] _ i 0 x (by rw [putAll_size]; simp; omega) rfl
            · rw [putAll_other _ _ _ _ (.inr (by simp; omega))]
              have := putAll_at (L.drop i) cur (i + 1) (j - i) (L[j]'(by omega)) (by rw [hdl]; omega) (by rw [List.getElem?_drop, show i + (j - i) = j by omega]; exact List.getElem?_eq_getElem _)
              rw [show i + 1 + (j - i) = j + 1 by omega] at this
              rw [this]
              exact (List.getElem?_eq_getElem _).symm
          · have g1 := grown_setCells (W := w.drew) (g := g) (L.drop i) (i + 1)
            have g2 := grown_setCells (W := w.drew.setCells g (i + 1) (L.drop i)) (g := g) [x] i
            exact ⟨g2.os.trans g1.os, g2.tape.trans g1.tape, g2.output.trans g1.output, Nat.le_trans g1.size g2.size, fun k hk hkg => (g2.block k (Nat.lt_of_lt_of_le hk g1.size) hkg).trans (g1.block k hk hkg)⟩
end Go.Proofs.YtkigenldiinioaaGreatDoor
