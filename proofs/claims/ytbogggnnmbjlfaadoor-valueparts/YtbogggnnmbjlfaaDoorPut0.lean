/- Put of a field into a struct that has none, walked. -/
import Derived.Test.YtbogggnnmbjlfaaDoorInsert0
import Derived.Deep.CutRange
namespace Go.Proofs.YtbogggnnmbjlfaaDoor
open Go.RowKit
open Vl (V)
/-- where Put's own variables lie: the name, x, the answer, the clone -/
structure PS (w W : World) (G : Nat) (name : ByteArray) (x0 x1 x2 x3 x4 x5 : Value) : Prop where
  below : Below w.heap.size w W
  name : W.cell? ⟨w.heap.size + 1, 0, none⟩ = some (.string name)
  x : Row6 W (w.heap.size + 1 + 1) x0 x1 x2 x3 x4 x5
  res : Z6 W (w.heap.size + 1 + 1 + 1)
  out : Row6 W G (.int .u8 6) (.bool false) (.int .i64 0) (.string ⟨#[]⟩) (.slice none 0 0) (.slice none 0 0)
  late : w.heap.size + 4 ≤ G
theorem PS.call {w W W' : World} {G : Nat} {name : ByteArray} {x0 x1 x2 x3 x4 x5 : Value} (h : PS w W G name x0 x1 x2 x3 x4 x5) (hb : Below W.heap.size W W') : PS w W' G name x0 x1 x2 x3 x4 x5 :=
  ⟨h.below.trans (hb.mono h.below.size), (hb.cell (p := ⟨w.heap.size + 1, 0, none⟩) (by have := h.x.1; show w.heap.size + 1 < _; omega)).trans h.name, h.x.call hb, h.res.call hb, h.out.call hb, h.late⟩
theorem PS.name_lt {w W : World} {G : Nat} {name : ByteArray} {x0 x1 x2 x3 x4 x5 : Value} (h : PS w W G name x0 x1 x2 x3 x4 x5) : w.heap.size + 1 < W.heap.size := by have := h.x.1; omega
def t0 : V := ⟨6, false, 0, ⟨#[]⟩, [], []⟩
def v0 : Value := .agg #[.int .u8 6, .bool false, .int .i64 0, .string ⟨#[]⟩, .slice none 0 0, .slice none 0 0]
theorem rep0 (w : World) (H : Nat) : Rep w H t0 v0 := by
  rw [t0, Rep]
  exact ⟨none, 0, none, 0, rfl, by omega, by omega, by decide, by decide, by decide, fun h => by simp at h, fun h => by simp at h⟩
theorem small0 : Vl.small t0 := by
  rw [t0, Vl.small, Vl.smallL, Vl.smallF]
  exact ⟨by decide, by decide, by decide, trivial, trivial⟩
theorem clone0 (w : World) : Calls Tryd.prog 31 #[.agg #[.int .u8 6, .bool false, .int .i64 0, .string ⟨#[]⟩, .slice none 0 0, .slice none 0 0]] w fun e w' => e = .returned (.agg #[.int .u8 6, .bool false, .int .i64 0, .string ⟨#[]⟩, .slice none 0 0, .slice none 0 0]) ∧ Below w.heap.size w w' := by
  refine (clone34 _ t0 (Nat.le_refl _) small0 w 0 v0 (by omega) (rep0 w 0)).mono ?_
  rintro e w' ⟨v', M, rfl, hb, hc⟩
  obtain ⟨ao, lc, fo, fc, rfl, _, _, _, _, _, h6, h7⟩ := hc
  refine ⟨?_, hb⟩
  rcases h6 with ⟨_, rfl, rfl⟩ | ⟨h, _⟩
  · rcases h7 with ⟨_, rfl, rfl⟩ | ⟨h, _⟩
    · rfl
    · simp at h
  · simp at h
theorem find0 (n : Nat) (hn : n = 63 ∨ n = 35) (name : ByteArray) (P : Nat) (w : World) (hP : P < w.heap.size) (hp : w.cell? ⟨P, 0, none⟩ = some (.string name)) :
    Calls Tryd.prog 33 #[.slice none 0 0, .func (.func n) #[] #[.pointer (some ⟨P, 0, none⟩)]] w fun e w' => e = .returned (.int .i64 0) ∧ Below w.heap.size w w' := by
  rcases hn with rfl | rfl
  · exact find35_53 name P [] none 0 w 0 (by omega) ⟨by simp [maxLen], fun h => by simp at h⟩ hP hp
  · exact find35_37 name P [] none 0 w 0 (by omega) ⟨by simp [maxLen], fun h => by simp at h⟩ hP hp
theorem drew_new (w : World) (o : Obj) : Below w.heap.size w (w.drew.alloc o) := (Below.refl _ _).drew.alloc (Nat.le_refl _) _
theorem drew_row7 (w : World) (v0 v1 v2 v3 v4 v5 v6 : Value) : Row7 (w.drew.alloc (.cells #[v0, v1, v2, v3, v4, v5, v6] 39)) w.heap.size v0 v1 v2 v3 v4 v5 v6 :=
  ⟨by have : (w.drew.alloc (.cells #[v0, v1, v2, v3, v4, v5, v6] 39)).heap.size = w.drew.heap.size + 1 := by simp
      have h : w.drew.heap.size = w.heap.size := rfl
      omega, heap_alloc_new w.drew _⟩
theorem drew_name (w : World) (name : ByteArray) : w.heap.size < (w.drew.alloc (.cells #[.string name] 9)).heap.size ∧ (w.drew.alloc (.cells #[.string name] 9)).cell? ⟨w.heap.size, 0, none⟩ = some (.string name) :=
  ⟨by have : (w.drew.alloc (.cells #[.string name] 9)).heap.size = w.drew.heap.size + 1 := by simp
      have h : w.drew.heap.size = w.heap.size := rfl
      omega, (cell_of_row _ w.drew.heap.size 0 _ _ _ (heap_alloc_new w.drew (.cells #[.string name] 9))).trans rfl⟩
/-- a row of one field that was laid -/
theorem own_one {w : World} {B : Nat} {v : Value} {L : List Value} (hL : L.length = 7) (h : w.ownsRow B 39 7 v 1 L) : ∃ g cap, v = .slice (some ⟨g, 0, none⟩) 1 cap ∧ B ≤ g ∧ g < w.heap.size ∧ ∀ (j : Nat) (u : Value), L[j]? = some u → w.cell? ⟨g, j, none⟩ = some u := by
  rcases h.2 with ⟨_, h1⟩ | ⟨g, cap, cur, rfl, hb, hrow, _, _, _, htk⟩
  · omega
  · refine ⟨g, cap, rfl, hb, ?_, fun j u hu => ?_⟩
    · exact (Array.getElem?_eq_some_iff.1 hrow).1
    · rw [cell_of_row _ _ _ _ _ _ hrow]
      have hj : j < 7 := by have := (List.getElem?_eq_some_iff.1 hu).1; omega
      rw [← htk, List.getElem?_take_of_lt (by omega), Array.getElem?_toList] at hu
      exact hu
/-- what Put has made ahead of its answer -/
def PE (w W : World) (G : Nat) (name : ByteArray) (x : V) : Prop :=
  ∃ g cap, Row6 W G (.int .u8 6) (.bool false) (.int .i64 0) (.string ⟨#[]⟩) (.slice none 0 0) (.slice (some ⟨g, 0, none⟩) 1 cap) ∧ Z6 W (w.heap.size + 1 + 1 + 1) ∧ Below w.heap.size w W ∧ w.heap.size + 1 + 1 + 1 < G ∧
    RepA W (fun g => w.heap.size + 1 + 1 + 1 < g ∧ g < W.heap.size) ⟨6, false, 0, ⟨#[]⟩, [], [(name, x)]⟩ (.agg #[.int .u8 6, .bool false, .int .i64 0, .string ⟨#[]⟩, .slice none 0 0, .slice (some ⟨g, 0, none⟩) 1 cap])
theorem PE.mk {w w7 w9 : World} {F G g cap : Nat} {name : ByteArray} (hn : name.size ≤ 140737488351232) {x : V} {x0 x1 x2 x3 x4 x5 z0 z1 z2 z3 z4 z5 : Value} (hS : PS w w9 G name x0 x1 x2 x3 x4 x5) (hb : Below w7.heap.size w7 w9) (hG : G < w7.heap.size) (hF : F < w7.heap.size)
    (hr : RepA w7 (fun g => w.heap.size + 1 + 1 + 1 < g ∧ g ≠ G ∧ g < F) x (.agg #[z0, z1, z2, z3, z4, z5])) (hg : w7.heap.size ≤ g) (hg9 : g < w9.heap.size)
    (hc : ∀ (j : Nat) (u : Value), [.string name, z0, z1, z2, z3, z4, z5][j]? = some u → w9.cell? ⟨g, j, none⟩ = some u) :
    PE w (w9.setCell ⟨G, 5, none⟩ (.slice (some ⟨g, 0, none⟩) 1 cap)) G name x := by
  have hlate := hS.late
  have e : ∀ k, k ≠ G → (w9.setCell ⟨G, 5, none⟩ (.slice (some ⟨g, 0, none⟩) 1 cap)).heap[k]? = w9.heap[k]? := fun k hk => heap_setCell_other _ _ _ _ hk
  have hsz : (w9.setCell ⟨G, 5, none⟩ (.slice (some ⟨g, 0, none⟩) 1 cap)).heap.size = w9.heap.size := by simp
  refine ⟨g, cap, hS.out.set5, hS.res.other _ _ _ (by omega), hS.below.setCell (p := ⟨G, 5, none⟩) (by show w.heap.size ≤ G; omega) _, by omega, ?_⟩
  rw [RepA]
  refine ⟨none, 0, some ⟨g, 0, none⟩, cap, rfl, by omega, by omega, by decide, by decide, by simp [maxLen], fun h => by simp at h, fun _ => ⟨g, 0, rfl, ⟨by omega, by rw [hsz]; exact hg9⟩, ?_⟩⟩
  have hcell : ∀ (j : Nat) (u : Value), [.string name, z0, z1, z2, z3, z4, z5][j]? = some u → (w9.setCell ⟨G, 5, none⟩ (.slice (some ⟨g, 0, none⟩) 1 cap)).cell? ⟨g, j, none⟩ = some u := fun j u hu => (cell_block (e g (by omega))).trans (hc j u hu)
  rw [RepFA, RepFA]
  refine ⟨⟨hcell 0 _ rfl, by unfold maxLen; omega, z0, z1, z2, z3, z4, z5, ⟨hcell 1 _ rfl, hcell 2 _ rfl, hcell 3 _ rfl, hcell 4 _ rfl, hcell 5 _ rfl, hcell 6 _ rfl⟩, ?_⟩, trivial⟩
  exact repA_stays (fun k hk => (e k hk.2.1).trans (hb.block k (by omega))) (fun k hk => ⟨hk.1, by rw [hsz]; have := hb.size; omega⟩) x _ hr
theorem results_row_tmp {P : Program} {fn : Func} {p u : Tmp} {ty : TypeId} (h : fn.results = #[.cell p ty, .tmp u]) (tmps : Array Value) (w : World) (g : Nat) (t : TypeId) (cs : Array Value) (fr : Nat × Nat) (d : TypeDesc)
    (hp : tmps.getD p undef = .pointer (some ⟨g, 0, none⟩)) (hg : w.heap[g]? = some (.cells cs t fr))
    (hu : P.underlying ty = some d) (hd : (match d with | .struct _ | .array _ _ => true | _ => false) = true) (hi : (P.info? ty).map (·.size) = some cs.size) :
    (results fn tmps).run P w = .ok (.tuple #[.agg cs, tmps.getD u undef]) w := by
  rw [results_cell_tmp h, hp]
  simp [asAddr, run_loadVar_row w g t ty cs fr d hg hu hd hi]
end Go.Proofs.YtbogggnnmbjlfaaDoor
