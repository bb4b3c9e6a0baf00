/- The program's leaves and nodes: a text and its digest. -/
import Derived.Test.YtoldfepeldbcpaaDoorMkM
namespace Go.Proofs.YtoldfepeldbcpaaDoor
open Go.RowKit
/-- a text of bytes -/
abbrev bs (l : List UInt8) : ByteArray := ⟨l.toArray⟩
theorem bs_data (s : ByteArray) : bs s.data.toList = s := by cases s; simp [bs]
theorem data_bs (l : List UInt8) : (bs l).data.toList = l := rfl
theorem bs_size (l : List UInt8) : (bs l).size = l.length := by rw [Lib.size_eq]
theorem bs_inj {a b : List UInt8} (h : bs a = bs b) : a = b := by have := congrArg (fun s : ByteArray => s.data.toList) h; simpa using this
theorem bs_app (a b : List UInt8) : bs a ++ bs b = bs (a ++ b) := by
  apply ByteArray.ext
  simp [bs]
theorem size_bytes (s : ByteArray) : s.data.toList.length = s.size := (Lib.size_eq s).symm
/-- a box of two cells -/
def Bx2 (w : World) (B t : Nat) (x0 x1 : Value) (W : World) : Prop := W.heap[B]? = some (.cells #[x0, x1] t (0, 0)) ∧ B < W.heap.size ∧ w.heap.size ≤ B ∧ Below w.heap.size w W
theorem Bx2.start (w : World) (t : Nat) (x0 x1 : Value) : Bx2 w w.heap.size t x0 x1 (w.alloc (.cells #[x0, x1] t)) := ⟨heap_alloc_new w _, by simp, Nat.le_refl _, (Below.refl _ _).alloc (Nat.le_refl _) _⟩
theorem Bx2.call {w W W' : World} {B t : Nat} {x0 x1 : Value} (h : Bx2 w B t x0 x1 W) (hb : Below W.heap.size W W') : Bx2 w B t x0 x1 W' :=
  ⟨(hb.block _ h.2.1).trans h.1, Nat.lt_of_lt_of_le h.2.1 hb.size, h.2.2.1, h.2.2.2.trans (hb.mono (by have := h.2.1; have := h.2.2.1; omega))⟩
theorem Bx2.cells {w W : World} {B t : Nat} {x0 x1 : Value} (h : Bx2 w B t x0 x1 W) : W.cell? ⟨B, 0, none⟩ = some x0 ∧ W.cell? ⟨B, 1, none⟩ = some x1 := by
  refine ⟨?_, ?_⟩ <;> (rw [cell_of_row W _ _ _ t (0, 0) h.1]; rfl)
theorem Bx2.free {w W : World} {B t : Nat} {x0 x1 : Value} (h : Bx2 w B t x0 x1 W) : ∀ j, W.frozen? ⟨B, j, none⟩ = false := row_free h.1
theorem Bx2.set {w W : World} {B t : Nat} {x0 x1 : Value} (h : Bx2 w B t x0 x1 W) (y0 y1 : Value) : Bx2 w B t y0 y1 ((W.setCell ⟨B, 0, none⟩ y0).setCell ⟨B, 1, none⟩ y1) := by
  obtain ⟨h0, k2, k3, k4⟩ := h
  have e : (W.setCell ⟨B, 0, none⟩ y0).setCell ⟨B, 1, none⟩ y1 = W.setCells B 0 #[y0, y1].toList := rfl
  rw [e]
  exact ⟨row_stored h0 _ rfl, by rw [size_setCells']; exact k2, k3, below_setCells k3 _ _ k4⟩
theorem info_made : (Tryd.prog.info? 78).map (·.size) = some 2 := by kernel_rfl
/-- a text and its digest, as the program holds them -/
abbrev mdv (t : List UInt8) : Value := .agg #[.string (bs t), .string (bs (Sh.sum t))]
set_option maxHeartbeats 1000000 in
theorem digested_c (t : List UInt8) (ht : t.length ≤ 1125899906842000) (w : World) (hK : HasK w) :
    Calls Tryd.prog 55 #[.string (bs t)] w fun e w' => e = .returned (mdv t) ∧ Below w.heap.size w w' := by
  obtain ⟨s, hs⟩ : ∃ s : ByteArray, s = bs t := ⟨_, rfl⟩
  obtain ⟨d, hd⟩ : ∃ d : ByteArray, d = bs (Sh.sum t) := ⟨_, rfl⟩
  have C : Hid (∀ W, Below w.heap.size w W → Calls Tryd.prog 10 #[.string s] W fun e w' => e = .returned (.string d) ∧ Below W.heap.size W w') := fun W hW => by
    have hsz : s.size ≤ 1125899906842000 := by rw [hs, bs_size]; exact ht
    have := sum9 s hsz W (hK.below hK.1 hW)
    rw [hs] at this ⊢
    rw [hd]
    exact this
  show Calls Tryd.prog 55 #[.string (bs t)] w fun e w' => e = .returned (.agg #[.string (bs t), .string (bs (Sh.sum t))]) ∧ Below w.heap.size w w'
  rw [← hs, ← hd]
  clear hs hd hK ht
  go_enter Tryd.func55, Tryd.ntmps55
  go_wp2_with fail
  refine (C.out _ ((Below.refl _ _).alloc (Nat.le_refl _) _)).mono ?_
  rintro e w1 ⟨rfl, hb1⟩
  have X : Hid (Bx2 w w.heap.size 78 (.string ⟨#[]⟩) (.string ⟨#[]⟩) w1) := (Bx2.start w _ _ _).call hb1
  obtain ⟨c0, c1⟩ := X.out.cells
  have fz := X.out.free
  have lt : w.heap.size < w1.heap.size := X.out.2.1
  clear hb1
  go_wp2
  have Y := X.out.set (.string s) (.string d)
  exact bodyPost_ret (v := .agg #[.string s, .string d]) (results_cell_row rfl _ _ w.heap.size 78 _ (0, 0) _ rfl Y.1 Tryd.underlying78 rfl (by exact info_made)) rfl ⟨rfl, Y.2.2.2⟩
set_option maxHeartbeats 1000000 in
theorem leaf_c (s : ByteArray) (hs : s.size ≤ 140737488355328) (w : World) (hK : HasK w) :
    Calls Tryd.prog 31 #[.string s] w fun e w' => e = .returned (mdv (Mk.leafT s.data.toList)) ∧ Below w.heap.size w w' := by
  obtain ⟨t, ht⟩ : ∃ t : ByteArray, t = bs (Mk.leafT s.data.toList) := ⟨_, rfl⟩
  obtain ⟨d, hd⟩ : ∃ d : ByteArray, d = bs (Sh.sum (Mk.leafT s.data.toList)) := ⟨_, rfl⟩
  have C : Hid (∀ W, Below w.heap.size w W → Calls Tryd.prog 55 #[.string t] W fun e w' => e = .returned (.agg #[.string t, .string d]) ∧ Below W.heap.size W w') := fun W hW => by
    rw [ht, hd]
    exact digested_c _ (by simp [Mk.leafT]; omega) W (hK.below hK.1 hW)
  have hadd : ∀ W, (Op.stringOp .add ⟨#[0]⟩ s).run Tryd.prog W = .ok (.string t) W := fun W => by
    rw [run_string_add_sum W ⟨#[0]⟩ s (by show 1 + s.size ≤ _; omega), ht]
    congr 2
  show Calls Tryd.prog 31 #[.string s] w fun e w' => e = .returned (.agg #[.string (bs (Mk.leafT s.data.toList)), .string (bs (Sh.sum (Mk.leafT s.data.toList)))]) ∧ Below w.heap.size w w'
  rw [← ht, ← hd]
  clear ht hd hK hs
  go_enter Tryd.func31, Tryd.ntmps31
  go_wp2_with fail
  refine (C.out _ ((Below.refl _ _).alloc (Nat.le_refl _) _)).mono ?_
  rintro e w1 ⟨rfl, hb1⟩
  have X : Hid (Bx2 w w.heap.size 78 (.string ⟨#[]⟩) (.string ⟨#[]⟩) w1) := (Bx2.start w _ _ _).call hb1
  obtain ⟨c0, c1⟩ := X.out.cells
  have fz := X.out.free
  have lt : w.heap.size < w1.heap.size := X.out.2.1
  clear hb1
  go_wp2
  have Y := X.out.set (.string t) (.string d)
  exact bodyPost_ret (v := .agg #[.string t, .string d]) (results_cell_row rfl _ _ w.heap.size 78 _ (0, 0) _ rfl Y.1 Tryd.underlying78 rfl (by exact info_made)) rfl ⟨rfl, Y.2.2.2⟩
set_option maxHeartbeats 1000000 in
theorem node_c (a b : ByteArray) (ha : a.size ≤ 140737488355328) (hb : b.size ≤ 140737488355328) (w : World) (hK : HasK w) :
    Calls Tryd.prog 32 #[.string a, .string b] w fun e w' => e = .returned (mdv (Mk.nodeT a.data.toList b.data.toList)) ∧ Below w.heap.size w w' := by
  obtain ⟨t, ht⟩ : ∃ t : ByteArray, t = bs (Mk.nodeT a.data.toList b.data.toList) := ⟨_, rfl⟩
  obtain ⟨d, hd⟩ : ∃ d : ByteArray, d = bs (Sh.sum (Mk.nodeT a.data.toList b.data.toList)) := ⟨_, rfl⟩
  obtain ⟨x, hx⟩ : ∃ x : ByteArray, x = ⟨#[1]⟩ ++ a := ⟨_, rfl⟩
  have hxs : x.size = 1 + a.size := by rw [hx, ByteArray.size_append]; rfl
  have C : Hid (∀ W, Below w.heap.size w W → Calls Tryd.prog 55 #[.string t] W fun e w' => e = .returned (.agg #[.string t, .string d]) ∧ Below W.heap.size W w') := fun W hW => by
    rw [ht, hd]
    refine digested_c _ ?_ W (hK.below hK.1 hW)
    simp only [Mk.nodeT, List.length_cons, List.length_append, size_bytes]
    omega
  have hadd : ∀ W, (Op.stringOp .add ⟨#[1]⟩ a).run Tryd.prog W = .ok (.string x) W := fun W => by
    rw [run_string_add_sum W ⟨#[1]⟩ a (by show 1 + a.size ≤ _; omega), hx]
  have hadd2 : ∀ W, (Op.stringOp .add x b).run Tryd.prog W = .ok (.string t) W := fun W => by
    rw [run_string_add_sum W x b (by omega), ht, hx]
    congr 2
  show Calls Tryd.prog 32 #[.string a, .string b] w fun e w' => e = .returned (.agg #[.string (bs (Mk.nodeT a.data.toList b.data.toList)), .string (bs (Sh.sum (Mk.nodeT a.data.toList b.data.toList)))]) ∧ Below w.heap.size w w'
  rw [← ht, ← hd]
  clear ht hd hK ha hb hx hxs
  go_enter Tryd.func32, Tryd.ntmps32
  go_wp2_with fail
  refine (C.out _ ((Below.refl _ _).alloc (Nat.le_refl _) _)).mono ?_
  rintro e w1 ⟨rfl, hb1⟩
  have X : Hid (Bx2 w w.heap.size 78 (.string ⟨#[]⟩) (.string ⟨#[]⟩) w1) := (Bx2.start w _ _ _).call hb1
  obtain ⟨c0, c1⟩ := X.out.cells
  have fz := X.out.free
  have lt : w.heap.size < w1.heap.size := X.out.2.1
  clear hb1
  go_wp2
  have Y := X.out.set (.string t) (.string d)
  exact bodyPost_ret (v := .agg #[.string t, .string d]) (results_cell_row rfl _ _ w.heap.size 78 _ (0, 0) _ rfl Y.1 Tryd.underlying78 rfl (by exact info_made)) rfl ⟨rfl, Y.2.2.2⟩
set_option maxHeartbeats 1000000 in
theorem joined_c (d p : ByteArray) (left : Bool) (hd : d.size ≤ 140737488355328) (hp : p.size ≤ 140737488355328) (w : World) (hK : HasK w) :
    Calls Tryd.prog 47 #[.string d, .string p, .bool left] w fun e w' => e = .returned (mdv (Mk.jt d.data.toList p.data.toList left)) ∧ Below w.heap.size w w' := by
  obtain ⟨x, hx⟩ : ∃ x : ByteArray, x = bs (Mk.jt d.data.toList p.data.toList left) := ⟨_, rfl⟩
  obtain ⟨y, hy⟩ : ∃ y : ByteArray, y = bs (Sh.sum (Mk.jt d.data.toList p.data.toList left)) := ⟨_, rfl⟩
  have C : Hid (∀ W, Below w.heap.size w W → if left then Calls Tryd.prog 32 #[.string d, .string p] W fun e w' => e = .returned (.agg #[.string x, .string y]) ∧ Below W.heap.size W w' else Calls Tryd.prog 32 #[.string p, .string d] W fun e w' => e = .returned (.agg #[.string x, .string y]) ∧ Below W.heap.size W w') := fun W hW => by
    rw [hx, hy]
    cases left
    · exact node_c p d hp hd W (hK.below hK.1 hW)
    · exact node_c d p hd hp W (hK.below hK.1 hW)
  show Calls Tryd.prog 47 #[.string d, .string p, .bool left] w fun e w' => e = .returned (.agg #[.string (bs (Mk.jt d.data.toList p.data.toList left)), .string (bs (Sh.sum (Mk.jt d.data.toList p.data.toList left)))]) ∧ Below w.heap.size w w'
  rw [← hx, ← hy]
  clear hx hy hK hd hp
  cases left
  all_goals
    go_enter Tryd.func47, Tryd.ntmps47
    go_wp2_with fail
    refine (C.out _ ((Below.refl _ _).alloc (Nat.le_refl _) _)).mono ?_
    rintro e w1 ⟨rfl, hb1⟩
    have X : Hid (Bx2 w w.heap.size 78 (.string ⟨#[]⟩) (.string ⟨#[]⟩) w1) := (Bx2.start w _ _ _).call hb1
    obtain ⟨c0, c1⟩ := X.out.cells
    have fz := X.out.free
    have lt : w.heap.size < w1.heap.size := X.out.2.1
    clear hb1
    go_wp2
    have Y := X.out.set (.string x) (.string y)
    exact bodyPost_ret (v := .agg #[.string x, .string y]) (results_cell_row rfl _ _ w.heap.size 78 _ (0, 0) _ rfl Y.1 Tryd.underlying78 rfl (by exact info_made)) rfl ⟨rfl, Y.2.2.2⟩
end Go.Proofs.YtoldfepeldbcpaaDoor
