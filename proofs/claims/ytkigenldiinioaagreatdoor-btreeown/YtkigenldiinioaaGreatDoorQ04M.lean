/- Several texts, joined: Count, Cmp, Low, CmpL -/
import Derived.Test.YtkigenldiinioaaGreatDoorQ02M
import Derived.Lib.Strings
import Derived.Lib.Bytealg
import Derived.Deep.RegionWith
/- Count, walked: whatever the value, it answers how many there are in it (as an int wraps), and changes nothing that lay there. -/
namespace Go.Proofs.YtkigenldiinioaaGreatDoor
open Go.RowKit
open Vl (V)
theorem elem23 : Tryz.prog.elem 24 = 27 := by kernel_rfl
theorem elem24 : Tryz.prog.elem 25 = 62 := by kernel_rfl
theorem infoVal : (Tryz.prog.info? 27).map (·.size) = some 6 := by kernel_rfl
theorem info44 : (Tryz.prog.info? 62).map (·.size) = some 7 := by kernel_rfl
theorem size26 (wx : World) : (sizeOf 27).run Tryz.prog wx = .ok 6 wx := by
  cases h : Tryz.prog.info? 27 with
  | none => have := infoVal; simp [h] at this
  | some i =>
    have h1 := infoVal
    rw [h] at h1
    simp only [Option.map_some, Option.some.injEq] at h1
    simp [sizeOf, typeInfo, h, h1]
theorem size44 (wx : World) : (sizeOf 62).run Tryz.prog wx = .ok 7 wx := by
  cases h : Tryz.prog.info? 62 with
  | none => have := info44; simp [h] at this
  | some i =>
    have h1 := info44
    rw [h] at h1
    simp only [Option.map_some, Option.some.injEq] at h1
    simp [sizeOf, typeInfo, h, h1]
theorem index23 (b off len cap k p : Nat) (hk : k < len) (hp : p = off + k * 6) (wx : World) : (Instr.indexAt 24 (.slice (some ⟨b, off, none⟩) len cap) (.int .i64 (k : Int))).run Tryz.prog wx = .ok (.pointer (some ⟨b, p, none⟩)) wx := by
  rw [run_indexAt_slice (P := Tryz.prog) wx 24 _ len cap .i64 k (by rw [elem23]; exact Tryz.underlying24), if_pos ⟨by omega, by omega⟩, elem23, size26]
  simp only [Result.andThen_ok]
  rw [show (k : Int).toNat * 6 = k * 6 by omega, Addr.add_mid, hp]
theorem index24 (b off len cap k p : Nat) (hk : k < len) (hp : p = off + k * 7) (wx : World) : (Instr.indexAt 25 (.slice (some ⟨b, off, none⟩) len cap) (.int .i64 (k : Int))).run Tryz.prog wx = .ok (.pointer (some ⟨b, p, none⟩)) wx := by
  rw [run_indexAt_slice (P := Tryz.prog) wx 25 _ len cap .i64 k (by rw [elem24]; exact Tryz.underlying25), if_pos ⟨by omega, by omega⟩, elem24, size44]
  simp only [Result.andThen_ok]
  rw [show (k : Int).toNat * 7 = k * 7 by omega, Addr.add_mid, hp]
namespace Vl
theorem countL_take (l : List V) (k : Nat) (x : V) (h : l[k]? = some x) : countL (l.take (k + 1)) = countL (l.take k) + count x := by
  induction l generalizing k with
  | nil => simp at h
  | cons y r ih =>
    cases k with
    | zero => simp at h; subst h; simp [countL]
    | succ k =>
      simp only [List.getElem?_cons_succ] at h
      simp only [List.take_succ_cons, countL]
      rw [ih k h]; omega
theorem countF_take (l : List (ByteArray × V)) (k : Nat) (m : ByteArray) (x : V) (h : l[k]? = some (m, x)) : countF (l.take (k + 1)) = countF (l.take k) + count x := by
  induction l generalizing k with
  | nil => simp at h
  | cons y r ih =>
    obtain ⟨m', y⟩ := y
    cases k with
    | zero => simp at h; obtain ⟨rfl, rfl⟩ := h; simp [countF]
    | succ k =>
      simp only [List.getElem?_cons_succ] at h
      simp only [List.take_succ_cons, countF]
      rw [ih k h]; omega
theorem countL_take_le (l : List V) (k : Nat) : countL (l.take k) ≤ countL l := by
  induction l generalizing k with
  | nil => simp
  | cons y r ih =>
    cases k with
    | zero => simp [countL]
    | succ k => simp only [List.take_succ_cons, countL]; have := ih k; omega
theorem countF_take_le (l : List (ByteArray × V)) (k : Nat) : countF (l.take k) ≤ countF l := by
  induction l generalizing k with
  | nil => simp
  | cons y r ih =>
    obtain ⟨m', y⟩ := y
    cases k with
    | zero => simp [countF]
    | succ k => simp only [List.take_succ_cons, countF]; have := ih k; omega
theorem count_partL {k : Nat} {b : Bool} {n : Int} {s : ByteArray} {l : List V} {f : List (ByteArray × V)} {j : Nat} {x : V} (h : l[j]? = some x) : count x < count ⟨k, b, n, s, l, f⟩ := by
  have h1 := countL_take l j x h
  have h2 := countL_take_le l (j + 1)
  rw [count]; omega
theorem count_partF {k : Nat} {b : Bool} {n : Int} {s : ByteArray} {l : List V} {f : List (ByteArray × V)} {j : Nat} {m : ByteArray} {x : V} (h : f[j]? = some (m, x)) : count x < count ⟨k, b, n, s, l, f⟩ := by
  have h1 := countF_take f j m x h
  have h2 := countF_take_le f (j + 1)
  rw [count]; omega
end Vl
theorem wrap_add (a b c : Nat) (h : c = a + b) : wrap64 (wrap64 (a : Int) + wrap64 (b : Int)) = wrap64 (c : Int) := by
  subst h
  unfold wrap64
  omega
theorem maxLen_lt {n : Nat} (h : n ≤ maxLen) : n ≤ 9223372036854775807 := by
  unfold maxLen at h
  omega
theorem below_new (w : World) (o : Obj) : Below w.heap.size w (w.alloc o) := (Below.refl _ _).alloc (Nat.le_refl _) _
end Go.Proofs.YtkigenldiinioaaGreatDoor
/- The library's comparisons of numbers, bools and texts, walked at this program. -/
namespace Go.Proofs.YtkigenldiinioaaGreatDoor
open Go.RowKit
open Vl (V)
set_option maxHeartbeats 1000000 in
set_option maxRecDepth 100000 in
theorem kinds23 (x y : Nat) (w : World) : Calls Tryz.prog 84 #[.int .u8 (x : Int), .int .u8 (y : Int)] w fun e w' => e = .returned (.int .i64 (Lib.compareInt x y)) ∧ w' = w := by
  go_enter Tryz.func84, Tryz.ntmps84
  go_wp2
  all_goals (go_ret; refine ⟨?_, rfl⟩)
  all_goals simp_all [Lib.compareInt]
  all_goals omega
set_option maxHeartbeats 1000000 in
set_option maxRecDepth 100000 in
theorem whole25 (x y : Int) (w : World) : Calls Tryz.prog 86 #[.int .i64 x, .int .i64 y] w fun e w' => e = .returned (.int .i64 (Lib.compareInt x y)) ∧ w' = w := by
  go_enter Tryz.func86, Tryz.ntmps86
  go_wp2
  all_goals (go_ret; refine ⟨?_, rfl⟩)
  all_goals simp_all [Lib.compareInt]
  all_goals omega
set_option maxHeartbeats 1000000 in
set_option maxRecDepth 100000 in
theorem ints47 (x y : Int) (w : World) : Calls Tryz.prog 105 #[.int .i64 x, .int .i64 y] w fun e w' => e = .returned (.int .i64 (Lib.compareInt x y)) ∧ w' = w := by
  go_enter Tryz.func105, Tryz.ntmps105
  go_wp2
  all_goals (go_ret; refine ⟨?_, rfl⟩)
  all_goals simp_all [Lib.compareInt]
  all_goals omega
set_option maxHeartbeats 1000000 in
set_option maxRecDepth 100000 in
theorem bools24 (x y : Bool) (w : World) : Calls Tryz.prog 85 #[.bool x, .bool y] w fun e w' => e = .returned (.int .i64 (Vl.cmpBool x y)) ∧ w' = w := by
  cases x <;> cases y
  all_goals
    go_enter Tryz.func85, Tryz.ntmps85
    go_wp2
    go_ret
    exact ⟨rfl, rfl⟩
set_option maxHeartbeats 1000000 in
set_option maxRecDepth 100000 in
theorem strs46 (a b : ByteArray) (w : World) : Calls Tryz.prog 104 #[.string a, .string b] w fun e w' => e = .returned (.int .i64 (Vl.cmpS a b)) ∧ w' = w := by
  go_enter Tryz.func104, Tryz.ntmps104
  go_wp2
  rw [run_callFunc_extern Tryz.func111 (by kernel_rfl) (by kernel_rfl) (by kernel_rfl) (e := Extern.BytealgCompare.compare) (by kernel_rfl), Lib.run_compareString]
  simp only [Result.andThen]
  rw [Oper.upon_value]
  go_wp2
  go_ret
  exact ⟨rfl, rfl⟩
set_option maxHeartbeats 1000000 in
set_option maxRecDepth 100000 in
theorem strs26 (a b : ByteArray) (w : World) : Calls Tryz.prog 87 #[.string a, .string b] w fun e w' => e = .returned (.int .i64 (Vl.cmpS a b)) ∧ w' = w := by
  go_enter Tryz.func87, Tryz.ntmps87
  go_wp2_with (go_at_call 104; refine (strs46 _ _ _).mono ?_; rintro e w' ⟨rfl, rfl⟩)
  go_ret
  exact ⟨rfl, rfl⟩
end Go.Proofs.YtkigenldiinioaaGreatDoor
/- Plain lemmas of lists of values, and of two boxes. -/
namespace Go.Proofs.YtkigenldiinioaaGreatDoor
open Go.RowKit
open Vl (V)
/-- how a list of values lies, whatever its slice -/
def LiesL (w : World) (H : Nat) (ao : Option Addr) (l : List V) : Prop := l.length ≤ maxLen ∧ (0 < l.length → ∃ g o, ao = some ⟨g, o, none⟩ ∧ g < H ∧ RepL w H g o l)
def LiesF (w : World) (H : Nat) (ao : Option Addr) (l : List (ByteArray × V)) : Prop := l.length ≤ maxLen ∧ (0 < l.length → ∃ g o, ao = some ⟨g, o, none⟩ ∧ g < H ∧ RepF w H g o l)
namespace Vl
theorem count_memL {k : Nat} {b : Bool} {n : Int} {s : ByteArray} {l : List V} {f : List (ByteArray × V)} {x : V} (h : x ∈ l) : count x < count ⟨k, b, n, s, l, f⟩ := by
  obtain ⟨j, h⟩ := List.mem_iff_getElem?.1 h
  exact count_partL h
theorem count_memF {k : Nat} {b : Bool} {n : Int} {s : ByteArray} {l : List V} {f : List (ByteArray × V)} {x : ByteArray × V} (h : x ∈ f) : count x.2 < count ⟨k, b, n, s, l, f⟩ := by
  obtain ⟨j, h⟩ := List.mem_iff_getElem?.1 h
  exact count_partF (m := x.1) h
end Vl
theorem below_new2 (w : World) (o p : Obj) : Below w.heap.size w ((w.alloc o).alloc p) := (below_new w o).trans ((below_new _ p).mono (by simp))
theorem LiesL.stays {w w' : World} {H K : Nat} {ao : Option Addr} {l : List V} (h : LiesL w H ao l) (hb : Below H w w') (hK : H ≤ K) : LiesL w' K ao l :=
  ⟨h.1, fun hp => by
    obtain ⟨g, o, e, hg, hr⟩ := h.2 hp
    exact ⟨g, o, e, by omega, repL_stays hb hK hg l o hr⟩⟩
theorem LiesF.stays {w w' : World} {H K : Nat} {ao : Option Addr} {l : List (ByteArray × V)} (h : LiesF w H ao l) (hb : Below H w w') (hK : H ≤ K) : LiesF w' K ao l :=
  ⟨h.1, fun hp => by
    obtain ⟨g, o, e, hg, hr⟩ := h.2 hp
    exact ⟨g, o, e, by omega, repF_stays hb hK hg l o hr⟩⟩
namespace Vl
def same1 (a b : ByteArray × V) : Bool := decide (a.1 = b.1) && same a.2 b.2
theorem toList_ne {m p : ByteArray} (h : ¬ m = p) : ¬ m.toList = p.toList := fun e => h (by
  rw [Go.ByteArray.toList_eq, Go.ByteArray.toList_eq] at e
  exact Go.WideShapes.bytes_inj e)
theorem sameL_no : ∀ (l r : List V) (j : Nat) (x y : V), l[j]? = some x → r[j]? = some y → same x y = false → sameL l r = false
  | [], _, _, _, _, h, _, _ => by simp at h
  | _ :: _, [], _, _, _, _, h, _ => by simp at h
  | x :: l, y :: r, 0, x', y', h1, h2, h3 => by
    simp only [List.getElem?_cons_zero, Option.some.injEq] at h1 h2
    subst h1; subst h2
    rw [sameL, h3, Bool.false_and]
  | x :: l, y :: r, j + 1, x', y', h1, h2, h3 => by
    rw [sameL, sameL_no l r j x' y' (by simpa using h1) (by simpa using h2) h3, Bool.and_false]
theorem sameL_len : ∀ (l r : List V), l.length ≠ r.length → sameL l r = false
  | [], [], h => by simp at h
  | [], y :: r, _ => by rw [sameL]
  | x :: l, [], _ => by rw [sameL]
  | x :: l, y :: r, h => by rw [sameL, sameL_len l r (by simpa using h), Bool.and_false]
theorem sameL_all : ∀ (l r : List V), l.length = r.length → (∀ (i : Nat) (x y : V), l[i]? = some x → r[i]? = some y → same x y = true) → sameL l r = true
  | [], [], _, _ => by rw [sameL]
  | [], y :: r, h, _ => by simp at h
  | x :: l, [], h, _ => by simp at h
  | x :: l, y :: r, h, h0 => by
    rw [sameL, h0 0 x y rfl rfl, sameL_all l r (by simpa using h) (fun i a b ha hb => h0 (i + 1) a b (by simpa using ha) (by simpa using hb))]
    rfl
theorem sameF_cons (a b : ByteArray × V) (l r : List (ByteArray × V)) : sameF (a :: l) (b :: r) = (same1 a b && sameF l r) := by
  obtain ⟨m, x⟩ := a
  obtain ⟨p, y⟩ := b
  rw [sameF, same1]
theorem sameF_no : ∀ (l r : List (ByteArray × V)) (j : Nat) (x y : ByteArray × V), l[j]? = some x → r[j]? = some y → same1 x y = false → sameF l r = false
  | [], _, _, _, _, h, _, _ => by simp at h
  | _ :: _, [], _, _, _, _, h, _ => by simp at h
  | x :: l, y :: r, 0, x', y', h1, h2, h3 => by
    simp only [List.getElem?_cons_zero, Option.some.injEq] at h1 h2
    subst h1; subst h2
    rw [sameF_cons, h3, Bool.false_and]
  | x :: l, y :: r, j + 1, x', y', h1, h2, h3 => by
    rw [sameF_cons, sameF_no l r j x' y' (by simpa using h1) (by simpa using h2) h3, Bool.and_false]
theorem sameF_len : ∀ (l r : List (ByteArray × V)), l.length ≠ r.length → sameF l r = false
  | [], [], h => by simp at h
  | [], y :: r, _ => by rw [sameF]
  | x :: l, [], _ => by rw [sameF]
  | x :: l, y :: r, h => by rw [sameF_cons, sameF_len l r (by simpa using h), Bool.and_false]
theorem sameF_all : ∀ (l r : List (ByteArray × V)), l.length = r.length → (∀ (i : Nat) (x y : ByteArray × V), l[i]? = some x → r[i]? = some y → same1 x y = true) → sameF l r = true
  | [], [], _, _ => by rw [sameF]
  | [], y :: r, h, _ => by simp at h
  | x :: l, [], h, _ => by simp at h
  | x :: l, y :: r, h, h0 => by
    rw [sameF_cons, h0 0 x y rfl rfl, sameF_all l r (by simpa using h) (fun i a b ha hb => h0 (i + 1) a b (by simpa using ha) (by simpa using hb))]
    rfl
end Vl
theorem boxA (w : World) (A B : Array Value) (t u : TypeId) (i : Nat) (v : Value) (h : A[i]? = some v) : ((w.alloc (.cells A t)).alloc (.cells B u)).cell? ⟨w.heap.size, i, none⟩ = some v := by
  have h1 : ((w.alloc (.cells A t)).alloc (.cells B u)).heap[w.heap.size]? = some (.cells A t (0, 0)) := (Below.heap_alloc _ _ _ (by simp)).trans (heap_alloc_new w _)
  rw [cell_of_row _ _ _ _ _ _ h1]; exact h
theorem boxB (w : World) (A B : Array Value) (t u : TypeId) (i : Nat) (v : Value) (h : B[i]? = some v) : ((w.alloc (.cells A t)).alloc (.cells B u)).cell? ⟨w.heap.size + 1, i, none⟩ = some v := by
  have h1 : ((w.alloc (.cells A t)).alloc (.cells B u)).heap[w.heap.size + 1]? = some (.cells B u (0, 0)) := by
    have := heap_alloc_new (w.alloc (.cells A t)) (.cells B u)
    simpa using this
  rw [cell_of_row _ _ _ _ _ _ h1]; exact h
end Go.Proofs.YtkigenldiinioaaGreatDoor
/- compareLists at values and at fields, walked over whatever the parts' own comparison answers. -/
namespace Go.Proofs.YtkigenldiinioaaGreatDoor
open Go.RowKit
open Vl (V)
namespace Vl
/-- the first two parts that are unlike tell -/
theorem cmpL_prefix : ∀ (l r : List V) (j : Nat) (x y : V), (∀ (i : Nat) (x y : V), i < j → l[i]? = some x → r[i]? = some y → cmp x y = 0) → l[j]? = some x → r[j]? = some y → cmp x y ≠ 0 → cmpL l r = cmp x y
  | [], _, _, _, _, _, h, _, _ => by simp at h
  | _ :: _, [], _, _, _, _, _, h, _ => by simp at h
  | x :: l, y :: r, 0, x', y', _, h1, h2, h3 => by
    simp only [List.getElem?_cons_zero, Option.some.injEq] at h1 h2
    subst h1; subst h2
    rw [cmpL, if_pos h3]
  | x :: l, y :: r, j + 1, x', y', h0, h1, h2, h3 => by
    rw [cmpL, if_neg (by simp [h0 0 x y (by omega) rfl rfl])]
    exact cmpL_prefix l r j x' y' (fun i a b hi ha hb => h0 (i + 1) a b (by omega) (by simpa using ha) (by simpa using hb)) (by simpa using h1) (by simpa using h2) h3
theorem cmpL_all : ∀ (l r : List V), (∀ (i : Nat) (x y : V), l[i]? = some x → r[i]? = some y → cmp x y = 0) → cmpL l r = Lib.compareInt l.length r.length
  | [], [], _ => by rw [cmpL, List.length_nil, int_refl]
  | [], y :: r, _ => by rw [cmpL, List.length_nil, List.length_cons]; simp only [Lib.compareInt]; rw [if_pos (by omega)]
  | x :: l, [], _ => by rw [cmpL, List.length_nil, List.length_cons]; simp only [Lib.compareInt]; rw [if_neg (by omega), if_pos (by omega)]
  | x :: l, y :: r, h => by
    rw [cmpL, if_neg (by simp [h 0 x y rfl rfl]), cmpL_all l r (fun i a b ha hb => h (i + 1) a b (by simpa using ha) (by simpa using hb)), List.length_cons, List.length_cons]
    simp only [Lib.compareInt]
    (repeat' split) <;> omega
end Vl
set_option maxHeartbeats 4000000 in
set_option maxRecDepth 100000 in
theorem lists27 (la lb : List V) (ao bo : Option Addr) (ac bc : Nat) (w : World) (H : Nat) (hH : H ≤ w.heap.size) (hA : LiesL w H ao la) (hB : LiesL w H bo lb)
    (E : ∀ x ∈ la, ∀ y ∈ lb, ∀ (W : World) (va vb : Value), H ≤ W.heap.size → Rep W H x va → Rep W H y vb → Calls Tryz.prog 73 #[va, vb] W fun e w' => e = .returned (.int .i64 (Vl.cmp x y)) ∧ Below W.heap.size W w') :
    Calls Tryz.prog 88 #[.slice ao la.length ac, .slice bo lb.length bc, .func (.func 73) #[] #[]] w fun e w' => e = .returned (.int .i64 (Vl.cmpL la lb)) ∧ Below w.heap.size w w' := by
  have HE : Hid (∀ x ∈ la, ∀ y ∈ lb, ∀ (W : World) (va vb : Value), H ≤ W.heap.size → Rep W H x va → Rep W H y vb → Calls Tryz.prog 73 #[va, vb] W fun e w' => e = .returned (.int .i64 (Vl.cmp x y)) ∧ Below W.heap.size W w') := E
  obtain ⟨na, hna⟩ : ∃ n, n = la.length := ⟨_, rfl⟩
  obtain ⟨nb, hnb⟩ : ∃ n, n = lb.length := ⟨_, rfl⟩
  have h1 := maxLen_lt hA.1
  have h2 := maxLen_lt hB.1
  have HNA : Hid (na = la.length) := hna
  have HNB : Hid (nb = lb.length) := hnb
  have HA : Hid (0 < la.length → ∃ g o, ao = some ⟨g, o, none⟩ ∧ g < H ∧ RepL w H g o la) := hA.2
  have HB : Hid (0 < lb.length → ∃ g o, bo = some ⟨g, o, none⟩ ∧ g < H ∧ RepL w H g o lb) := hB.2
  rw [← hna] at h1 ⊢
  rw [← hnb] at h2 ⊢
  clear E hA hB hna hnb
  go_enter Tryz.func88, Tryz.ntmps88
  go_wp2
  · rename_i hmin
    have hmm : nb ≤ na := by omega
    go_loopw [14] (fun i wr => ∃ j : Nat, j ≤ nb ∧ i = .int .i64 j ∧ Below w.heap.size w wr ∧ ∀ (i : Nat) (x y : V), i < j → la[i]? = some x → lb[i]? = some y → Vl.cmp x y = 0) (fun i _ => nb - (intOf i).toNat)
    case atStart => exact ⟨0, Nat.zero_le _, rfl, Below.refl _ _, fun i x y h => by omega⟩
    case round =>
      obtain ⟨j, hj, rfl, hb, hz⟩ := hrel
      have HZ : Hid (∀ (i : Nat) (x y : V), i < j → la[i]? = some x → lb[i]? = some y → Vl.cmp x y = 0) := hz
      have HBW : Hid (Below w.heap.size w wr) := hb
      by_cases hlt : j < nb
      · have ha : j < la.length := by rw [← HNA.out]; omega
        have hb' : j < lb.length := by rw [← HNB.out]; omega
        have ha' : j < na := by omega
        have hb'' : j < nb := by omega
        obtain ⟨g, o, rfl, hg, hr⟩ := HA.out (by omega)
        obtain ⟨g2, o2, rfl, hg2, hr2⟩ := HB.out (by omega)
        obtain ⟨x, hx⟩ : ∃ x, la[j]? = some x := ⟨_, List.getElem?_eq_getElem ha⟩
        obtain ⟨y, hy⟩ : ∃ y, lb[j]? = some y := ⟨_, List.getElem?_eq_getElem hb'⟩
        obtain ⟨c0, c1, c2, c3, c4, c5, ⟨d0, d1, d2, d3, d4, d5⟩, hrx⟩ := repL_at la o (repL_stays (hb.mono hH) (Nat.le_refl _) hg la o hr) j x hx
        obtain ⟨b0, b1, b2, b3, b4, b5, ⟨e0, e1, e2, e3, e4, e5⟩, hry⟩ := repL_at lb o2 (repL_stays (hb.mono hH) (Nat.le_refl _) hg2 lb o2 hr2) j y hy
        obtain ⟨c, hc⟩ : ∃ c, c = Vl.cmp x y := ⟨_, rfl⟩
        have HC : Hid (c = Vl.cmp x y) := hc
        have C10 : Hid (∀ W, Below wr.heap.size wr W → Calls Tryz.prog 73 #[.agg #[c0, c1, c2, c3, c4, c5], .agg #[b0, b1, b2, b3, b4, b5]] W fun e w' => e = .returned (.int .i64 c) ∧ Below W.heap.size W w') := fun W hW => by
          rw [hc]
          exact HE.out x (List.mem_of_getElem? hx) y (List.mem_of_getElem? hy) W _ _ (by have := hW.size; have := hb.size; omega) (rep_stays (hW.mono (by have := hb.size; omega)) (Nat.le_refl _) x _ hrx) (rep_stays (hW.mono (by have := hb.size; omega)) (Nat.le_refl _) y _ hry)
        have HX : Hid (la[j]? = some x) := hx
        have HY : Hid (lb[j]? = some y) := hy
        clear hrx hry hr hr2 HA HB hx hy hc hb hz ha hb'
        go_wp2
        go_region_with (first | (go_at_call 73; refine (C10.out _ (Below.refl _ _).drew).mono ?_; rintro e w3 ⟨rfl, hb3⟩))
        all_goals
          have HB3 : Hid (Below w.heap.size w w3) := HBW.out.trans (((Below.refl _ _).drew.trans hb3).mono HBW.out.size)
          clear hb3 d0 d1 d2 d3 d4 d5 e0 e1 e2 e3 e4 e5
          by_cases hc0 : c = 0
          · subst hc0
            go_wp2
            go_roundw
            case rel =>
              refine ⟨j + 1, by omega, by go_num, HB3.out, fun i x' y' hi hx' hy' => ?_⟩
              by_cases hij : i < j
              · exact HZ.out i x' y' hij hx' hy'
              · have hij' : i = j := by omega
                subst hij'
                have h1 := HX.out
                have h2 := HY.out
                rw [hx'] at h1
                rw [hy'] at h2
                cases h1; cases h2
                exact HC.out.symm
            case measure => simp [intOf]; omega
          · go_wp2
            exact ⟨rfl, _, results_tmp (by rfl) _ _ _, by rw [Vl.cmpL_prefix la lb j x y HZ.out HX.out HY.out (by rw [← HC.out]; exact hc0), ← HC.out]; rfl, HB3.out⟩
      · have hall : Vl.cmpL la lb = Lib.compareInt na nb := by
          rw [HNA.out, HNB.out]
          refine Vl.cmpL_all la lb fun i x y hx hy => HZ.out i x y ?_ hx hy
          have h1 := (List.getElem?_eq_some_iff.1 hx).1
          have h2 := (List.getElem?_eq_some_iff.1 hy).1
          rw [← HNA.out] at h1
          rw [← HNB.out] at h2
          omega
        have HALL : Hid (Vl.cmpL la lb = Lib.compareInt na nb) := hall
        clear hall
        go_wp2_with (go_at_call 105; refine (ints47 _ _ _).mono ?_; rintro e w' ⟨rfl, rfl⟩)
        exact ⟨rfl, _, results_tmp (by rfl) _ _ _, by rw [HALL.out]; rfl, HBW.out⟩
  · rename_i hmin
    have hmm : na ≤ nb := by omega
    go_loopw [14] (fun i wr => ∃ j : Nat, j ≤ na ∧ i = .int .i64 j ∧ Below w.heap.size w wr ∧ ∀ (i : Nat) (x y : V), i < j → la[i]? = some x → lb[i]? = some y → Vl.cmp x y = 0) (fun i _ => na - (intOf i).toNat)
    case atStart => exact ⟨0, Nat.zero_le _, rfl, Below.refl _ _, fun i x y h => by omega⟩
    case round =>
      obtain ⟨j, hj, rfl, hb, hz⟩ := hrel
      have HZ : Hid (∀ (i : Nat) (x y : V), i < j → la[i]? = some x → lb[i]? = some y → Vl.cmp x y = 0) := hz
      have HBW : Hid (Below w.heap.size w wr) := hb
      by_cases hlt : j < na
      · have ha : j < la.length := by rw [← HNA.out]; omega
        have hb' : j < lb.length := by rw [← HNB.out]; omega
        have ha' : j < na := by omega
        have hb'' : j < nb := by omega
        obtain ⟨g, o, rfl, hg, hr⟩ := HA.out (by omega)
        obtain ⟨g2, o2, rfl, hg2, hr2⟩ := HB.out (by omega)
        obtain ⟨x, hx⟩ : ∃ x, la[j]? = some x := ⟨_, List.getElem?_eq_getElem ha⟩
        obtain ⟨y, hy⟩ : ∃ y, lb[j]? = some y := ⟨_, List.getElem?_eq_getElem hb'⟩
        obtain ⟨c0, c1, c2, c3, c4, c5, ⟨d0, d1, d2, d3, d4, d5⟩, hrx⟩ := repL_at la o (repL_stays (hb.mono hH) (Nat.le_refl _) hg la o hr) j x hx
        obtain ⟨b0, b1, b2, b3, b4, b5, ⟨e0, e1, e2, e3, e4, e5⟩, hry⟩ := repL_at lb o2 (repL_stays (hb.mono hH) (Nat.le_refl _) hg2 lb o2 hr2) j y hy
        obtain ⟨c, hc⟩ : ∃ c, c = Vl.cmp x y := ⟨_, rfl⟩
        have HC : Hid (c = Vl.cmp x y) := hc
        have C10 : Hid (∀ W, Below wr.heap.size wr W → Calls Tryz.prog 73 #[.agg #[c0, c1, c2, c3, c4, c5], .agg #[b0, b1, b2, b3, b4, b5]] W fun e w' => e = .returned (.int .i64 c) ∧ Below W.heap.size W w') := fun W hW => by
          rw [hc]
          exact HE.out x (List.mem_of_getElem? hx) y (List.mem_of_getElem? hy) W _ _ (by have := hW.size; have := hb.size; omega) (rep_stays (hW.mono (by have := hb.size; omega)) (Nat.le_refl _) x _ hrx) (rep_stays (hW.mono (by have := hb.size; omega)) (Nat.le_refl _) y _ hry)
        have HX : Hid (la[j]? = some x) := hx
        have HY : Hid (lb[j]? = some y) := hy
        clear hrx hry hr hr2 HA HB hx hy hc hb hz ha hb'
        go_wp2
        go_region_with (first | (go_at_call 73; refine (C10.out _ (Below.refl _ _).drew).mono ?_; rintro e w3 ⟨rfl, hb3⟩))
        all_goals
          have HB3 : Hid (Below w.heap.size w w3) := HBW.out.trans (((Below.refl _ _).drew.trans hb3).mono HBW.out.size)
          clear hb3 d0 d1 d2 d3 d4 d5 e0 e1 e2 e3 e4 e5
          by_cases hc0 : c = 0
          · subst hc0
            go_wp2
            go_roundw
            case rel =>
              refine ⟨j + 1, by omega, by go_num, HB3.out, fun i x' y' hi hx' hy' => ?_⟩
              by_cases hij : i < j
              · exact HZ.out i x' y' hij hx' hy'
              · have hij' : i = j := by omega
                subst hij'
                have h1 := HX.out
                have h2 := HY.out
                rw [hx'] at h1
                rw [hy'] at h2
                cases h1; cases h2
                exact HC.out.symm
            case measure => simp [intOf]; omega
          · go_wp2
            exact ⟨rfl, _, results_tmp (by rfl) _ _ _, by rw [Vl.cmpL_prefix la lb j x y HZ.out HX.out HY.out (by rw [← HC.out]; exact hc0), ← HC.out]; rfl, HB3.out⟩
      · have hall : Vl.cmpL la lb = Lib.compareInt na nb := by
          rw [HNA.out, HNB.out]
          refine Vl.cmpL_all la lb fun i x y hx hy => HZ.out i x y ?_ hx hy
          have h1 := (List.getElem?_eq_some_iff.1 hx).1
          have h2 := (List.getElem?_eq_some_iff.1 hy).1
          rw [← HNA.out] at h1
          rw [← HNB.out] at h2
          omega
        have HALL : Hid (Vl.cmpL la lb = Lib.compareInt na nb) := hall
        clear hall
        go_wp2_with (go_at_call 105; refine (ints47 _ _ _).mono ?_; rintro e w' ⟨rfl, rfl⟩)
        exact ⟨rfl, _, results_tmp (by rfl) _ _ _, by rw [HALL.out]; rfl, HBW.out⟩
end Go.Proofs.YtkigenldiinioaaGreatDoor
