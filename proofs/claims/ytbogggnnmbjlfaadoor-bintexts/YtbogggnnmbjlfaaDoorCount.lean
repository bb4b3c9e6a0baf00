/- Count, walked: whatever the value, it answers how many there are in it (as an int wraps), and changes nothing that lay there. -/
import Derived.Test.YtbogggnnmbjlfaaDoorRep
namespace Go.Proofs.YtbogggnnmbjlfaaDoor
open Go.RowKit
open Vl (V)
theorem elem23 : Tryd.prog.elem 23 = 26 := by kernel_rfl
theorem elem24 : Tryd.prog.elem 24 = 39 := by kernel_rfl
theorem info26 : (Tryd.prog.info? 26).map (·.size) = some 6 := by kernel_rfl
theorem info44 : (Tryd.prog.info? 39).map (·.size) = some 7 := by kernel_rfl
theorem size26 (wx : World) : (sizeOf 26).run Tryd.prog wx = .ok 6 wx := by
  cases h : Tryd.prog.info? 26 with
  | none => have := info26; simp [h] at this
  | some i =>
    have h1 := info26
    rw [h] at h1
    simp only [Option.map_some, Option.some.injEq] at h1
    simp [sizeOf, typeInfo, h, h1]
theorem size44 (wx : World) : (sizeOf 39).run Tryd.prog wx = .ok 7 wx := by
  cases h : Tryd.prog.info? 39 with
  | none => have := info44; simp [h] at this
  | some i =>
    have h1 := info44
    rw [h] at h1
    simp only [Option.map_some, Option.some.injEq] at h1
    simp [sizeOf, typeInfo, h, h1]
theorem index23 (b off len cap k p : Nat) (hk : k < len) (hp : p = off + k * 6) (wx : World) : (Instr.indexAt 23 (.slice (some ⟨b, off, none⟩) len cap) (.int .i64 (k : Int))).run Tryd.prog wx = .ok (.pointer (some ⟨b, p, none⟩)) wx := by
  rw [run_indexAt_slice (P := Tryd.prog) wx 23 _ len cap .i64 k (by rw [elem23]; exact Tryd.underlying23), if_pos ⟨by omega, by omega⟩, elem23, size26]
  simp only [Result.andThen_ok]
  rw [show (k : Int).toNat * 6 = k * 6 by omega, Addr.add_mid, hp]
theorem index24 (b off len cap k p : Nat) (hk : k < len) (hp : p = off + k * 7) (wx : World) : (Instr.indexAt 24 (.slice (some ⟨b, off, none⟩) len cap) (.int .i64 (k : Int))).run Tryd.prog wx = .ok (.pointer (some ⟨b, p, none⟩)) wx := by
  rw [run_indexAt_slice (P := Tryd.prog) wx 24 _ len cap .i64 k (by rw [elem24]; exact Tryd.underlying24), if_pos ⟨by omega, by omega⟩, elem24, size44]
  simp only [Result.andThen_ok]
  rw [show (k : Int).toNat * 7 = k * 7 by omega, Addr.add_mid, hp]
namespace Vl
theorem countL_take (l : List V) (k : Nat) (x : V) (h : l[k]? = some x) : countL (l.take (k + 1)) = countL (l.take k) + count x := by
  induction l generalizing k with
  | nil => simp at h
  | cons y r ih =>
    cases k with
    | zero => simp at h; subst h; simp [countL]
    | succ k =>
      simp only [List.getElem?_cons_succ] at h
      simp only [List.take_succ_cons, countL]
      rw [ih k h]; omega
theorem countF_take (l : List (ByteArray × V)) (k : Nat) (m : ByteArray) (x : V) (h : l[k]? = some (m, x)) : countF (l.take (k + 1)) = countF (l.take k) + count x := by
  induction l generalizing k with
  | nil => simp at h
  | cons y r ih =>
    obtain ⟨m', y⟩ := y
    cases k with
    | zero => simp at h; obtain ⟨rfl, rfl⟩ := h; simp [countF]
    | succ k =>
      simp only [List.getElem?_cons_succ] at h
      simp only [List.take_succ_cons, countF]
      rw [ih k h]; omega
theorem countL_take_le (l : List V) (k : Nat) : countL (l.take k) ≤ countL l := by
  induction l generalizing k with
  | nil => simp
  | cons y r ih =>
    cases k with
    | zero => simp [countL]
    | succ k => simp only [List.take_succ_cons, countL]; have := ih k; omega
theorem countF_take_le (l : List (ByteArray × V)) (k : Nat) : countF (l.take k) ≤ countF l := by
  induction l generalizing k with
  | nil => simp
  | cons y r ih =>
    obtain ⟨m', y⟩ := y
    cases k with
    | zero => simp [countF]
    | succ k => simp only [List.take_succ_cons, countF]; have := ih k; omega
theorem count_partL {k : Nat} {b : Bool} {n : Int} {s : ByteArray} {l : List V} {f : List (ByteArray × V)} {j : Nat} {x : V} (h : l[j]? = some x) : count x < count ⟨k, b, n, s, l, f⟩ := by
  have h1 := countL_take l j x h
  have h2 := countL_take_le l (j + 1)
  rw [count]; omega
theorem count_partF {k : Nat} {b : Bool} {n : Int} {s : ByteArray} {l : List V} {f : List (ByteArray × V)} {j : Nat} {m : ByteArray} {x : V} (h : f[j]? = some (m, x)) : count x < count ⟨k, b, n, s, l, f⟩ := by
  have h1 := countF_take f j m x h
  have h2 := countF_take_le f (j + 1)
  rw [count]; omega
end Vl
theorem wrap_add (a b c : Nat) (h : c = a + b) : wrap64 (wrap64 (a : Int) + wrap64 (b : Int)) = wrap64 (c : Int) := by
  subst h
  unfold wrap64
  omega
theorem maxLen_lt {n : Nat} (h : n ≤ maxLen) : n ≤ 9223372036854775807 := by
  unfold maxLen at h
  omega
theorem below_new (w : World) (o : Obj) : Below w.heap.size w (w.alloc o) := (Below.refl _ _).alloc (Nat.le_refl _) _
set_option maxHeartbeats 4000000 in
theorem count13 : ∀ (N : Nat) (t : V), Vl.count t ≤ N → ∀ (w : World) (H : Nat) (v : Value), H ≤ w.heap.size → Rep w H t v →
    Calls Tryd.prog 41 #[v] w fun e w' => e = .returned (.int .i64 (wrap64 (Vl.count t : Int))) ∧ Below w.heap.size w w' := by
  intro N
  induction N with
  | zero => intro t ht; obtain ⟨k, b, n, s, l, f⟩ := t; rw [Vl.count] at ht; omega
  | succ N ih =>
    rintro ⟨k, b, n, s, l, f⟩ ht w H v hH hR
    rw [Rep] at hR
    obtain ⟨ao, lc, fo, fc, rfl, h2, h3, h4, h5, h6, h7, h8⟩ := hR
    have IH : Hid (∀ (t : V), Vl.count t ≤ N → ∀ (w : World) (H : Nat) (v : Value), H ≤ w.heap.size → Rep w H t v → Calls Tryd.prog 41 #[v] w fun e w' => e = .returned (.int .i64 (wrap64 (Vl.count t : Int))) ∧ Below w.heap.size w w') := ih
    have HT : Hid (Vl.count ⟨k, b, n, s, l, f⟩ ≤ N + 1) := ht
    have H7 : Hid (0 < l.length → ∃ g o, ao = some ⟨g, o, none⟩ ∧ g < H ∧ RepL w H g o l) := h7
    have H8 : Hid (0 < f.length → ∃ g o, fo = some ⟨g, o, none⟩ ∧ g < H ∧ RepF w H g o f) := h8
    clear ih ht h7 h8
    obtain ⟨ll, hll⟩ : ∃ ll, ll = l.length := ⟨_, rfl⟩
    obtain ⟨fl, hfl⟩ : ∃ fl, fl = f.length := ⟨_, rfl⟩
    have HLL : Hid (ll = l.length) := hll
    have HFL : Hid (fl = f.length) := hfl
    rw [← hll] at h5 ⊢
    rw [← hfl] at h6 ⊢
    clear hll hfl
    have h5' := maxLen_lt h5
    have h6' := maxLen_lt h6
    clear h4 h5 h6
    go_enter Tryd.func41, Tryd.ntmps41
    go_wp2
    obtain ⟨w1, hw1⟩ : ∃ w1, w1 = w.alloc (.cells #[.int .u8 (k : Int), .bool b, .int .i64 n, .string s, .slice ao ll lc, .slice fo fl fc] 26) := ⟨_, rfl⟩
    have HB1 : Hid (Below w.heap.size w w1) := by show Below _ _ _; rw [hw1]; exact (Below.refl _ _).alloc (Nat.le_refl _) _
    have HN1 : Hid (w1.heap[w.heap.size]? = some (.cells #[.int .u8 (k : Int), .bool b, .int .i64 n, .string s, .slice ao ll lc, .slice fo fl fc] 26 (0, 0)) ∧ w1.heap.size = w.heap.size + 1) := by show _ ∧ _; rw [hw1]; exact ⟨heap_alloc_new w _, by simp⟩
    rw [← hw1]
    clear hw1
    go_loopw [3, 11] (fun v i wr => ∃ (j : Nat) (c : Nat), j ≤ ll ∧ i = .int .i64 j ∧ v = .int .i64 (wrap64 (c : Int)) ∧ c = 1 + Vl.countL (l.take j) ∧ Below w1.heap.size w1 wr) (fun _ i _ => ll - (intOf i).toNat)
    case atStart => exact ⟨0, 1, Nat.zero_le _, rfl, by simp [wrap64], by simp [Vl.countL], Below.refl _ _⟩
    case round =>
      obtain ⟨j, c, hj, rfl, rfl, hc, hb⟩ := hrel
      have HC : Hid (c = 1 + Vl.countL (l.take j)) := hc
      clear hc
      by_cases hlt : j < ll
      · have hlt' : j < l.length := by rw [← HLL.out]; exact hlt
        obtain ⟨g, o, rfl, hg, hr⟩ := H7.out (by omega)
        obtain ⟨x, hx⟩ : ∃ x, l[j]? = some x := ⟨_, List.getElem?_eq_getElem hlt'⟩
        have hbw : Below w.heap.size w wr := HB1.out.trans (hb.mono HB1.out.size)
        obtain ⟨c0, c1, c2, c3, c4, c5, ⟨d0, d1, d2, d3, d4, d5⟩, hrx⟩ := repL_at l o (repL_stays (hbw.mono hH) (Nat.le_refl _) hg l o hr) j x hx
        obtain ⟨xk, xb, xn, xs, xa, xl, xc, ya, yl, yc, rfl, rfl, rfl, rfl, rfl, rfl⟩ := rep_form hrx
        have HX : Hid (l[j]? = some x) := hx
        have hxN : Vl.count x ≤ N := by have := Vl.count_partL (k := k) (b := b) (n := n) (s := s) (f := f) hx; have := HT.out; omega
        obtain ⟨m, hm⟩ : ∃ m, m = c + Vl.count x := ⟨_, rfl⟩
        obtain ⟨q, hq⟩ : ∃ q, q = Vl.count x := ⟨_, rfl⟩
        have hadd := wrap_add c q m (by omega)
        have HM : Hid (m = c + Vl.count x) := hm
        have C13 : Hid (∀ W, Below wr.heap.size wr W → Calls Tryd.prog 41 #[.agg #[.int .u8 (xk : Int), .bool xb, .int .i64 xn, .string xs, .slice xa xl xc, .slice ya yl yc]] W fun e w' => e = .returned (.int .i64 (wrap64 (q : Int))) ∧ Below W.heap.size W w') := fun W hW => by
          rw [hq]
          exact IH.out x hxN W H _ (by have := hW.size; have := hbw.size; omega) (rep_stays (hW.mono (by have := hbw.size; omega)) (Nat.le_refl _) x _ hrx)
        have HB : Hid (Below w1.heap.size w1 wr) := hb
        clear hrx hr H7 hx hxN hm hq hb hbw hlt'
        go_wp2_with fail
        refine (C13.out _ ?_).mono ?_
        · exact below_new _ _
        rintro e w3 ⟨rfl, hb3⟩
        go_wp2
        go_roundw
        case rel => exact ⟨j + 1, m, by omega, by go_num, by rw [hadd], by rw [Vl.countL_take l j x HX.out, HM.out, HC.out]; omega, HB.out.trans (((below_new _ _).trans (hb3.mono (by simp))).mono HB.out.size)⟩
        case measure => simp [intOf]; omega
      · have hj : j = ll := by omega
        subst hj
        have hbox : wr.heap[w.heap.size]? = some (.cells #[.int .u8 (k : Int), .bool b, .int .i64 n, .string s, .slice ao j lc, .slice fo fl fc] 26 (0, 0)) := (hb.block _ (by have := HN1.out.2; omega)).trans HN1.out.1
        have hfc : wr.cell? ⟨w.heap.size, 5, none⟩ = some (.slice fo fl fc) := by rw [cell_of_row wr _ _ _ 26 (0, 0) hbox]; rfl
        have hbw : Below w.heap.size w wr := HB1.out.trans (hb.mono HB1.out.size)
        have HC1 : Hid (c = 1 + Vl.countL l) := by have hc := HC.out; rw [HLL.out, List.take_length] at hc; exact hc
        have HBW : Hid (Below w.heap.size w wr) := hbw
        clear hbox hb hbw HN1 HB1 HC H7
        obtain ⟨w2, rfl⟩ : ∃ w2, w2 = wr := ⟨_, rfl⟩
        go_wp2
        go_loopw [3, 23] (fun v i wr => ∃ (j : Nat) (d : Nat), j ≤ fl ∧ i = .int .i64 j ∧ v = .int .i64 (wrap64 (d : Int)) ∧ d = c + Vl.countF (f.take j) ∧ Below w2.heap.size w2 wr) (fun _ i _ => fl - (intOf i).toNat)
        case atStart => exact ⟨0, c, Nat.zero_le _, rfl, rfl, by simp [Vl.countF], Below.refl _ _⟩
        case round =>
          obtain ⟨i, d, hi, rfl, rfl, hd, hb⟩ := hrel
          have HD : Hid (d = c + Vl.countF (f.take i)) := hd
          clear hd
          by_cases hlt : i < fl
          · have hlt' : i < f.length := by rw [← HFL.out]; exact hlt
            obtain ⟨g, o, rfl, hg, hr⟩ := H8.out (by omega)
            obtain ⟨⟨m, x⟩, hx⟩ : ∃ x, f[i]? = some x := ⟨_, List.getElem?_eq_getElem hlt'⟩
            have hbw : Below w.heap.size w wr := HBW.out.trans (hb.mono HBW.out.size)
            obtain ⟨dm, _, c0, c1, c2, c3, c4, c5, ⟨d0, d1, d2, d3, d4, d5⟩, hrx⟩ := repF_at f o (repF_stays (hbw.mono hH) (Nat.le_refl _) hg f o hr) i m x hx
            obtain ⟨xk, xb, xn, xs, xa, xl, xc, ya, yl, yc, rfl, rfl, rfl, rfl, rfl, rfl⟩ := rep_form hrx
            have HX : Hid (f[i]? = some (m, x)) := hx
            have hxN : Vl.count x ≤ N := by have := Vl.count_partF (k := k) (b := b) (n := n) (s := s) (l := l) hx; have := HT.out; omega
            obtain ⟨z, hz⟩ : ∃ z, z = d + Vl.count x := ⟨_, rfl⟩
            obtain ⟨q, hq⟩ : ∃ q, q = Vl.count x := ⟨_, rfl⟩
            have hadd := wrap_add d q z (by omega)
            have HM : Hid (z = d + Vl.count x) := hz
            have C13 : Hid (∀ W, Below wr.heap.size wr W → Calls Tryd.prog 41 #[.agg #[.int .u8 (xk : Int), .bool xb, .int .i64 xn, .string xs, .slice xa xl xc, .slice ya yl yc]] W fun e w' => e = .returned (.int .i64 (wrap64 (q : Int))) ∧ Below W.heap.size W w') := fun W hW => by
              rw [hq]
              exact IH.out x hxN W H _ (by have := hW.size; have := hbw.size; omega) (rep_stays (hW.mono (by have := hbw.size; omega)) (Nat.le_refl _) x _ hrx)
            have HB : Hid (Below w2.heap.size w2 wr) := hb
            rw [show o + i * 7 + 1 + 1 = o + i * 7 + 2 by omega] at d1
            rw [show o + i * 7 + 1 + 2 = o + i * 7 + 3 by omega] at d2
            rw [show o + i * 7 + 1 + 3 = o + i * 7 + 4 by omega] at d3
            rw [show o + i * 7 + 1 + 4 = o + i * 7 + 5 by omega] at d4
            rw [show o + i * 7 + 1 + 5 = o + i * 7 + 6 by omega] at d5
            clear hrx hr H8 hx hxN hz hq hb hbw hlt'
            go_wp2_with fail
            refine (C13.out _ (below_new _ _)).mono ?_
            rintro e w3 ⟨rfl, hb3⟩
            go_wp2
            go_roundw
            case rel => exact ⟨i + 1, z, by omega, by go_num, by rw [hadd], by rw [Vl.countF_take f i m x HX.out, HM.out, HD.out]; omega, HB.out.trans (((below_new _ _).trans (hb3.mono (by simp))).mono HB.out.size)⟩
            case measure => simp [intOf]; omega
          · have hi : i = fl := by omega
            subst hi
            have hd : d = Vl.count ⟨k, b, n, s, l, f⟩ := by rw [HD.out, HC1.out, HFL.out, List.take_length, Vl.count]
            have hbw : Below w.heap.size w wr := HBW.out.trans (hb.mono HBW.out.size)
            go_wp2
            exact ⟨rfl, _, results_tmp (by rfl) _ _ _, by simp [hd], hbw⟩
end Go.Proofs.YtbogggnnmbjlfaaDoor
