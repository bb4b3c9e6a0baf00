/- The digests of a tree: parts, each made of two. -/
import Derived.Test.YtlafdlcpelkdpaaGreatDoorJOM
namespace Go.Proofs.YtlafdlcpelkdpaaGreatDoor
open Go.RowKit
attribute [local go_sem ↓] Go.wp_at_zero Go.wp_at_succ
/-- a part in memory: the root of some texts, and the two parts of which it was made -/
inductive Pt (W : World) : Nat → List (List UInt8) → Prop
  | leaf (p : Nat) (l : List (List UInt8)) (hl : l.length < 2) (h : W.heap[p]? = some (.cells #[.string (bs (Mk.root l)), .pointer none, .pointer none] 149 (0, 0))) : Pt W p l
  | node (p q r : Nat) (l : List (List UInt8)) (hl : 2 ≤ l.length) (h : W.heap[p]? = some (.cells #[.string (bs (Mk.root l)), .pointer (some ⟨q, 0, none⟩), .pointer (some ⟨r, 0, none⟩)] 149 (0, 0)))
      (hq : Pt W q (l.take (Mk.half l.length))) (hr : Pt W r (l.drop (Mk.half l.length))) : Pt W p l
theorem Pt.stays {W W' : World} (hs : ∀ (p : Nat) C, W.heap[p]? = some (.cells C 149 (0, 0)) → W'.heap[p]? = some (.cells C 149 (0, 0))) {p : Nat} {l : List (List UInt8)} (h : Pt W p l) : Pt W' p l := by
  induction h with
  | leaf p l hl h => exact .leaf p l hl (hs _ _ h)
  | node p q r l hl h _ _ i1 i2 => exact .node p q r l hl (hs _ _ h) i1 i2
theorem Pt.call {W W' : World} (hb : Below W.heap.size W W') {p : Nat} {l : List (List UInt8)} (h : Pt W p l) : Pt W' p l :=
  h.stays fun p _ e => (hb.block p (Array.getElem?_eq_some_iff.1 e).1).trans e
theorem Pt.root {W : World} {p : Nat} {l : List (List UInt8)} (h : Pt W p l) : W.cell? ⟨p, 0, none⟩ = some (.string (bs (Mk.root l))) := by
  cases h with
  | leaf _ _ _ h => rw [cell_of_row W _ _ _ 149 (0, 0) h]; rfl
  | node _ _ _ _ _ h => rw [cell_of_row W _ _ _ 149 (0, 0) h]; rfl
theorem Pt.lt {W : World} {p : Nat} {l : List (List UInt8)} (h : Pt W p l) : p < W.heap.size := by
  cases h with
  | leaf _ _ _ h => exact (Array.getElem?_eq_some_iff.1 h).1
  | node _ _ _ _ _ h => exact (Array.getElem?_eq_some_iff.1 h).1
theorem Pt.two {W : World} {p : Nat} {l : List (List UInt8)} (h : Pt W p l) (hl : 2 ≤ l.length) : ∃ q r, W.cell? ⟨p, 1, none⟩ = some (.pointer (some ⟨q, 0, none⟩)) ∧ W.cell? ⟨p, 2, none⟩ = some (.pointer (some ⟨r, 0, none⟩)) ∧ Pt W q (l.take (Mk.half l.length)) ∧ Pt W r (l.drop (Mk.half l.length)) := by
  cases h with
  | leaf _ _ hl' h => omega
  | node _ q r _ _ h hq hr => exact ⟨q, r, by rw [cell_of_row W _ _ _ 149 (0, 0) h]; rfl, by rw [cell_of_row W _ _ _ 149 (0, 0) h]; rfl, hq, hr⟩
/-- a cut of a row -/
theorem Sl.take {W : World} {H b off n c : Nat} {l : List (List UInt8)} (h : Sl W H (.slice (some ⟨b, off, none⟩) n c) l) (k c' : Nat) (hk : k ≤ l.length) : Sl W H (.slice (some ⟨b, off, none⟩) k c') (l.take k) := by
  rcases h with ⟨h, _⟩ | ⟨b', o', c', h1, h2, h3⟩
  · subst h
    have hk0 : k = 0 := by simpa using hk
    subst hk0
    exact .inl ⟨rfl, _, _, rfl⟩
  · injection h1 with e1 e2 e3
    injection e1 with e1
    injection e1 with e4 e5
    subst e4 e5
    refine .inr ⟨b, off, _, by rw [List.length_take, Nat.min_eq_left hk], h2, fun j x hj => h3 j x ?_⟩
    rw [List.getElem?_take] at hj
    split at hj
    · exact hj
    · cases hj
theorem Sl.drop {W : World} {H b off n c : Nat} {l : List (List UInt8)} (h : Sl W H (.slice (some ⟨b, off, none⟩) n c) l) (k c' : Nat) : Sl W H (.slice (some ⟨b, off + k, none⟩) (l.length - k) c') (l.drop k) := by
  rcases h with ⟨h, _⟩ | ⟨b', o', c', h1, h2, h3⟩
  · subst h
    exact .inl ⟨by simp, _, _, by simp; exact ⟨rfl, rfl⟩⟩
  · injection h1 with e1 e2 e3
    injection e1 with e1
    injection e1 with e4 e5
    subst e4 e5
    refine .inr ⟨b, off + k, _, by rw [List.length_drop], h2, fun j x hj => ?_⟩
    rw [List.getElem?_drop] at hj
    have := h3 (k + j) x hj
    rwa [← Nat.add_assoc] at this
/-- what the closure that calls itself is told -/
def GrowSays (n : Nat) : Prop := ∀ (l : List (List UInt8)), l.length = n → (∀ x ∈ l, x.length ≤ 140737488355328) → ∀ (W : World) (a : Option Addr) (m c H gv : Nat), HasK W → H ≤ W.heap.size → m ≤ c → Sl W H (.slice a m c) l → W.cell? ⟨gv, 0, none⟩ = some (.func (.func 99) #[] #[.pointer (some ⟨gv, 0, none⟩)]) → gv < W.heap.size →
  Calls Tryz.prog 99 #[.slice a m c, .pointer (some ⟨gv, 0, none⟩)] W fun e w' => ∃ p, e = .returned (.pointer (some ⟨p, 0, none⟩)) ∧ Pt w' p l ∧ W.heap.size ≤ p ∧ Below W.heap.size W w'
theorem field_made (x y : Value) (wx : World) : (Instr.field 174 (.agg #[x, y]) 1).run Tryz.prog wx = .ok y wx := by kernel_rfl
set_option maxHeartbeats 2000000 in
set_option maxRecDepth 10000 in
theorem grow_few (n : Nat) (hn : n < 2) : GrowSays n := by
  intro l hl hx W a m c H gv hK hH hmc hS hgv hgl
  have hm : m = n := hS.len.trans hl
  have hlen := hS.len
  match n, hn with
  | 0, _ =>
    have hl0 : l = [] := List.eq_nil_of_length_eq_zero hl
    subst hm
    obtain ⟨d, hd⟩ : ∃ d : ByteArray, d = bs (Sh.sum []) := ⟨_, rfl⟩
    have C : Hid (Calls Tryz.prog 13 #[.string ⟨#[]⟩] W fun e w' => e = .returned (.string d) ∧ Below W.heap.size W w') := by
      show Calls _ _ _ _ _
      rw [hd]; exact sum9 ⟨#[]⟩ (by decide) W hK
    have HD : Hid (d = bs (Mk.root l)) := by show _ = _; rw [hd, hl0, Mk.root_none]
    have HL : Hid (l.length < 2) := by show _ < _; omega
    clear hd hl0 hx hS hgv hgl hl hlen
    go_enter Tryz.func99, Tryz.ntmps99
    go_wp2_with fail
    refine C.out.mono ?_
    rintro e w1 ⟨rfl, hb1⟩
    have HB : Hid (Below W.heap.size W w1) := hb1
    clear hb1
    go_wp2
    go_ret
    refine ⟨w1.heap.size, rfl, .leaf _ l HL.out ?_, HB.out.size, HB.out.alloc HB.out.size _⟩
    rw [← HD.out]; exact heap_alloc_new w1 _
  | 1, _ =>
    obtain ⟨x, hl1⟩ : ∃ x, l = [x] := List.length_eq_one_iff.1 hl
    subst hm
    obtain ⟨b, off, rfl, -, -, hc⟩ := hS.at (by omega)
    obtain ⟨s, hs⟩ : ∃ s : ByteArray, s = bs x := ⟨_, rfl⟩
    have hcell : W.cell? ⟨b, off, none⟩ = some (.string s) := by rw [hs]; exact hc 0 x (by rw [hl1]; rfl)
    obtain ⟨t, ht⟩ : ∃ t : ByteArray, t = bs (Mk.leafT s.data.toList) := ⟨_, rfl⟩
    obtain ⟨d, hd⟩ : ∃ d : ByteArray, d = bs (Sh.sum (Mk.leafT s.data.toList)) := ⟨_, rfl⟩
    have C : Hid (Calls Tryz.prog 100 #[.string s] W fun e w' => e = .returned (.agg #[.string t, .string d]) ∧ Below W.heap.size W w') := by
      show Calls _ _ _ _ _
      rw [ht, hd]; exact leaf_c s (by rw [hs, bs_size]; exact hx x (by rw [hl1]; simp)) W hK
    have HD : Hid (d = bs (Mk.root l)) := by show _ = _; rw [hd, hl1, Mk.root_one, hs]; rfl
    have HL : Hid (l.length < 2) := by show _ < _; omega
    have hf := fun wx => field_made (.string t) (.string d) wx
    clear hd ht hl1 hs hx hS hgv hgl hl hlen hc
    go_enter Tryz.func99, Tryz.ntmps99
    go_wp2_with fail
    refine C.out.mono ?_
    rintro e w1 ⟨rfl, hb1⟩
    have HB : Hid (Below W.heap.size W w1) := hb1
    clear hb1
    go_wp2
    go_ret
    refine ⟨w1.heap.size, rfl, .leaf _ l HL.out ?_, HB.out.size, HB.out.alloc HB.out.size _⟩
    rw [← HD.out]; exact heap_alloc_new w1 _
theorem root_halves (l : List (List UInt8)) (m h : Nat) (hl : l.length = m) (hh : h = Mk.half m) (h2 : 2 ≤ m) : Mk.root l = Mk.node (Mk.root (l.take h)) (Mk.root (l.drop h)) := by
  subst hh hl
  exact Mk.root_two h2
theorem pt_new {w w3 : World} {p1 p2 : Nat} {l : List (List UInt8)} {m h : Nat} {d : ByteArray} (hl : l.length = m ∧ h = Mk.half m) (h2 : 2 ≤ m) (hd : d = bs (Mk.root l)) (h1 : Pt w p1 (l.take h)) (h3 : Pt w p2 (l.drop h)) (hb : Below w.heap.size w w3) :
    Pt (w3.alloc (.cells #[.string d, .pointer (some ⟨p1, 0, none⟩), .pointer (some ⟨p2, 0, none⟩)] 149)) w3.heap.size l := by
  obtain ⟨rfl, rfl⟩ := hl
  have hn : Below w3.heap.size w3 (w3.alloc (.cells #[.string d, .pointer (some ⟨p1, 0, none⟩), .pointer (some ⟨p2, 0, none⟩)] 149)) := (Below.refl _ _).alloc (Nat.le_refl _) _
  exact .node _ p1 p2 l h2 (by rw [← hd]; exact heap_alloc_new w3 _) ((h1.call hb).call hn) ((h3.call hb).call hn)
theorem Pt.drew {W : World} {p : Nat} {l : List (List UInt8)} (h : Pt W p l) : Pt W.drew p l := h.call ((Below.refl _ _).drew)
set_option maxHeartbeats 8000000 in
set_option maxRecDepth 10000 in
theorem grow_more (n : Nat) (h2 : 2 ≤ n) (h1024 : n ≤ 1024) (ih : ∀ k, k < n → GrowSays k) : GrowSays n := by
  intro l hl hx W a m c H gv hK hH hmc hS hgv hgl
  have hm : m = n := hS.len.trans hl
  subst hm
  obtain ⟨b, off, rfl, -, hbH, hc⟩ := hS.at (by omega)
  obtain ⟨h, hh⟩ : ∃ h, h = Mk.half m := ⟨_, rfl⟩
  have hlt : h < m := by rw [hh]; exact Mk.half_lt h2
  have hpos : 1 ≤ h := by rw [hh]; exact Mk.half_pos m
  have CH : Hid (∀ W, Calls Tryz.prog 101 #[.int .i64 (m : Int)] W fun e w' => e = .returned (.int .i64 (h : Int)) ∧ W = w') := fun W => by rw [hh]; exact half_c m h2 h1024 W
  have G1 : Hid (∀ W1, Below W.heap.size W W1 → Calls Tryz.prog 99 #[.slice (some ⟨b, off, none⟩) h c, .pointer (some ⟨gv, 0, none⟩)] W1 fun e w' => ∃ p, e = .returned (.pointer (some ⟨p, 0, none⟩)) ∧ Pt w' p (l.take h) ∧ W1.heap.size ≤ p ∧ Below W1.heap.size W1 w') := fun W1 hW =>
    ih h hlt (l.take h) (by rw [List.length_take]; omega) (fun x hx' => hx x (List.mem_of_mem_take hx')) W1 _ h c H gv (hK.below hK.1 hW) (Nat.le_trans hH hW.size) (by omega) (Sl.take (hS.stays hW hH) h c (by omega)) ((hW.cell (p := ⟨gv, 0, none⟩) hgl).trans hgv) (Nat.lt_of_lt_of_le hgl hW.size)
  have G2 : Hid (∀ W1, Below W.heap.size W W1 → Calls Tryz.prog 99 #[.slice (some ⟨b, off + h, none⟩) (m - h) (c - h), .pointer (some ⟨gv, 0, none⟩)] W1 fun e w' => ∃ p, e = .returned (.pointer (some ⟨p, 0, none⟩)) ∧ Pt w' p (l.drop h) ∧ W1.heap.size ≤ p ∧ Below W1.heap.size W1 w') := fun W1 hW => by
    have := Sl.drop (hS.stays hW hH) h (c - h)
    rw [hl] at this
    exact ih (m - h) (by omega) (l.drop h) (by rw [List.length_drop]; omega) (fun x hx' => hx x (List.mem_of_mem_drop hx')) W1 _ (m - h) (c - h) H gv (hK.below hK.1 hW) (Nat.le_trans hH hW.size) (by omega) this ((hW.cell (p := ⟨gv, 0, none⟩) hgl).trans hgv) (Nat.lt_of_lt_of_le hgl hW.size)
  have HK : Hid (HasK W) := hK
  have HL : Hid (l.length = m ∧ h = Mk.half m) := ⟨hl, hh⟩
  have q0 : ((m : Int) == 0) = false := by rw [beq_eq_false_iff_ne]; omega
  have q1 : ((m : Int) == 1) = false := by rw [beq_eq_false_iff_ne]; omega
  have q2 : (0 : Int) ≤ (h : Int) := by omega
  have q3 : (h : Int) ≤ (m : Int) := by omega
  have q4 : (h : Int) ≤ (c : Int) := by omega
  have q5 : (m : Int) ≤ (c : Int) := by omega
  have q6 : ¬ c = h := by omega
  clear hh hS hc hx ih hl hK
  go_enter Tryz.func99, Tryz.ntmps99
  go_wp2_with (go_at_call 101; refine (CH.out _).mono ?_; rintro e w' ⟨rfl, rfl⟩)
  go_region_law (first
    | (go_simp; go_at_call_of 99 (Value.slice (some ⟨b, off, none⟩) h c); refine (G1.out _ ?_).mono ?_; (first | exact Below.refl _ _ | exact (Below.refl _ _).drew); rintro e w1 ⟨p1, rfl, hp1, hq1, hb1⟩
       have HB1 : Hid (Below W.heap.size W w1) := (by first | exact (Below.refl _ _).drew.trans hb1 | exact hb1)
       have HP1 : Hid (Pt w1 p1 (l.take h)) := hp1
       have hgv1 : w1.cell? ⟨gv, 0, none⟩ = some (.func (.func 99) #[] #[.pointer (some ⟨gv, 0, none⟩)]) := (HB1.out.cell (p := ⟨gv, 0, none⟩) hgl).trans hgv
       clear hp1 hq1 hb1)
    | (go_simp; go_at_call_of 99 (Value.slice (some ⟨b, off + h, none⟩) (m - h) (c - h)); refine (G2.out _ ?_).mono ?_; (first | exact HB1.out | exact HB1.out.drew); rintro e w2 ⟨p2, rfl, hp2, hq2, hb2⟩
       have HB12 : Hid (Below w1.heap.size w1 w2) := (by first | exact (Below.refl _ _).drew.trans hb2 | exact hb2)
       have HP2 : Hid (Pt w2 p2 (l.drop h)) := hp2
       clear hp2 hq2 hb2))
  all_goals
    have HB2 : Hid (Below W.heap.size W w2) := HB1.out.trans (HB12.out.mono HB1.out.size)
    have HQ1 : Hid (Pt w2 p1 (l.take h)) := HP1.out.call HB12.out
    obtain ⟨r1, hr1⟩ : ∃ r : ByteArray, r = bs (Mk.root (l.take h)) := ⟨_, rfl⟩
    obtain ⟨r2, hr2⟩ : ∃ r : ByteArray, r = bs (Mk.root (l.drop h)) := ⟨_, rfl⟩
    obtain ⟨t, ht⟩ : ∃ t : ByteArray, t = bs (Mk.nodeT r1.data.toList r2.data.toList) := ⟨_, rfl⟩
    obtain ⟨d, hd⟩ : ∃ d : ByteArray, d = bs (Sh.sum (Mk.nodeT r1.data.toList r2.data.toList)) := ⟨_, rfl⟩
    have CN : Hid (∀ W1, Below W.heap.size W W1 → Calls Tryz.prog 102 #[.string r1, .string r2] W1 fun e w' => e = .returned (.agg #[.string t, .string d]) ∧ Below W1.heap.size W1 w') := fun W1 hW => by
      rw [ht, hd]
      exact node_c r1 r2 (by rw [hr1, bs_size, Mk.root_length]; omega) (by rw [hr2, bs_size, Mk.root_length]; omega) W1 (HK.out.below HK.out.1 hW)
    have c1 : w2.cell? ⟨p1, 0, none⟩ = some (.string r1) := by rw [hr1]; exact HQ1.out.root
    have c2 : w2.cell? ⟨p2, 0, none⟩ = some (.string r2) := by rw [hr2]; exact HP2.out.root
    have HD : Hid (d = bs (Mk.root l)) := by
      show _ = _
      rw [hd, hr1, hr2, root_halves l m h HL.out.1 HL.out.2 h2]; rfl
    have hf := fun wx => field_made (.string t) (.string d) wx
    clear hr1 hr2 ht hd HP1 hgv hgv1 G1 G2
    go_wp2
    go_region_law (first
      | (go_simp; go_at_call 102; refine (CN.out _ ?_).mono ?_; (first | exact HB2.out | exact HB2.out.drew); rintro e w3 ⟨rfl, hb3⟩
         have HB3 : Hid (Below w2.heap.size w2 w3) := (by first | exact (Below.refl _ _).drew.trans hb3 | exact hb3)
         clear hb3))
    all_goals
      go_wp2
      go_ret
      have hs2 := HB2.out.size
      have hs3 := HB3.out.size
      have N := pt_new HL.out h2 HD.out HQ1.out HP2.out HB3.out
      have NB := (HB2.out.trans (HB3.out.mono hs2)).alloc (Nat.le_trans hs2 hs3) (.cells #[.string d, .pointer (some ⟨p1, 0, none⟩), .pointer (some ⟨p2, 0, none⟩)] 149)
      first | exact ⟨w3.heap.size, rfl, N, Nat.le_trans hs2 hs3, NB⟩ | exact ⟨w3.heap.size, rfl, N.drew, Nat.le_trans hs2 hs3, NB.drew⟩
theorem grow_c (n : Nat) (h1024 : n ≤ 1024) : GrowSays n := by
  induction n using Nat.strongRecOn with
  | _ n ih =>
    by_cases h : n < 2
    · exact grow_few n h
    · exact grow_more n (by omega) h1024 (fun k hk => ih k hk (by omega))
end Go.Proofs.YtlafdlcpelkdpaaGreatDoor
