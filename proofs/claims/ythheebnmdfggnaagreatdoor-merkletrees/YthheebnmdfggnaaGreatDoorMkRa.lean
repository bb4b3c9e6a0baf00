/- The document's own answer: half, leaf, node and root. -/
import Derived.Test.YthheebnmdfggnaaGreatDoorMkH
import Derived.Test.YthheebnmdfggnaaGreatDoorMkU
import Derived.Test.YthheebnmdfggnaaGreatDoorShRefTop
namespace Go.Proofs.YthheebnmdfggnaaGreatDoor
open Go.RowKit
attribute [local go_sem ↓] Go.wp_at_zero Go.wp_at_succ
set_option maxHeartbeats 2000000 in
theorem rhalf_c (n : Nat) (h2 : 2 ≤ n) (hn : n ≤ 1024) (w : World) : Calls Tryz.prog 31 #[.int .i64 (n : Int)] w fun e w' => e = .returned (.int .i64 (Mk.half n : Int)) ∧ w = w' := by
  obtain ⟨h, hh⟩ : ∃ h, h = Mk.half n := ⟨_, rfl⟩
  rw [← hh]
  have HH : Hid (h = Mk.half n) := hh
  clear hh
  go_enter Tryz.func31, Tryz.ntmps31
  go_wp2
  go_loop [3] (fun i => ∃ k : Nat, i = .int .i64 (k : Int) ∧ 1 ≤ k ∧ k < n ∧ Hid (∃ j, k = 2 ^ j)) (fun i => n - (intOf i).toNat)
  case atStart => exact ⟨1, rfl, by omega, by omega, ⟨0, rfl⟩⟩
  case round =>
    obtain ⟨k, rfl, hk1, hkn, hp⟩ := hrel
    by_cases hlt : 2 * k < n
    · have q : (2 : Int) * (k : Int) < (n : Int) := by omega
      go_wp2
      go_round
      case rel => exact ⟨k * 2, by go_num, by omega, by omega, by obtain ⟨j, hj⟩ := hp.out; exact ⟨j + 1, by rw [hj, Nat.pow_succ]⟩⟩
      case measure => simp [intOf]; omega
    · have q : ¬ (2 : Int) * (k : Int) < (n : Int) := by omega
      have HE : Hid (k = h) := by
        obtain ⟨j, hj⟩ := hp.out
        show k = h
        rw [HH.out, hj]
        exact (Mk.half_of (by omega) (by rw [Nat.pow_succ]; omega)).symm
      go_wp2
      go_ret
      exact ⟨by rw [HE.out]; rfl, rfl⟩
theorem rsum_c (t : List UInt8) (ht : t.length ≤ 1125899906840000) (w : World) : Calls Tryz.prog 29 #[.string (bs t)] w fun e w' => e = .returned (.string (bs (Sh.sum t))) ∧ Below w.heap.size w w' :=
  sum10 (bs t) (by rw [bs_size]; exact ht) w
theorem rleaf_c (s : ByteArray) (hs : s.size ≤ 140737488355328) (w : World) :
    Calls Tryz.prog 30 #[.string s] w fun e w' => e = .returned (.string (bs (Mk.leaf s.data.toList))) ∧ Below w.heap.size w w' := by
  obtain ⟨t, ht⟩ : ∃ t : ByteArray, t = bs (Mk.leafT s.data.toList) := ⟨_, rfl⟩
  obtain ⟨d, hd⟩ : ∃ d : ByteArray, d = bs (Mk.leaf s.data.toList) := ⟨_, rfl⟩
  have C : Hid (Calls Tryz.prog 29 #[.string t] w fun e w' => e = .returned (.string d) ∧ Below w.heap.size w w') := by
    show Calls _ _ _ _ _
    rw [ht, hd]
    exact rsum_c _ (by simp only [Mk.leafT, List.length_cons, size_bytes]; omega) w
  have hadd : ∀ W, (Op.stringOp .add ⟨#[0]⟩ s).run Tryz.prog W = .ok (.string t) W := fun W => by
    rw [run_string_add_sum W ⟨#[0]⟩ s (by show 1 + s.size ≤ _; omega), ht]
    congr 2
  rw [← hd]
  clear ht hd hs
  go_enter Tryz.func30, Tryz.ntmps30
  go_wp2_with fail
  refine C.out.mono ?_
  rintro e w1 ⟨rfl, hb⟩
  have HB : Hid (Below w.heap.size w w1) := hb
  clear hb
  go_wp2
  go_ret
  exact ⟨rfl, HB.out⟩
theorem rnode_c (a b : ByteArray) (ha : a.size ≤ 140737488355328) (hb : b.size ≤ 140737488355328) (w : World) :
    Calls Tryz.prog 32 #[.string a, .string b] w fun e w' => e = .returned (.string (bs (Mk.node a.data.toList b.data.toList))) ∧ Below w.heap.size w w' := by
  obtain ⟨t, ht⟩ : ∃ t : ByteArray, t = bs (Mk.nodeT a.data.toList b.data.toList) := ⟨_, rfl⟩
  obtain ⟨d, hd⟩ : ∃ d : ByteArray, d = bs (Mk.node a.data.toList b.data.toList) := ⟨_, rfl⟩
  obtain ⟨x, hx⟩ : ∃ x : ByteArray, x = ⟨#[1]⟩ ++ a := ⟨_, rfl⟩
  have hxs : x.size = 1 + a.size := by rw [hx, ByteArray.size_append]; rfl
  have C : Hid (Calls Tryz.prog 29 #[.string t] w fun e w' => e = .returned (.string d) ∧ Below w.heap.size w w') := by
    show Calls _ _ _ _ _
    rw [ht, hd]
    exact rsum_c _ (by simp only [Mk.nodeT, List.length_cons, List.length_append, size_bytes]; omega) w
  have hadd : ∀ W, (Op.stringOp .add ⟨#[1]⟩ a).run Tryz.prog W = .ok (.string x) W := fun W => by
    rw [run_string_add_sum W ⟨#[1]⟩ a (by show 1 + a.size ≤ _; omega), hx]
  have hadd2 : ∀ W, (Op.stringOp .add x b).run Tryz.prog W = .ok (.string t) W := fun W => by
    rw [run_string_add_sum W x b (by omega), ht, hx]
    congr 2
  rw [← hd]
  clear ht hd ha hb hx hxs
  go_enter Tryz.func32, Tryz.ntmps32
  go_wp2_with fail
  refine C.out.mono ?_
  rintro e w1 ⟨rfl, hb⟩
  have HB : Hid (Below w.heap.size w w1) := hb
  clear hb
  go_wp2
  go_ret
  exact ⟨rfl, HB.out⟩
def RootSays (n : Nat) : Prop := ∀ (l : List (List UInt8)), l.length = n → (∀ x ∈ l, x.length ≤ 140737488355328) → ∀ (W : World) (a : Option Addr) (m c H : Nat), H ≤ W.heap.size → m ≤ c → Sl W H (.slice a m c) l →
  Calls Tryz.prog 12 #[.slice a m c] W fun e w' => e = .returned (.string (bs (Mk.root l))) ∧ Below W.heap.size W w'
set_option maxHeartbeats 2000000 in
set_option maxRecDepth 10000 in
theorem rroot_few (n : Nat) (hn : n < 2) : RootSays n := by
  intro l hl hx W a m c H hH hmc hS
  have hm : m = n := hS.len.trans hl
  match n, hn with
  | 0, _ =>
    have hl0 : l = [] := List.eq_nil_of_length_eq_zero hl
    subst hm hl0
    obtain ⟨d, hd⟩ : ∃ d : ByteArray, d = bs (Mk.root []) := ⟨_, rfl⟩
    have C : Hid (Calls Tryz.prog 29 #[.string ⟨#[]⟩] W fun e w' => e = .returned (.string d) ∧ Below W.heap.size W w') := by
      show Calls _ _ _ _ _
      rw [hd, Mk.root_none]; exact rsum_c [] (by simp) W
    rw [← hd]
    clear hd hx hS hl
    go_enter Tryz.func12, Tryz.ntmps12
    go_wp2_with fail
    refine C.out.mono ?_
    rintro e w1 ⟨rfl, hb1⟩
    go_wp2
    go_ret
    exact ⟨rfl, hb1⟩
  | 1, _ =>
    obtain ⟨x, hl1⟩ : ∃ x, l = [x] := List.length_eq_one_iff.1 hl
    subst hm
    obtain ⟨b, off, rfl, -, -, hc⟩ := hS.at (by omega)
    obtain ⟨s, hs⟩ : ∃ s : ByteArray, s = bs x := ⟨_, rfl⟩
    have hcell : W.cell? ⟨b, off, none⟩ = some (.string s) := by rw [hs]; exact hc 0 x (by rw [hl1]; rfl)
    obtain ⟨d, hd⟩ : ∃ d : ByteArray, d = bs (Mk.root l) := ⟨_, rfl⟩
    have C : Hid (Calls Tryz.prog 30 #[.string s] W fun e w' => e = .returned (.string d) ∧ Below W.heap.size W w') := by
      show Calls _ _ _ _ _
      have := rleaf_c s (by rw [hs, bs_size]; exact hx x (by rw [hl1]; simp)) W
      rw [hd, hl1, Mk.root_one]
      rw [hs] at this ⊢
      exact this
    rw [← hd]
    clear hd hl1 hs hx hS hl hc
    go_enter Tryz.func12, Tryz.ntmps12
    go_wp2_with fail
    refine C.out.mono ?_
    rintro e w1 ⟨rfl, hb1⟩
    go_wp2
    go_ret
    exact ⟨rfl, hb1⟩
set_option maxHeartbeats 8000000 in
set_option maxRecDepth 10000 in
theorem rroot_more (n : Nat) (h2 : 2 ≤ n) (h1024 : n ≤ 1024) (ih : ∀ k, k < n → RootSays k) : RootSays n := by
  intro l hl hx W a m c H hH hmc hS
  have hm : m = n := hS.len.trans hl
  subst hm
  obtain ⟨b, off, rfl, -, hbH, hc⟩ := hS.at (by omega)
  obtain ⟨h, hh⟩ : ∃ h, h = Mk.half m := ⟨_, rfl⟩
  have hlt : h < m := by rw [hh]; exact Mk.half_lt h2
  have hpos : 1 ≤ h := by rw [hh]; exact Mk.half_pos m
  have CH : Hid (∀ W, Calls Tryz.prog 31 #[.int .i64 (m : Int)] W fun e w' => e = .returned (.int .i64 (h : Int)) ∧ W = w') := fun W => by rw [hh]; exact rhalf_c m h2 h1024 W
  obtain ⟨r1, hr1⟩ : ∃ r : ByteArray, r = bs (Mk.root (l.take h)) := ⟨_, rfl⟩
  obtain ⟨r2, hr2⟩ : ∃ r : ByteArray, r = bs (Mk.root (l.drop h)) := ⟨_, rfl⟩
  obtain ⟨d, hd⟩ : ∃ r : ByteArray, r = bs (Mk.root l) := ⟨_, rfl⟩
  have G1 : Hid (∀ W1, Below W.heap.size W W1 → Calls Tryz.prog 12 #[.slice (some ⟨b, off, none⟩) h c] W1 fun e w' => e = .returned (.string r1) ∧ Below W1.heap.size W1 w') := fun W1 hW => by
    rw [hr1]
    exact ih h hlt (l.take h) (by rw [List.length_take]; omega) (fun x hx' => hx x (List.mem_of_mem_take hx')) W1 _ h c H (Nat.le_trans hH hW.size) (by omega) (Sl.take (hS.stays hW hH) h c (by omega))
  have G2 : Hid (∀ W1, Below W.heap.size W W1 → Calls Tryz.prog 12 #[.slice (some ⟨b, off + h, none⟩) (m - h) (c - h)] W1 fun e w' => e = .returned (.string r2) ∧ Below W1.heap.size W1 w') := fun W1 hW => by
    have := Sl.drop (hS.stays hW hH) h (c - h)
    rw [hl] at this
    rw [hr2]
    exact ih (m - h) (by omega) (l.drop h) (by rw [List.length_drop]; omega) (fun x hx' => hx x (List.mem_of_mem_drop hx')) W1 _ (m - h) (c - h) H (Nat.le_trans hH hW.size) (by omega) this
  have CN : Hid (∀ W1, Calls Tryz.prog 32 #[.string r1, .string r2] W1 fun e w' => e = .returned (.string d) ∧ Below W1.heap.size W1 w') := fun W1 => by
    have := rnode_c r1 r2 (by rw [hr1, bs_size, Mk.root_length]; omega) (by rw [hr2, bs_size, Mk.root_length]; omega) W1
    rw [hd, root_halves l m h hl hh h2]
    rw [hr1, hr2] at this ⊢
    exact this
  rw [← hd]
  have q0 : ((m : Int) == 0) = false := by rw [beq_eq_false_iff_ne]; omega
  have q1 : ((m : Int) == 1) = false := by rw [beq_eq_false_iff_ne]; omega
  have q2 : (0 : Int) ≤ (h : Int) := by omega
  have q3 : (h : Int) ≤ (m : Int) := by omega
  have q4 : (h : Int) ≤ (c : Int) := by omega
  have q5 : (m : Int) ≤ (c : Int) := by omega
  have q6 : ¬ c = h := by omega
  clear hh hS hc hx ih hl hr1 hr2 hd
  go_enter Tryz.func12, Tryz.ntmps12
  go_wp2_with (go_at_call 31; refine (CH.out _).mono ?_; rintro e w' ⟨rfl, rfl⟩)
  refine wp_region_below W.heap.size W (Below.refl _ _) (by kernel_rfl) (by kernel_rfl) ?_
  repeat (go_big_quiet_step (first
    | (go_at_call_of 12 (Value.slice (some ⟨b, off, none⟩) h c); exact below_call _ (Nat.le_refl _) (G1.out _ (BelowOf.h _)))
    | (go_at_call_of 12 (Value.slice (some ⟨b, off + h, none⟩) (m - h) (c - h)); exact below_call _ (Nat.le_refl _) (G2.out _ (BelowOf.h _)))
    | (go_at_call 32; exact below_call _ (Nat.le_refl _) (CN.out _))))
  refine wpQuiet_nil ?_
  intro _ hw'
  obtain ⟨pq, hw''⟩ := hw'
  subst hw''
  go_wp2
  go_ret
  exact ⟨rfl, pq.h⟩
theorem rroot_all (n : Nat) (h1024 : n ≤ 1024) : RootSays n := by
  induction n using Nat.strongRecOn with
  | _ n ih =>
    by_cases h2 : 2 ≤ n
    · exact rroot_more n h2 h1024 (fun k hk => ih k hk (by omega))
    · exact rroot_few n (by omega)
end Go.Proofs.YthheebnmdfggnaaGreatDoor
