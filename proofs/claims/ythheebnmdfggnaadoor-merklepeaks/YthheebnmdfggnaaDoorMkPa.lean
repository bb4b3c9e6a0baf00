/- The document's own answer about peaks: what is right. -/
import Derived.Test.YthheebnmdfggnaaDoorMkO
import Derived.Test.YthheebnmdfggnaaDoorMkU
import Derived.Test.YthheebnmdfggnaaDoorShRefTop
namespace Go.Proofs.YthheebnmdfggnaaDoor
open Go.RowKit
attribute [local go_sem ↓] Go.wp_at_zero Go.wp_at_succ
theorem rsum_c (t : List UInt8) (ht : t.length ≤ 1125899906840000) (w : World) : Calls Tryd.prog 30 #[.string (bs t)] w fun e w' => e = .returned (.string (bs (Sh.sum t))) ∧ Below w.heap.size w w' :=
  sum10 (bs t) (by rw [bs_size]; exact ht) w
theorem rleaf_c (s : ByteArray) (hs : s.size ≤ 140737488355328) (w : World) :
    Calls Tryd.prog 27 #[.string s] w fun e w' => e = .returned (.string (bs (Mk.leaf s.data.toList))) ∧ Below w.heap.size w w' := by
  obtain ⟨t, ht⟩ : ∃ t : ByteArray, t = bs (Mk.leafT s.data.toList) := ⟨_, rfl⟩
  obtain ⟨d, hd⟩ : ∃ d : ByteArray, d = bs (Mk.leaf s.data.toList) := ⟨_, rfl⟩
  have C : Hid (Calls Tryd.prog 30 #[.string t] w fun e w' => e = .returned (.string d) ∧ Below w.heap.size w w') := by
    show Calls _ _ _ _ _
    rw [ht, hd]
    exact rsum_c _ (by simp only [Mk.leafT, List.length_cons, size_bytes]; omega) w
  have hadd : ∀ W, (Op.stringOp .add ⟨#[0]⟩ s).run Tryd.prog W = .ok (.string t) W := fun W => by
    rw [run_string_add_sum W ⟨#[0]⟩ s (by show 1 + s.size ≤ _; omega), ht]
    congr 2
  rw [← hd]
  clear ht hd hs
  go_enter Tryd.func27, Tryd.ntmps27
  go_wp2_with fail
  refine C.out.mono ?_
  rintro e w1 ⟨rfl, hb⟩
  have HB : Hid (Below w.heap.size w w1) := hb
  clear hb
  go_wp2
  go_ret
  exact ⟨rfl, HB.out⟩
theorem rnode_c (a b : ByteArray) (ha : a.size ≤ 140737488355328) (hb : b.size ≤ 140737488355328) (w : World) :
    Calls Tryd.prog 28 #[.string a, .string b] w fun e w' => e = .returned (.string (bs (Mk.node a.data.toList b.data.toList))) ∧ Below w.heap.size w w' := by
  obtain ⟨t, ht⟩ : ∃ t : ByteArray, t = bs (Mk.nodeT a.data.toList b.data.toList) := ⟨_, rfl⟩
  obtain ⟨d, hd⟩ : ∃ d : ByteArray, d = bs (Mk.node a.data.toList b.data.toList) := ⟨_, rfl⟩
  obtain ⟨x, hx⟩ : ∃ x : ByteArray, x = ⟨#[1]⟩ ++ a := ⟨_, rfl⟩
  have hxs : x.size = 1 + a.size := by rw [hx, ByteArray.size_append]; rfl
  have C : Hid (Calls Tryd.prog 30 #[.string t] w fun e w' => e = .returned (.string d) ∧ Below w.heap.size w w') := by
    show Calls _ _ _ _ _
    rw [ht, hd]
    exact rsum_c _ (by simp only [Mk.nodeT, List.length_cons, List.length_append, size_bytes]; omega) w
  have hadd : ∀ W, (Op.stringOp .add ⟨#[1]⟩ a).run Tryd.prog W = .ok (.string x) W := fun W => by
    rw [run_string_add_sum W ⟨#[1]⟩ a (by show 1 + a.size ≤ _; omega), hx]
  have hadd2 : ∀ W, (Op.stringOp .add x b).run Tryd.prog W = .ok (.string t) W := fun W => by
    rw [run_string_add_sum W x b (by omega), ht, hx]
    congr 2
  rw [← hd]
  clear ht hd ha hb hx hxs
  go_enter Tryd.func28, Tryd.ntmps28
  go_wp2_with fail
  refine C.out.mono ?_
  rintro e w1 ⟨rfl, hb⟩
  have HB : Hid (Below w.heap.size w w1) := hb
  clear hb
  go_wp2
  go_ret
  exact ⟨rfl, HB.out⟩
theorem ones_few : ∀ n : Fin 1025, Mk.ones n.val ≤ 1024 := by decide +kernel
set_option maxHeartbeats 2000000 in
theorem rones_c (n : Nat) (hn : n ≤ 1024) (w : World) : Calls Tryd.prog 48 #[.int .i64 (n : Int)] w fun e w' => e = .returned (.int .i64 ((Mk.ones n : Nat) : Int)) ∧ w = w' := by
  obtain ⟨o, ho⟩ : ∃ o, o = Mk.ones n := ⟨_, rfl⟩
  have ho24 : o ≤ 1024 := by rw [ho]; exact ones_few ⟨n, by omega⟩
  rw [← ho]
  have HO : Hid (0 + Mk.ones n = o) := by show _ = _; rw [ho, Nat.zero_add]
  clear ho
  go_enter Tryd.func48, Tryd.ntmps48
  go_wp2
  go_loop [0, 3] (fun u k => ∃ a j : Nat, u = .int .i64 (a : Int) ∧ k = .int .i64 (j : Int) ∧ a ≤ 1024 ∧ j ≤ 1024 ∧ Hid (j + Mk.ones a = o)) (fun u _ => (intOf u).toNat)
  case atStart => exact ⟨n, 0, rfl, rfl, hn, by omega, HO⟩
  case round =>
    obtain ⟨a, j, rfl, rfl, ha, hj, hin⟩ := hrel
    by_cases h0 : a = 0
    · subst h0
      have HJ : Hid (j = o) := by have := hin.out; rw [Mk.ones_zero] at this; show j = o; omega
      go_wp2
      go_ret
      exact ⟨by rw [HJ.out]; rfl, rfl⟩
    · obtain ⟨e, he⟩ : ∃ e : Nat, e = a % 2 := ⟨_, rfl⟩
      obtain ⟨a2, ha2⟩ : ∃ a2 : Nat, a2 = a / 2 := ⟨_, rfl⟩
      have q1 : (0 : Int) < (a : Int) := by omega
      have q2 : (a : Int) % 2 = (e : Int) := by omega
      have q3 : (a : Int) / 2 = (a2 : Int) := by omega
      have q4 : a2 < a := by omega
      have hin2 : j + e + Mk.ones a2 = o := by have := hin.out; rw [Mk.ones_step a, ← he, ← ha2] at this; omega
      have q5 : e ≤ 1 := by omega
      have HI : Hid (j + e + Mk.ones a2 = o) := hin2
      have q6 : j + e ≤ 1024 := by omega
      clear hin hin2 he ha2
      go_wp2
      go_round
      case rel => exact ⟨a2, j + e, rfl, by go_num, by omega, by omega, HI⟩
      case measure => simp [intOf]; omega
theorem rdigests_c (a : Option Addr) (c n : Nat) (H : Nat) (l : List (List UInt8)) (hl : l.length ≤ 9223372036854775807) (w : World) (h : Sl w H (.slice a n c) l) :
    Calls Tryd.prog 49 #[.slice a n c] w fun e w' => e = .returned (.bool (all32 l)) ∧ w' = w := by
  have hn : n = l.length := h.len
  have HN : Hid (n = l.length) := hn
  have HS : Hid (Sl w H (.slice a n c) l) := h
  have hn63 : n ≤ 9223372036854775807 := by omega
  obtain ⟨r, hr⟩ : ∃ r, r = all32 l := ⟨_, rfl⟩
  have HR : Hid (r = all32 l) := hr
  rw [← hr]
  clear h hl hn hr
  go_enter Tryd.func49, Tryd.ntmps49
  go_wp2
  go_loop [7] (fun i => ∃ k : Nat, k ≤ n ∧ i = .int .i64 k ∧ ∀ x ∈ l.take k, x.length = 32) (fun i => n - (intOf i).toNat)
  case atStart => exact ⟨0, Nat.zero_le _, rfl, fun x hx => by simp at hx⟩
  case round =>
    obtain ⟨k, hk, rfl, hall⟩ := hrel
    by_cases hlt : k < n
    · obtain ⟨b, off, rfl, -, -, hc⟩ := HS.out.at (by have := HN.out; omega)
      have hkl : k < l.length := by have := HN.out; omega
      obtain ⟨x, hx⟩ : ∃ x, l[k]? = some x := ⟨_, List.getElem?_eq_getElem hkl⟩
      obtain ⟨s, hs⟩ : ∃ s : ByteArray, s = bs x := ⟨_, rfl⟩
      have hss : s.size = x.length := by rw [hs, bs_size]
      have hcell : w.cell? ⟨b, off + k, none⟩ = some (.string s) := by rw [hs]; exact hc k x hx
      have HX : Hid (l[k]? = some x) := hx
      have HSS : Hid (s.size = x.length) := hss
      have HALL : Hid (∀ x ∈ l.take k, x.length = 32) := hall
      have k0 : (0 : Int) ≤ (k : Int) := by omega
      have k1 : (k : Int) < (n : Int) := by omega
      by_cases h32 : s.size = 32
      · have h32' : ((s.size : Int) != 32) = false := by simp [h32]
        have H32 : Hid (s.size = 32) := h32
        clear hc hx hs hss hall h32
        go_wp2
        go_round
        case rel =>
          refine ⟨k + 1, by omega, by go_num, ?_⟩
          intro y hy
          rw [List.take_add_one, HX.out] at hy
          rcases List.mem_append.1 hy with hy | hy
          · exact HALL.out y hy
          · simp at hy; rw [hy, ← HSS.out]; exact H32.out
        case measure => simp [intOf]; omega
      · have h32' : ((s.size : Int) != 32) = true := by simp; omega
        have H32 : Hid (¬ s.size = 32) := h32
        have HF : Hid (r = false) := by
          show r = false
          rw [HR.out]
          cases hh : all32 l
          · rfl
          · exact absurd (hss.trans (all32_of hh x (List.mem_of_getElem? hx))) h32
        clear hc hx hs hss hall h32
        go_wp2
        go_ret
        exact ⟨by rw [HF.out]; rfl, rfl⟩
    · have hkn : k = n := by omega
      subst hkn
      have HF : Hid (r = true) := by
        show r = true
        rw [HR.out]
        exact all32_mk (by rw [HN.out, List.take_length] at hall; exact hall)
      clear hall
      go_wp2
      go_ret
      exact ⟨by rw [HF.out]; rfl, rfl⟩
set_option maxHeartbeats 4000000 in
set_option maxRecDepth 10000 in
theorem rright_c (c : Int) (ta : Option Addr) (tn tc : Nat) (l : List (List UInt8)) (hl : l.length ≤ 9223372036854775807) (H : Nat) (w : World) (hH : H ≤ w.heap.size) (hS : Sl w H (.slice ta tn tc) l) :
    Calls Tryd.prog 26 #[.agg #[.int .i64 c, .slice ta tn tc]] w fun e w' => e = .returned (.bool (Mk.rightP c l)) ∧ Below w.heap.size w w' := by
  have hb : Below w.heap.size w (w.alloc (.cells #[.int .i64 c, .slice ta tn tc] 24)) := (Below.refl _ _).alloc (Nat.le_refl _) _
  have HB : Hid (Below w.heap.size w (w.alloc (.cells #[.int .i64 c, .slice ta tn tc] 24))) := hb
  have X : Bx2 w w.heap.size 24 (.int .i64 c) (.slice ta tn tc) (w.alloc (.cells #[.int .i64 c, .slice ta tn tc] 24)) := Bx2.start w _ _ _
  have hc0 : ∀ p : BelowOf (w.alloc (.cells #[.int .i64 c, .slice ta tn tc] 24)).heap.size (w.alloc (.cells #[.int .i64 c, .slice ta tn tc] 24)), p.W.cell? ⟨w.heap.size, 0, none⟩ = some (.int .i64 c) := fun p => (X.call p.h).cells.1
  have hc1 : ∀ p : BelowOf (w.alloc (.cells #[.int .i64 c, .slice ta tn tc] 24)).heap.size (w.alloc (.cells #[.int .i64 c, .slice ta tn tc] 24)), p.W.cell? ⟨w.heap.size, 1, none⟩ = some (.slice ta tn tc) := fun p => (X.call p.h).cells.2
  have BB : Hid (∀ p : BelowOf (w.alloc (.cells #[.int .i64 c, .slice ta tn tc] 24)).heap.size (w.alloc (.cells #[.int .i64 c, .slice ta tn tc] 24)), Below w.heap.size w p.W) := fun p => (X.call p.h).2.2.2
  have htn : tn = l.length := hS.len
  by_cases h0 : 0 ≤ c
  · by_cases h1 : c ≤ 1024
    · obtain ⟨n, rfl⟩ := Int.eq_ofNat_of_zero_le h0
      rw [Mk.rightP_in (by omega)]
      have hn : n ≤ 1024 := by omega
      have CO : Hid (∀ W, Calls Tryd.prog 48 #[.int .i64 (n : Int)] W fun e w' => e = .returned (.int .i64 ((Mk.ones n : Nat) : Int)) ∧ w' = W) := fun W => (rones_c n hn W).mono fun e w' ⟨a, b⟩ => ⟨a, b.symm⟩
      have CR : Hid (∀ W, Below w.heap.size w W → Calls Tryd.prog 49 #[.slice ta tn tc] W fun e w' => e = .returned (.bool (all32 l)) ∧ w' = W) := fun W hW => rdigests_c ta tc tn H l hl W (hS.stays hW hH)
      rw [← htn]
      generalize all32 l = r at *
      generalize ((Mk.ones n : Nat) : Int) = o at *
      have g1 : (n : Int) ≤ 1024 := by omega
      clear hS hl hb htn
      cases hto : ((tn : Int) == o)
      · have HTO : Hid (((tn : Int) == o) = false) := hto
        go_enter Tryd.func26, Tryd.ntmps26
        go_wp2
        refine wp_region_below (w.alloc (.cells #[.int .i64 (n : Int), .slice ta tn tc] 24)).heap.size (w.alloc (.cells #[.int .i64 (n : Int), .slice ta tn tc] 24)) (Below.refl _ _) (by kernel_rfl) (by kernel_rfl) ?_
        repeat (go_big_quiet_step (first
          | (go_at_call 48; exact below_same _ (CO.out _))))
        refine wpQuiet_nil ?_
        intro _ hw'
        obtain ⟨pq, hw''⟩ := hw'
        subst hw''
        go_wp2
        go_ret
        exact ⟨rfl, BB.out pq⟩
      · have HTO : Hid (((tn : Int) == o) = true) := hto
        go_enter Tryd.func26, Tryd.ntmps26
        go_wp2
        refine wp_region_below (w.alloc (.cells #[.int .i64 (n : Int), .slice ta tn tc] 24)).heap.size (w.alloc (.cells #[.int .i64 (n : Int), .slice ta tn tc] 24)) (Below.refl _ _) (by kernel_rfl) (by kernel_rfl) ?_
        repeat (go_big_quiet_step (first
          | (go_at_call 48; exact below_same _ (CO.out _))
          | (go_at_call 49; exact below_same _ (CR.out _ (BB.out _)))))
        refine wpQuiet_nil ?_
        intro _ hw'
        obtain ⟨pq, hw''⟩ := hw'
        subst hw''
        go_wp2
        go_ret
        exact ⟨rfl, BB.out pq⟩
    · rw [Mk.rightP_out (fun h => h1 h.2)]
      have g0 : decide (0 ≤ c) = true := by simpa using h0
      have g1 : decide (c ≤ 1024) = false := by simpa using h1
      clear hS hl htn
      go_enter Tryd.func26, Tryd.ntmps26
      go_wp2
      go_quiet (fail)
      go_wp2
      go_ret
      exact ⟨rfl, by first | exact hb | exact below_drewN hb _⟩
  · rw [Mk.rightP_out (fun h => h0 h.1)]
    have g0 : decide (0 ≤ c) = false := by simpa using h0
    clear hS hl htn
    go_enter Tryd.func26, Tryd.ntmps26
    go_wp2
    go_quiet (fail)
    go_wp2
    go_ret
    exact ⟨rfl, by first | exact hb | exact below_drewN hb _⟩
end Go.Proofs.YthheebnmdfggnaaDoor
