/- How many ones a count has; whether peaks are right. -/
import Derived.Test.YtoldfepeldbcpaaDoorMkN
import Derived.Test.YtoldfepeldbcpaaDoorMkP
namespace Go.Proofs.YtoldfepeldbcpaaDoor
open Go.RowKit
namespace Pop
def s1 (x : Int) : Int := IntKind.u64.wrap (bits BinOp.and IntKind.u64 (x / 2) 6148914691236517205 + bits BinOp.and IntKind.u64 x 6148914691236517205)
def s2 (x : Int) : Int := IntKind.u64.wrap (bits BinOp.and IntKind.u64 (x / 4) 3689348814741910323 + bits BinOp.and IntKind.u64 x 3689348814741910323)
def s3 (x : Int) : Int := bits BinOp.and IntKind.u64 (IntKind.u64.wrap (x / 16 + x)) 1085102592571150095
def s4 (x : Int) : Int := IntKind.u64.wrap (x + x / 256)
def s5 (x : Int) : Int := IntKind.u64.wrap (x + x / 65536)
def s6 (x : Int) : Int := IntKind.u64.wrap (x + x / 4294967296)
def all (x : Int) : Int := bits BinOp.and IntKind.i64 (wrap64 (s6 (s5 (s4 (s3 (s2 (s1 x))))))) 127
theorem all_ones : ∀ x : Fin 1025, all (x.val : Int) = ((Mk.ones x.val : Nat) : Int) := by decide +kernel
end Pop
set_option maxHeartbeats 2000000 in
theorem onesl_c (x : Nat) (h1 : x ≤ 1024) (w : World) :
    Calls Tryd.prog 66 #[.int .u64 (x : Int)] w fun e w' => e = .returned (.int .i64 ((Mk.ones x : Nat) : Int)) ∧ w = w' := by
  have HX : Hid (Pop.all (x : Int) = ((Mk.ones x : Nat) : Int)) := Pop.all_ones ⟨x, by omega⟩
  generalize ((Mk.ones x : Nat) : Int) = r at *
  obtain ⟨y, hy⟩ : ∃ y : Int, y = (x : Int) := ⟨_, rfl⟩
  rw [← hy] at HX ⊢
  clear hy h1
  go_enter Tryd.func66, Tryd.ntmps66
  go_wp2
  go_ret
  exact ⟨congrArg (fun z => Ending.returned (.int .i64 z)) (a₁ := Pop.all y) HX.out, rfl⟩
set_option maxHeartbeats 2000000 in
theorem ones_c (x : Nat) (h1 : x ≤ 1024) (w : World) :
    Calls Tryd.prog 54 #[.int .u64 (x : Int)] w fun e w' => e = .returned (.int .i64 ((Mk.ones x : Nat) : Int)) ∧ w = w' := by
  have C : Hid (Calls Tryd.prog 66 #[.int .u64 (x : Int)] w fun e w' => e = .returned (.int .i64 ((Mk.ones x : Nat) : Int)) ∧ w = w') := onesl_c x h1 w
  generalize ((Mk.ones x : Nat) : Int) = r at *
  go_enter Tryd.func54, Tryd.ntmps54
  go_wp2_with fail
  refine C.out.mono ?_
  rintro e w1 ⟨rfl, rfl⟩
  go_wp2
  go_ret
  exact ⟨rfl, rfl⟩
theorem below_drewN {B : Nat} {w W : World} (h : Below B w W) (n : Nat) : Below B w (W.drewN n) := by
  induction n with
  | zero => exact h
  | succ n ih => exact ih.drew
theorem wrap_small (n : Nat) (h : n ≤ 1024) : IntKind.u64.wrap (n : Int) = (n : Int) := by
  have : ∀ x : Fin 1025, IntKind.u64.wrap (x.val : Int) = (x.val : Int) := by decide +kernel
  exact this ⟨n, by omega⟩
namespace Mk
/-- whether peaks are right -/
def rightP (c : Int) (l : List Bs) : Bool := decide (0 ≤ c) && decide (c ≤ 1024) && (((l.length : Int) == ((ones c.toNat : Nat) : Int)) && all32 l)
theorem rightP_out {c : Int} {l : List Bs} (h : ¬ (0 ≤ c ∧ c ≤ 1024)) : rightP c l = false := by
  unfold rightP
  by_cases h1 : 0 ≤ c
  · have h3 : ¬ c ≤ 1024 := fun e => h ⟨h1, e⟩
    simp [h3]
  · simp [h1]
theorem rightP_in {c : Nat} {l : List Bs} (h : c ≤ 1024) : rightP (c : Int) l = (((l.length : Int) == ((ones c : Nat) : Int)) && all32 l) := by
  have a : decide ((0 : Int) ≤ (c : Int)) = true := by simp
  have b : decide ((c : Int) ≤ 1024) = true := by simp; omega
  rw [rightP, a, b]
  simp
theorem rightP_of {c : Int} {l : List Bs} (h : rightP c l = true) : ∃ n : Nat, c = (n : Int) ∧ n ≤ 1024 ∧ l.length = ones n ∧ ∀ x ∈ l, x.length = 32 := by
  unfold rightP at h
  simp only [Bool.and_eq_true, decide_eq_true_eq, beq_iff_eq] at h
  obtain ⟨⟨h1, h2⟩, h3, h4⟩ := h
  exact ⟨c.toNat, by omega, by omega, by omega, all32_of h4⟩
end Mk
set_option maxHeartbeats 4000000 in
set_option maxRecDepth 10000 in
theorem rightPeaks_c (c : Int) (ta : Option Addr) (tn tc : Nat) (l : List (List UInt8)) (hl : l.length ≤ 9223372036854775807) (H : Nat) (w : World) (hH : H ≤ w.heap.size) (hS : Sl w H (.slice ta tn tc) l) :
    Calls Tryd.prog 30 #[.agg #[.int .i64 c, .slice ta tn tc]] w fun e w' => e = .returned (.bool (Mk.rightP c l)) ∧ Below w.heap.size w w' := by
  have hb : Below w.heap.size w (w.alloc (.cells #[.int .i64 c, .slice ta tn tc] 35)) := (Below.refl _ _).alloc (Nat.le_refl _) _
  by_cases h0 : 0 ≤ c
  · by_cases h1 : c ≤ 1024
    · obtain ⟨n, rfl⟩ := Int.eq_ofNat_of_zero_le h0
      rw [Mk.rightP_in (by omega)]
      have hn : n ≤ 1024 := by omega
      have CO : Hid (∀ W, Calls Tryd.prog 54 #[.int .u64 (n : Int)] W fun e w' => e = .returned (.int .i64 ((Mk.ones n : Nat) : Int)) ∧ W = w') := fun W => ones_c n hn W
      have CR : Hid (∀ W, Below w.heap.size w W → Calls Tryd.prog 23 #[.slice ta tn tc, .int .i64 ((Mk.ones n : Nat) : Int)] W fun e w' => e = .returned (.bool (((l.length : Int) == ((Mk.ones n : Nat) : Int)) && all32 l)) ∧ w' = W) := fun W hW => right_c ta tc tn H l _ hl W (hS.stays hW hH)
      generalize (((l.length : Int) == ((Mk.ones n : Nat) : Int)) && all32 l) = r at *
      generalize ((Mk.ones n : Nat) : Int) = o at *
      have HB : Hid (Below w.heap.size w (w.alloc (.cells #[.int .i64 (n : Int), .slice ta tn tc] 35))) := hb
      have hwr : IntKind.u64.wrap (n : Int) = (n : Int) := wrap_small n hn
      clear hS hl hb
      go_enter Tryd.func30, Tryd.ntmps30
      go_wp2
      go_region_law (first
        | (go_simp; go_at_call 54; refine (CO.out _).mono ?_; rintro e w1 ⟨rfl, rfl⟩)
        | (go_simp; go_at_call 23; refine (CR.out _ ?_).mono ?_; (first | exact HB.out | exact HB.out.drew); rintro e w1 ⟨rfl, rfl⟩))
      all_goals
        go_wp2
        go_ret
        first | exact ⟨rfl, HB.out⟩ | exact ⟨rfl, HB.out.drew⟩ | exact ⟨rfl, HB.out.drew.drew⟩
    · rw [Mk.rightP_out (fun h => h1 h.2)]
      have g0 : decide (0 ≤ c) = true := by simpa using h0
      have g1 : decide (c ≤ 1024) = false := by simpa using h1
      clear hS hl
      go_enter Tryd.func30, Tryd.ntmps30
      go_wp2
      go_quiet (fail)
      go_wp2
      go_ret
      exact ⟨rfl, by first | exact hb | exact below_drewN hb _⟩
  · rw [Mk.rightP_out (fun h => h0 h.1)]
    have g0 : decide (0 ≤ c) = false := by simpa using h0
    clear hS hl
    go_enter Tryd.func30, Tryd.ntmps30
    go_wp2
    go_quiet (fail)
    go_wp2
    go_ret
    exact ⟨rfl, by first | exact hb | exact below_drewN hb _⟩
end Go.Proofs.YtoldfepeldbcpaaDoor
