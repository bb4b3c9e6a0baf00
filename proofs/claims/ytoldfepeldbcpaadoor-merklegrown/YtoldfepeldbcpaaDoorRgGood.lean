/- A region that draws its order, whose operations leave what others left: one obligation for each operation; a slot's value may hang on the world that its operation met. -/
import Derived.Test.YtoldfepeldbcpaaDoorRgInv
namespace Go.Proofs.YtoldfepeldbcpaaDoor
open Go.RowKit
/-- a slot anew -/
def upd (f : Nat → Value) (i : Nat) (v : Value) : Nat → Value := fun j => if j = i then v else f j
theorem upd_same (f : Nat → Value) (i : Nat) (v : Value) : upd f i v i = v := if_pos rfl
theorem upd_other {f : Nat → Value} {i j : Nat} {v : Value} (h : j ≠ i) : upd f i v j = f j := if_neg h
/-- each operation waits for earlier ones alone -/
def backB (ops : Array Oper) : Bool := (List.range ops.size).all fun i => match ops[i]? with
  | none => true
  | some o => o.after.toList.all fun e => !Region.binds .any e || decide (e.on < i)
/-- what an operation waits for -/
def waits (ops : Array Oper) (i j : Nat) : Bool := match ops[i]? with
  | none => false
  | some o => o.after.toList.any fun e => Region.binds .any e && decide (e.on = j)
theorem ready_waits {ops : Array Oper} {listed : Array Bool} {i : Nat} (h : i ∈ Region.ready .any ops listed) : ∀ j, waits ops i j = true → listed.getD j false = true := by
  unfold Region.ready at h
  rw [List.mem_filter] at h
  intro j hj
  have h2 := h.2
  simp only [Bool.and_eq_true] at h2
  unfold waits at hj
  cases ho : ops[i]? with
  | none => rw [ho] at hj; cases hj
  | some o =>
    rw [ho] at hj h2
    simp only [Option.map_some, Option.getD_some] at h2
    rw [List.any_eq_true] at hj
    obtain ⟨e, he0, h3⟩ := hj
    have he : e ∈ o.after := Array.mem_toList_iff.1 he0
    rw [Bool.and_eq_true, decide_eq_true_iff] at h3
    have h4 := (Array.all_eq_true'.1 h2.2) e he
    rw [h3.1, h3.2] at h4
    simpa using h4
theorem all_listed {ops : Array Oper} {listed : Array Bool} (hsz : listed.size = ops.size) (hb : backB ops = true) (h : Region.ready .any ops listed = []) : ∀ n i, i < n → i < ops.size → listed.getD i true = true := by
  intro n
  induction n with
  | zero => intro i hi; omega
  | succ n ih =>
    intro i hi hs
    by_cases hin : i < n
    · exact ih i hin hs
    · have hie : i = n := by omega
      subst hie
      cases hl : listed.getD i true with
      | true => rfl
      | false =>
        exfalso
        have hr : i ∈ Region.ready .any ops listed := by
          unfold Region.ready
          rw [List.mem_filter, List.mem_range]
          refine ⟨hs, ?_⟩
          rw [hl]
          have ho : ops[i]? = some ops[i] := Array.getElem?_eq_getElem hs
          rw [ho]
          simp only [Bool.not_false, Bool.true_and, Option.map_some, Option.getD_some]
          rw [Array.all_eq_true']
          intro e he
          unfold backB at hb
          have h1 := List.all_eq_true.1 hb i (List.mem_range.2 hs)
          rw [ho] at h1
          have h2 := (List.all_eq_true.1 h1) e (Array.mem_toList_iff.2 he)
          cases hbd : Region.binds .any e with
          | false => rfl
          | true =>
            rw [hbd] at h2
            have h3 : e.on < i := by simpa using h2
            have h4 := ih e.on (by omega) (by omega)
            have h5 : e.on < listed.size := by omega
            rw [Array.getD_eq_getD_getElem?, Array.getElem?_eq_getElem h5] at h4 ⊢
            simpa using h4
        rw [h] at hr
        cases hr
section
variable {P : Program} {ops : Array Oper} {Q : Exit → Act → World → Prop}
theorem wp_region_good {id : Nat} {a0 : Act} {w : World} (hm : P.follows .mixedOrders = true) (hb : backB ops = true) (F : (Nat → Value) → Act) (f0 : Nat → Value) (ha : a0 = F f0) (C : World → Prop) (S : Nat → Value → World → Prop) (T : World → World → Prop) (hC : C w.drew)
    (hstab : ∀ j v W W', S j v W → T W W' → S j v W')
    (hstep : ∀ i, i < ops.size → ∀ f W, C W → (∀ j, waits ops i j = true → S j (f j) W) → wpOp P ops Q i (fun a' W' => ∃ v, a' = F (upd f i v) ∧ C W' ∧ T W W' ∧ S i v W') (F f) W)
    (hdone : ∀ f W, C W → (∀ j, j < ops.size → S j (f j) W) → Q .normal (F f) W) : (Code.region id ops true).wp P Q a0 w := by
  refine wp_region_inv hm (fun listed a W => listed.size = ops.size ∧ ∃ f, a = F f ∧ C W ∧ ∀ j, j < ops.size → listed.getD j false = true → S j (f j) W) ?_ ?_ ?_
  · exact ⟨by simp, f0, ha, hC, fun j hj h => by simp [Array.getD_eq_getD_getElem?, hj] at h⟩
  · rintro listed a W ⟨hsz, f, rfl, hW, hS⟩ hr
    refine hdone f W hW fun j hj => hS j hj ?_
    have h1 := all_listed hsz hb hr (j + 1) j (by omega) hj
    have h2 : j < listed.size := by omega
    rw [Array.getD_eq_getD_getElem?, Array.getElem?_eq_getElem h2] at h1 ⊢
    simpa using h1
  · rintro listed a W i ⟨hsz, f, rfl, hW, hS⟩ hi
    have his := (ready_open hi).1
    refine wpOp_mono ?_ (hstep i his f W hW fun j hj => ?_)
    · rintro a' W' ⟨v, rfl, h1, h2, h3⟩
      refine ⟨by simp [hsz], upd f i v, rfl, h1, fun j hj hl => ?_⟩
      by_cases e : j = i
      · subst e
        rw [upd_same]
        exact h3
      · rw [upd_other e]
        refine hstab j _ W W' (hS j hj ?_) h2
        rw [Array.getD_eq_getD_getElem?, Array.getElem?_setIfInBounds, if_neg (fun q => e q.symm)] at hl
        rw [Array.getD_eq_getD_getElem?]
        exact hl
    · have h1 := ready_waits hi j hj
      refine hS j ?_ h1
      have h2 : j < listed.size := by
        rcases Nat.lt_or_ge j listed.size with h | h
        · exact h
        · rw [Array.getD_eq_getD_getElem?, Array.getElem?_eq_none h] at h1; cases h1
      omega
/-- an operation that is carried out -/
theorem wpOp_yes {i : Nat} {o : Oper} {a : Act} {w : World} {K : Act → World → Prop} (ho : ops[i]? = some o) (hw : Region.wanted o (yielded ops a.tmps) = true) (h : ∀ K' : Act → World → Prop, (∀ a w, K a w → K' a w) → o.wp P a w K' Q) : wpOp P ops Q i K a w := by
  unfold wpOp
  rw [ho]
  simp only [hw, if_true]
  exact .inl (h K fun _ _ q => q)
/-- one that is not -/
theorem wpOp_no {i : Nat} {o : Oper} {a : Act} {w : World} {K : Act → World → Prop} (ho : ops[i]? = some o) (hw : Region.wanted o (yielded ops a.tmps) = false) (h : K (a.put o.dst undef) w) : wpOp P ops Q i K a w := by
  unfold wpOp
  rw [ho]
  simp only [hw]
  exact h
end
end Go.Proofs.YtoldfepeldbcpaaDoor
