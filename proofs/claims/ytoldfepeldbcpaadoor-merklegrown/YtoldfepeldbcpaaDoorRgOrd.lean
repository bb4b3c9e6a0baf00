/- A region that draws its order, one obligation for each operation, where what an operation left may end with a later one. -/
import Derived.Test.YtoldfepeldbcpaaDoorRgGood
namespace Go.Proofs.YtoldfepeldbcpaaDoor
open Go.RowKit
/-- what comes ahead of an operation in every order -/
def preB (ops : Array Oper) (pre : Nat → List Nat) : Bool := (List.range ops.size).all fun i => (pre i).all fun p => waits ops i p || (List.range i).any fun m => waits ops i m && (pre m).contains p
section
variable {P : Program} {ops : Array Oper} {Q : Exit → Act → World → Prop}
theorem wp_region_ord {id : Nat} {a0 : Act} {w : World} (hm : P.follows .mixedOrders = true) (hb : backB ops = true) (pre brk : Nat → List Nat) (hp : preB ops pre = true) (F : (Nat → Value) → Act) (f0 : Nat → Value) (ha : a0 = F f0) (C : World → Prop) (S : Nat → Value → World → Prop) (T : Nat → World → World → Prop) (hC : C w.drew)
    (hstab : ∀ i j v W W', i < ops.size → j < ops.size → j ≠ i → i ∉ pre j → i ∉ brk j → (∀ p ∈ pre i, p ∉ brk j) → C W → S j v W → T i W W' → S j v W')
    (hstep : ∀ i, i < ops.size → ∀ f W, C W → (∀ j, waits ops i j = true → (∀ b ∈ brk j, b = i) → S j (f j) W) → wpOp P ops Q i (fun a' W' => ∃ v, a' = F (upd f i v) ∧ C W' ∧ T i W W' ∧ S i v W') (F f) W)
    (hdone : ∀ f W, C W → (∀ j, j < ops.size → brk j = [] → S j (f j) W) → Q .normal (F f) W) : (Code.region id ops true).wp P Q a0 w := by
  have hpre : ∀ i, i < ops.size → ∀ p ∈ pre i, waits ops i p = true ∨ ∃ m, m < i ∧ waits ops i m = true ∧ p ∈ pre m := by
    intro i hi p hpi
    have h1 := List.all_eq_true.1 (List.all_eq_true.1 hp i (List.mem_range.2 hi)) p hpi
    rw [Bool.or_eq_true] at h1
    rcases h1 with h1 | h1
    · exact .inl h1
    · rw [List.any_eq_true] at h1
      obtain ⟨m, hm, h2⟩ := h1
      rw [Bool.and_eq_true] at h2
      exact .inr ⟨m, List.mem_range.1 hm, h2.1, by simpa using h2.2⟩
  refine wp_region_inv hm (fun listed a W => listed.size = ops.size ∧ (∀ j, listed.getD j false = true → ∀ p ∈ pre j, listed.getD p false = true) ∧ ∃ f, a = F f ∧ C W ∧ ∀ j, j < ops.size → listed.getD j false = true → (∀ b ∈ brk j, listed.getD b false = false) → S j (f j) W) ?_ ?_ ?_
  · refine ⟨by simp, fun j h => ?_, f0, ha, hC, fun j hj h => ?_⟩
    · simp [Array.getD_eq_getD_getElem?, Array.getElem?_replicate] at h
      split at h <;> cases h
    · simp [Array.getD_eq_getD_getElem?, hj] at h
  · rintro listed a W ⟨hsz, _, f, rfl, hW, hS⟩ hr
    refine hdone f W hW fun j hj hbk => hS j hj ?_ (fun b hbb => by rw [hbk] at hbb; cases hbb)
    have h1 := all_listed hsz hb hr (j + 1) j (by omega) hj
    have h2 : j < listed.size := by omega
    rw [Array.getD_eq_getD_getElem?, Array.getElem?_eq_getElem h2] at h1 ⊢
    simpa using h1
  · rintro listed a W i ⟨hsz, hcl, f, rfl, hW, hS⟩ hi
    obtain ⟨his, hio⟩ := ready_open hi
    have hif : listed.getD i false = false := by
      have h2 : i < listed.size := by omega
      rw [Array.getD_eq_getD_getElem?, Array.getElem?_eq_getElem h2] at hio ⊢
      simpa using hio
    have hset : ∀ j, j ≠ i → (listed.setIfInBounds i true).getD j false = listed.getD j false := fun j e => by
      rw [Array.getD_eq_getD_getElem?, Array.getElem?_setIfInBounds, if_neg (fun q => e q.symm), Array.getD_eq_getD_getElem?]
    have hall : ∀ p ∈ pre i, listed.getD p false = true := fun p hpi => by
      rcases hpre i his p hpi with h | ⟨m, _, h, hm⟩
      · exact ready_waits hi p h
      · exact hcl m (ready_waits hi m h) p hm
    have hlt : ∀ j, listed.getD j false = true → j < ops.size := fun j h => by
      rcases Nat.lt_or_ge j listed.size with h2 | h2
      · omega
      · rw [Array.getD_eq_getD_getElem?, Array.getElem?_eq_none h2] at h; cases h
    refine wpOp_mono ?_ (hstep i his f W hW fun j hj hbk => ?_)
    · rintro a' W' ⟨v, rfl, h1, h2, h3⟩
      refine ⟨by simp [hsz], fun j hl p hpj => ?_, upd f i v, rfl, h1, fun j hj hl hbk => ?_⟩
      · have hp1 : listed.getD p false = true := by
          by_cases e : j = i
          · subst e; exact hall p hpj
          · rw [hset j e] at hl; exact hcl j hl p hpj
        by_cases e : p = i
        · subst e; rw [hif] at hp1; cases hp1
        · rw [hset p e]; exact hp1
      · by_cases e : j = i
        · subst e
          rw [upd_same]
          exact h3
        · rw [upd_other e]
          rw [hset j e] at hl
          have hbk2 : ∀ b ∈ brk j, b ≠ i ∧ listed.getD b false = false := fun b hb2 => by
            have h4 := hbk b hb2
            by_cases eb : b = i
            · subst eb
              rw [Array.getD_eq_getD_getElem?, Array.getElem?_setIfInBounds, if_pos rfl, if_pos (by omega)] at h4
              cases h4
            · exact ⟨eb, by rw [hset b eb] at h4; exact h4⟩
          refine hstab i j _ W W' his hj e (fun q => ?_) (fun q => (hbk2 i q).1 rfl) (fun p hpi q => ?_) hW (hS j hj hl fun b hb2 => (hbk2 b hb2).2) h2
          · have := hcl j hl i q; rw [hif] at this; cases this
          · have := hall p hpi; rw [(hbk2 p q).2] at this; cases this
    · have h1 := ready_waits hi j hj
      exact hS j (hlt j h1) h1 fun b hb2 => by rw [hbk b hb2]; exact hif
end
end Go.Proofs.YtoldfepeldbcpaaDoor
