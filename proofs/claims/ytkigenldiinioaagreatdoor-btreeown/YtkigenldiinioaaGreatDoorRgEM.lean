/- Range, whatever the bounds: entries in new memory, in a row. -/
import Derived.Test.YtkigenldiinioaaGreatDoorBtRcM
import Derived.Test.YtkigenldiinioaaGreatDoorApEM
namespace Go.Proofs.YtkigenldiinioaaGreatDoor
open Go.RowKit Go.Shelf
open Vl (V)
theorem RI.entsA {w W : World} {B : Nat} {key : Nat → V} {ids : Nat → List Nat} {es : List Nat} {v : Value} (h : RI w B key ids es v W) : ∃ a c, v = .slice a es.length c ∧ EntsA W (fun g => g < W.heap.size ∧ B ≤ g) a (es.map fun e => (key e, ids e)) := by
  obtain ⟨cs, h1, h2, h3⟩ := h.ents
  rcases h2.2 with ⟨rfl, h0⟩ | ⟨g, cap, cur, rfl, hBg, hcr, _, _, _, htk⟩
  · refine ⟨none, 0, by rw [h0], fun j p hp => ?_⟩
    have : es = [] := List.eq_nil_of_length_eq_zero h0
    rw [this] at hp
    simp at hp
  · refine ⟨_, cap, rfl, fun j p hp => ?_⟩
    rw [List.getElem?_map] at hp
    cases hq : es[j]? with
    | none => rw [hq] at hp; cases hp
    | some e =>
      rw [hq] at hp
      obtain rfl := Option.some.inj hp
      have hjl := (List.getElem?_eq_some_iff.1 hq).1
      obtain ⟨c, hc⟩ : ∃ c, cs[j]? = some c := ⟨_, List.getElem?_eq_getElem (by omega)⟩
      obtain ⟨k0, k1, k2, k3, k4, k5, i, cp, rfl, hr, hRA, hi⟩ := h3 j e c hq hc
      obtain ⟨_, hil, hic⟩ := ids_cells hi
      have h7 : ∀ c ∈ cs, c.length = 7 := fun c hc => by
        obtain ⟨m, hm⟩ := List.getElem?_of_mem hc
        have hml := (List.getElem?_eq_some_iff.1 hm).1
        exact (h3 m _ c (List.getElem?_eq_getElem (by omega)) hm).len
      refine ⟨g, _, rfl, ⟨lt_of_row hcr, by omega⟩, ⟨k0, k1, k2, k3, k4, k5, some ⟨i, 0, none⟩, cp, rfl, repA_stays (fun _ _ => rfl) (fun g hg => ⟨hg.1.2.1, by have := hg.1.1; omega⟩) _ _ hr, fun m x hx => ⟨i, rfl, ⟨hil, by have := hRA.1.1; omega⟩, ?_⟩⟩, fun r u hr => ?_⟩
      · have := hic m x hx
        rw [Nat.zero_add] at this
        exact this
      · have hr7 : r < 7 := (List.getElem?_eq_some_iff.1 hr).1
        refine cells_at hcr _ _ ?_
        have h8 := flat7 h7 hc hr7
        rw [hr, ← htk, List.getElem?_take_of_lt (by omega), Array.getElem?_toList] at h8
        exact h8
/-- what Range gives, whatever the bounds, in new memory -/
theorem range_e {w : World} {F O : Nat → Prop} {tb : Nat} {L : Bt.KL} (h : TSt w F O tb L) (hU : Bn.HasU w) (lo hi : Option (Bool × V)) (lv hv : Value) (hlo : Bnd w w.heap.size lo lv) (hhi : Bnd w w.heap.size hi hv) :
    Calls Tryz.prog 11 #[.pointer (some ⟨tb, 0, none⟩), lv, hv] w fun ex w' => ∃ a n c, ex = .returned (.tuple #[.slice a n c, .int .i64 (Bt.rerr lo hi : Int)]) ∧ n = (if Bt.rerr lo hi = 0 then L.filter fun p => Bt.inR lo hi p.1 else []).length ∧ n ≤ 1024 ∧ EntsA w' (fun g => g < w'.heap.size ∧ w.heap.size ≤ g) a (if Bt.rerr lo hi = 0 then L.filter fun p => Bt.inR lo hi p.1 else []) ∧ Below w.heap.size w w' := by
  by_cases h0 : Bt.rerr lo hi = 0
  · rw [h0, if_pos rfl]
    have e1 : Bt.berr lo = 0 ∧ Bt.berr hi = 0 := by
      rw [Bt.rerr] at h0
      by_cases q : Bt.berr lo = 0
      · rw [if_neg (by simpa using q)] at h0; exact ⟨q, h0⟩
      · rw [if_pos q] at h0; exact absurd h0 q
    obtain ⟨t, key, ids, ir, n, hT, hL, _, _⟩ := h
    refine (range_ok hT hU lo hi lv hv hlo hhi (fun p hp => by rw [hp] at e1; exact e1.1) (fun p hp => by rw [hp] at e1; exact e1.2)).mono ?_
    rintro ex w' ⟨v, B, rfl, hB, hR⟩
    rw [Bt.wl_flat hT.wf hT.rises] at hR
    obtain ⟨a, c, rfl, hE⟩ := hR.entsA
    have e1 : ((Bt.flat t).filter fun e => Bt.inR lo hi (key e)).map (fun e => (key e, ids e)) = L.filter fun p => Bt.inR lo hi p.1 := by
      rw [hL, Bt.cont, List.filter_map]
      rfl
    have e2 := congrArg List.length e1
    rw [List.length_map] at e2
    rw [e1] at hE
    refine ⟨a, _, c, rfl, e2, ?_, hE.stays (fun _ _ => rfl) (fun g hg => ⟨hg.1, by omega⟩), hR.below⟩
    have := List.length_filter_le (fun e => Bt.inR lo hi (key e)) (Bt.flat t)
    have := hT.keys
    have := hT.le
    omega
  · rw [if_neg h0]
    obtain ⟨t, key, ids, ir, n, hT, _, _, _⟩ := h
    refine (range_bad hT hU lo hi lv hv hlo hhi _ h0 rfl).mono ?_
    rintro ex w' ⟨rfl, hb⟩
    exact ⟨none, 0, 0, rfl, rfl, by omega, EntsA.nil _ _ _, hb⟩
end Go.Proofs.YtkigenldiinioaaGreatDoor
