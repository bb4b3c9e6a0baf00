/- Put, Drop, Find and Range, whatever they come to: a tree as a list. -/
import Derived.Test.YtkigenldiinioaaGreatDoorQ32M
namespace Go.Proofs.YtkigenldiinioaaGreatDoor
open Go.RowKit Go.Shelf
open Vl (V)
attribute [local go_sem ↓] Go.wp_at_zero Go.wp_at_succ
section
variable {w : World} {F : Nat → Prop} {tb : Nat} {t : Bt.T} {key : Nat → V} {ids : Nat → List Nat} {ir : Nat → Nat} {n : Nat}
theorem TA.at_bad (h : TA w F tb t key ids ir n) (hU : Bn.HasU w) {x : V} {v : Value} (hv : Rep w w.heap.size x v) (hx : Bt.kerr x ≠ 0) (W : World) (hW : Below w.heap.size w W) :
    Calls Tryz.prog 34 #[.pointer (some ⟨tb, 0, none⟩), v] W fun ex w' => ex = .returned (.tuple #[.pointer none, .int .i64 (Bt.kerr x : Int)]) ∧ Below W.heap.size W w' := by
  refine (at_c tb _ t w.heap.size key x v W (hU.stays hW) hW.size ((hW.block _ (lt_of_row h.box)).trans h.box) (RT.stays hW h.rt) h.up (rep_stays hW (Nat.le_refl _) _ _ hv)).mono ?_
  rintro ex w' ⟨rfl, hb⟩
  exact ⟨by rw [if_neg hx], hb⟩
set_option maxHeartbeats 1000000 in
theorem put_kerr (h : TA w F tb t key ids ir n) (hU : Bn.HasU w) {x : V} {v : Value} (hv : Rep w w.heap.size x v) (hx : Bt.kerr x ≠ 0) (id : Nat) :
    Calls Tryz.prog 24 #[.pointer (some ⟨tb, 0, none⟩), v, .int .u64 (id : Int)] w fun ex w' => ex = .returned (.int .i64 (Bt.kerr x : Int)) ∧ Below w.heap.size w w' := by
  obtain ⟨ke, hke⟩ : ∃ ke, ke = Bt.kerr x := ⟨_, rfl⟩
  have CA : Hid (∀ W, Below w.heap.size w W → Calls Tryz.prog 34 #[.pointer (some ⟨tb, 0, none⟩), v] W fun ex w' => ex = .returned (.tuple #[.pointer none, .int .i64 (ke : Int)]) ∧ Below W.heap.size W w') := fun W hW => by
    rw [hke]; exact h.at_bad hU hv hx W hW
  rw [← hke] at hx ⊢
  have q1 : ((ke : Int) != 0) = true := by simp; omega
  have q2 : ¬ ((ke : Int) = 0) := by omega
  obtain ⟨d0, d1, d2, d3, d4, d5, rfl⟩ := repV_box hv
  clear h hU hv hx hke
  go_enter Tryz.func24, Tryz.ntmps24
  go_wp2_with (go_at_call 34; refine (CA.out _ (below_new _ _)).mono ?_; rintro ex w2 ⟨rfl, hb⟩; have HB2 : Hid (Below w.heap.size w w2) := (below_new _ _).trans (hb.mono (by simp)); clear hb)
  go_ret
  exact ⟨rfl, HB2.out⟩
set_option maxHeartbeats 1000000 in
theorem drop_kerr (h : TA w F tb t key ids ir n) (hU : Bn.HasU w) {x : V} {v : Value} (hv : Rep w w.heap.size x v) (hx : Bt.kerr x ≠ 0) (id : Nat) :
    Calls Tryz.prog 25 #[.pointer (some ⟨tb, 0, none⟩), v, .int .u64 (id : Int)] w fun ex w' => ex = .returned (.int .i64 (Bt.kerr x : Int)) ∧ Below w.heap.size w w' := by
  obtain ⟨ke, hke⟩ : ∃ ke, ke = Bt.kerr x := ⟨_, rfl⟩
  have CA : Hid (∀ W, Below w.heap.size w W → Calls Tryz.prog 34 #[.pointer (some ⟨tb, 0, none⟩), v] W fun ex w' => ex = .returned (.tuple #[.pointer none, .int .i64 (ke : Int)]) ∧ Below W.heap.size W w') := fun W hW => by
    rw [hke]; exact h.at_bad hU hv hx W hW
  rw [← hke] at hx ⊢
  have q1 : ((ke : Int) != 0) = true := by simp; omega
  have q2 : ¬ ((ke : Int) = 0) := by omega
  obtain ⟨d0, d1, d2, d3, d4, d5, rfl⟩ := repV_box hv
  clear h hU hv hx hke
  go_enter Tryz.func25, Tryz.ntmps25
  go_wp2_with (go_at_call 34; refine (CA.out _ (below_new _ _)).mono ?_; rintro ex w2 ⟨rfl, hb⟩; have HB2 : Hid (Below w.heap.size w w2) := (below_new _ _).trans (hb.mono (by simp)); clear hb)
  go_ret
  exact ⟨rfl, HB2.out⟩
set_option maxHeartbeats 1000000 in
/-- no room -/
theorem put_full (h : TA w F tb t key ids ir n) (hU : Bn.HasU w) {x : V} {v : Value} (hv : Rep w w.heap.size x v) (hx : Bt.kerr x = 0) {id : Nat} (hh : ∀ e, Bt.at? key x (Bt.flat t) = some e → Bt.nhas id (ids e) = false) (hn : 1024 ≤ n) :
    Calls Tryz.prog 24 #[.pointer (some ⟨tb, 0, none⟩), v, .int .u64 (id : Int)] w fun ex w' => ex = .returned (.int .i64 8) ∧ Below w.heap.size w w' := by
  obtain ⟨po, i, hpo⟩ : ∃ po i, Hid ((∀ W, Below w.heap.size w W → Calls Tryz.prog 34 #[.pointer (some ⟨tb, 0, none⟩), v] W fun ex w' => ex = .returned (.tuple #[.pointer po, .int .i64 0]) ∧ Below W.heap.size W w') ∧ (∀ W, Below w.heap.size w W → Calls Tryz.prog 39 #[.pointer po, .int .u64 (id : Int)] W fun ex w' => ex = .returned (.tuple #[.int .i64 (i : Nat), .bool false]) ∧ Below W.heap.size W w')) := by
    cases he : Bt.at? key x (Bt.flat t) with
    | none =>
      refine ⟨none, 0, fun W hW => ?_, fun W hW => eplace_nil id W⟩
      have := h.at_has hU hv hx W hW
      rw [he] at this
      exact this
    | some e =>
      refine ⟨some ⟨e, 0, none⟩, Bt.nspot id (ids e), fun W hW => ?_, fun W hW => ?_⟩
      · have := h.at_has hU hv hx W hW
        rw [he] at this
        exact this
      · have := h.place (Bt.at_mem he) id W hW
        rw [hh e he] at this
        exact this
  have HT : Hid (∀ W, Below w.heap.size w W → W.cell? ⟨tb, 1, none⟩ = some (.int .i64 (n : Int))) := fun W hW => cells_at ((hW.block _ (lt_of_row h.box)).trans h.box) 1 _ rfl
  obtain ⟨d0, d1, d2, d3, d4, d5, rfl⟩ := repV_box hv
  have qn : (1024 : Int) ≤ (n : Int) := by omega
  have qd : decide ((1024 : Int) ≤ (n : Int)) = true := decide_eq_true qn
  clear h hU hv hx hh hn
  go_enter Tryz.func24, Tryz.ntmps24
  go_wp2_with (first | (go_at_call 34; refine (hpo.out.1 _ (below_new _ _)).mono ?_; rintro ex w2 ⟨rfl, hb⟩; have HB2 : Hid (Below w.heap.size w w2) := (below_new _ _).trans (hb.mono (by simp)); clear hb) | (go_at_call 39; refine (hpo.out.2 _ HB2.out).mono ?_; rintro ex w3 ⟨rfl, hb⟩; have HB3 : Hid (Below w.heap.size w w3) := HB2.out.trans (hb.mono HB2.out.size); clear hb; have t1 := HT.out w3 HB3.out))
  go_ret
  exact ⟨rfl, HB3.out⟩
set_option maxHeartbeats 1000000 in
/-- Drop of a number that a key that is there has not -/
theorem drop_not (h : TA w F tb t key ids ir n) (hU : Bn.HasU w) {x : V} {v : Value} (hv : Rep w w.heap.size x v) (hx : Bt.kerr x = 0) {e id : Nat} (he : Bt.at? key x (Bt.flat t) = some e) (hh : Bt.nhas id (ids e) = false) :
    Calls Tryz.prog 25 #[.pointer (some ⟨tb, 0, none⟩), v, .int .u64 (id : Int)] w fun ex w' => ex = .returned (.int .i64 7) ∧ Below w.heap.size w w' := by
  have CA : Hid (∀ W, Below w.heap.size w W → Calls Tryz.prog 34 #[.pointer (some ⟨tb, 0, none⟩), v] W fun ex w' => ex = .returned (.tuple #[.pointer (some ⟨e, 0, none⟩), .int .i64 0]) ∧ Below W.heap.size W w') := fun W hW => by
    have := h.at_has hU hv hx W hW
    rw [he] at this
    exact this
  obtain ⟨i, hi⟩ : ∃ i, i = Bt.nspot id (ids e) := ⟨_, rfl⟩
  have CP : Hid (∀ W, Below w.heap.size w W → Calls Tryz.prog 39 #[.pointer (some ⟨e, 0, none⟩), .int .u64 (id : Int)] W fun ex w' => ex = .returned (.tuple #[.int .i64 (i : Int), .bool false]) ∧ Below W.heap.size W w') := fun W hW => by
    have := h.place (Bt.at_mem he) id W hW
    rw [hh, ← hi] at this
    exact this
  obtain ⟨d0, d1, d2, d3, d4, d5, rfl⟩ := repV_box hv
  clear h hU hv hx he hh hi
  go_enter Tryz.func25, Tryz.ntmps25
  go_wp2_with (first | (go_at_call 34; refine (CA.out _ (below_new _ _)).mono ?_; rintro ex w2 ⟨rfl, hb⟩; have HB2 : Hid (Below w.heap.size w w2) := (below_new _ _).trans (hb.mono (by simp)); clear hb) | (go_at_call 39; refine (CP.out _ HB2.out).mono ?_; rintro ex w3 ⟨rfl, hb⟩; have HB3 : Hid (Below w.heap.size w w3) := HB2.out.trans (hb.mono HB2.out.size); clear hb))
  go_ret
  exact ⟨rfl, HB3.out⟩
end
/-- what a change leaves of a tree's memory -/
structure Chg (w w' : World) (F O F' O' : Nat → Prop) : Prop where
  kept : Kept O w w'
  up : ∀ g, F g → F' g
  new : ∀ g, F' g → F g ∨ w.heap.size ≤ g
  onew : ∀ g, O' g → O g ∨ w.heap.size ≤ g
section
variable {w : World} {F O : Nat → Prop} {tb : Nat} {L : Bt.KL}
theorem Chg.of_below {w' : World} (h : Below w.heap.size w w') : Chg w w' F O F O := ⟨Kept.of_below h, fun _ q => q, fun _ q => .inl q, fun _ q => .inl q⟩
theorem lhas_cont {t : Bt.T} {key : Nat → V} {ids : Nat → List Nat} {x : V} {id : Nat} (hL : L = Bt.cont t key ids) : Bt.lhas x id L = match Bt.at? key x (Bt.flat t) with | some e => Bt.nhas id (ids e) | none => false := by
  rw [Bt.lhas, Bt.lids, hL, Bt.cont, Bt.lat_cont]
  cases Bt.at? key x (Bt.flat t) with
  | none => rfl
  | some e => rfl
theorem lat_is {t : Bt.T} {key : Nat → V} {ids : Nat → List Nat} {x : V} (hL : L = Bt.cont t key ids) : (Bt.lat x L).isSome = (Bt.at? key x (Bt.flat t)).isSome := by
  rw [hL, Bt.cont, Bt.lat_cont, Option.isSome_map]
/-- Put, whatever it comes to -/
theorem put_a (h : TSt w F O tb L) (hU : Bn.HasU w) {x : V} {v : Value} (hv : Rep w w.heap.size x v) (id : Nat) :
    Calls Tryz.prog 24 #[.pointer (some ⟨tb, 0, none⟩), v, .int .u64 (id : Int)] w fun ex w' => ex = .returned (.int .i64 (Bt.perr x id L : Int)) ∧ ∃ F' O', TSt w' F' O' tb (if Bt.perr x id L = 0 then Bt.lput x id L else L) ∧ Chg w w' F O F' O' := by
  have h0 := h
  obtain ⟨t, key, ids, ir, n, hT, hL, ho, hoF⟩ := h
  have hs := (TSt.sum (O := O) hT hL hoF).1
  have hle := hT.le
  have hat := lhas_cont (x := x) (id := id) hL
  have his := lat_is (x := x) hL
  have stay : ∀ {m : Nat}, Bt.perr x id L = m → m ≠ 0 → (Calls Tryz.prog 24 #[.pointer (some ⟨tb, 0, none⟩), v, .int .u64 (id : Int)] w fun ex w' => ex = .returned (.int .i64 (m : Int)) ∧ Below w.heap.size w w') → Calls Tryz.prog 24 #[.pointer (some ⟨tb, 0, none⟩), v, .int .u64 (id : Int)] w fun ex w' => ex = .returned (.int .i64 (Bt.perr x id L : Int)) ∧ ∃ F' O', TSt w' F' O' tb (if Bt.perr x id L = 0 then Bt.lput x id L else L) ∧ Chg w w' F O F' O' := by
    intro m hm h1 hc
    refine hc.mono ?_
    rintro ex w' ⟨rfl, hb⟩
    rw [hm, if_neg h1]
    exact ⟨rfl, F, O, h0.stays hb, Chg.of_below hb⟩
  by_cases hx : Bt.kerr x = 0
  · by_cases hh : Bt.lhas x id L = true
    · refine stay (m := 18) (by rw [Bt.perr, if_neg (by simpa using hx), if_pos hh]) (by decide) ?_
      cases he : Bt.at? key x (Bt.flat t) with
      | none => rw [hat, he] at hh; cases hh
      | some e =>
        rw [hat, he] at hh
        exact put_twice hT hU hv hx he hh
    · have hh' : Bt.lhas x id L = false := by simpa using hh
      by_cases hn : 1024 ≤ n
      · refine stay (m := 8) (by rw [Bt.perr, if_neg (by simpa using hx), if_neg hh, if_pos (by omega)]) (by decide) ?_
        refine put_full hT hU hv hx (fun e he => ?_) hn
        rw [hat, he] at hh'
        exact hh'
      · have hp : Bt.perr x id L = 0 := by rw [Bt.perr, if_neg (by simpa using hx), if_neg hh, if_neg (by omega)]
        rw [hp, if_pos rfl]
        cases he : Bt.at? key x (Bt.flat t) with
        | none =>
          have hlp : Bt.lput x id L = Bt.lnew x id L := by rw [Bt.lput, his, he, if_neg (by simp)]
          have hne : ∀ p ∈ L, Vl.cmp p.1 x ≠ 0 := fun p hp q => by
            rw [hL, Bt.cont] at hp
            obtain ⟨e, hem, rfl⟩ := List.mem_map.1 hp
            have := List.find?_eq_none.1 he e hem
            simp at this
            exact this q
          rw [hlp]
          refine (put_t h0 hU hv hx (Vl.check_small x 0 hx) hne (by omega)).mono ?_
          rintro ex w' ⟨rfl, F', O', k1, k2, k3, k4, k5, k6⟩
          exact ⟨rfl, F', O', k1, k2, k3, k4, k5⟩
        | some e =>
          rw [hat, he] at hh'
          have hlp : Bt.lput x id L = Bt.lon x (Bt.nins id) L := by rw [Bt.lput, his, he, if_pos (by simp)]
          rw [hlp]
          refine (put_more hT hU hv hx he hh' (by omega)).mono ?_
          rintro ex w' ⟨rfl, i', k4, k5, k6⟩
          refine ⟨rfl, _, fun g => O g ∨ OB tb t (Bt.set ir e i') g, ⟨t, _, _, _, _, k5, ?_, fun g hg => .inr hg, fun g hg => ?_⟩, k4.mono ho, fun g hg => .inl hg, fun g hg => ?_, fun g hg => ?_⟩
          · rw [Bt.cont, Bt.lon_cont (g := Bt.nins id) hT.rises he, hL, Bt.cont]
          · rcases hg with q | q
            · exact .inl (hoF g q)
            · exact k5.ob q
          · rcases hg with q | q
            · exact .inl q
            · exact .inr q.1
          · rcases hg with q | q
            · exact .inl q
            · exact (k6 g q).imp (ho g) (fun q => q)
  · refine stay (m := Bt.kerr x) (by rw [Bt.perr, if_pos hx]) hx (put_kerr hT hU hv hx id)
/-- Drop, whatever it comes to -/
theorem drop_a (h : TSt w F O tb L) (hU : Bn.HasU w) {x : V} {v : Value} (hv : Rep w w.heap.size x v) (hvF : ∀ W, Kept F w W → Rep W W.heap.size x v) (id : Nat) :
    Calls Tryz.prog 25 #[.pointer (some ⟨tb, 0, none⟩), v, .int .u64 (id : Int)] w fun ex w' => ex = .returned (.int .i64 (Bt.derr x id L : Int)) ∧ ∃ F' O', TSt w' F' O' tb (if Bt.derr x id L = 0 then Bt.ldrop x id L else L) ∧ Chg w w' F O F' O' := by
  have h0 := h
  obtain ⟨t, key, ids, ir, n, hT, hL, ho, hoF⟩ := h
  have hat := lhas_cont (x := x) (id := id) hL
  have stay : ∀ {m : Nat}, Bt.derr x id L = m → m ≠ 0 → (Calls Tryz.prog 25 #[.pointer (some ⟨tb, 0, none⟩), v, .int .u64 (id : Int)] w fun ex w' => ex = .returned (.int .i64 (m : Int)) ∧ Below w.heap.size w w') → Calls Tryz.prog 25 #[.pointer (some ⟨tb, 0, none⟩), v, .int .u64 (id : Int)] w fun ex w' => ex = .returned (.int .i64 (Bt.derr x id L : Int)) ∧ ∃ F' O', TSt w' F' O' tb (if Bt.derr x id L = 0 then Bt.ldrop x id L else L) ∧ Chg w w' F O F' O' := by
    intro m hm h1 hc
    refine hc.mono ?_
    rintro ex w' ⟨rfl, hb⟩
    rw [hm, if_neg h1]
    exact ⟨rfl, F, O, h0.stays hb, Chg.of_below hb⟩
  by_cases hx : Bt.kerr x = 0
  · cases he : Bt.at? key x (Bt.flat t) with
    | none =>
      refine stay (m := 7) (by rw [Bt.derr, if_neg (by simpa using hx), hat, he, if_neg (by simp)]) (by decide) ?_
      exact drop_unknown hT hU hv hx he
    | some e =>
      rw [he] at hat
      by_cases hh : Bt.nhas id (ids e) = true
      · have hp : Bt.derr x id L = 0 := by rw [Bt.derr, if_neg (by simpa using hx), hat, if_pos hh]
        rw [hp, if_pos rfl]
        have hem := Bt.at_mem he
        have hasc := hT.asc e hem
        have hless := Bt.nrem_less hasc.1 hh
        have hone : ∀ f ∈ Bt.flat t, 1 ≤ (ids f).length := fun f hf => (hT.asc f hf).2
        have hll : (Bt.nrem id (ids e)).length + 1 = (ids e).length := by
          rw [← hless]
          have h1 := Bt.nspot_at hh
          have h2 := (List.getElem?_eq_some_iff.1 h1).1
          rw [Bt.less_length h2]
          omega
        by_cases h2 : 2 ≤ (ids e).length
        · refine (drop_less hT hU hv hx he hh h2).mono ?_
          rintro ex w' ⟨rfl, k4, k5⟩
          refine ⟨rfl, F, fun g => O g ∨ OB tb t ir g, ⟨t, _, _, _, _, k5, ?_, fun g hg => .inr hg, fun g hg => ?_⟩, k4.mono ho, fun g hg => hg, fun g hg => .inl hg, fun g hg => ?_⟩
          · rw [hless, Bt.cont, Bt.lon_cont (g := Bt.nrem id) hT.rises he, hL, Bt.cont]
            exact (Bt.drop_on hT.rises he (by omega) hone).symm
          · rcases hg with q | q
            · exact hoF g q
            · exact k5.ob q
          · rcases hg with q | q
            · exact .inl q
            · exact .inl (ho g q)
        · refine (drop_last hT hU hv hvF hx he hh (by have := hasc.2; omega)).mono ?_
          rintro ex w' ⟨rfl, t', k1, k4, k5, k6⟩
          refine ⟨rfl, _, fun g => O g ∨ OB tb t' ir g, ⟨t', _, _, _, _, k5, ?_, fun g hg => .inr hg, fun g hg => ?_⟩, k4.mono ho, fun g hg => .inl hg, fun g hg => ?_, fun g hg => ?_⟩
          · rw [Bt.cont, k1, hL, Bt.cont]
            exact (Bt.drop_cont hT.rises he (List.eq_nil_of_length_eq_zero (by omega)) hone).symm
          · rcases hg with q | q
            · exact .inl (hoF g q)
            · exact k5.ob q
          · rcases hg with q | q
            · exact .inl q
            · exact .inr q.1
          · rcases hg with q | q
            · exact .inl q
            · exact (k6 g q).imp (ho g) (fun q => q)
      · have hh' : Bt.nhas id (ids e) = false := by simpa using hh
        refine stay (m := 7) (by rw [Bt.derr, if_neg (by simpa using hx), hat, if_neg hh]) (by decide) ?_
        exact drop_not hT hU hv hx he hh'
  · refine stay (m := Bt.kerr x) (by rw [Bt.derr, if_pos hx]) hx (drop_kerr hT hU hv hx id)
/-- Find, whatever it comes to -/
theorem find_a (h : TSt w F O tb L) (hU : Bn.HasU w) {x : V} {v : Value} (hv : Rep w w.heap.size x v) :
    Calls Tryz.prog 13 #[.pointer (some ⟨tb, 0, none⟩), v] w fun ex w' => ∃ pi m cap, ex = .returned (.tuple #[.slice pi m cap, .int .i64 (Bt.kerr x : Int)]) ∧ m = (if Bt.kerr x = 0 then Bt.lids x L else []).length ∧ NumsAt w' pi (if Bt.kerr x = 0 then Bt.lids x L else []) ∧ Below w.heap.size w w' := by
  by_cases hx : Bt.kerr x = 0
  · rw [hx, if_pos rfl]
    cases hl : Bt.lat x L with
    | some p =>
      rw [Bt.lids_some hl]
      have hm := List.mem_of_find?_eq_some hl
      have hc : Vl.cmp p.1 x = 0 := by simpa using List.find?_some hl
      refine (find_t h hU hv hx (k := p.1) (l := p.2) hm hc).mono ?_
      rintro ex w' ⟨pi, cap, rfl, hN, hb⟩
      exact ⟨pi, _, cap, rfl, rfl, hN, hb⟩
    | none =>
      rw [Bt.lids_none hl]
      obtain ⟨t, key, ids, ir, n, hT, hL, ho, hoF⟩ := h
      have hn : Bt.at? key x (Bt.flat t) = none := by
        have := lat_is (x := x) hL
        rw [hl] at this
        cases he : Bt.at? key x (Bt.flat t) with
        | none => rfl
        | some e => rw [he] at this; cases this
      refine (findT_miss tb _ t w.heap.size key x v w hU (Nat.le_refl _) hT.box hT.rt hT.up hv (fun _ => by rw [Bt.look_flat hT.wf hT.rises]; exact hn)).mono ?_
      rintro ex w' ⟨rfl, hb⟩
      rw [hx]
      exact ⟨_, _, _, rfl, rfl, fun m y hy => by simp at hy, hb⟩
  · rw [if_neg hx]
    obtain ⟨t, key, ids, ir, n, hT, hL, ho, hoF⟩ := h
    refine (findT_miss tb _ t w.heap.size key x v w hU (Nat.le_refl _) hT.box hT.rt hT.up hv (fun q => absurd q hx)).mono ?_
    rintro ex w' ⟨rfl, hb⟩
    exact ⟨_, _, _, rfl, rfl, fun m y hy => by simp at hy, hb⟩
end
end Go.Proofs.YtkigenldiinioaaGreatDoor
