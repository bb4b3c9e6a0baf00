/- Rows of texts and of turns in memory; whether digests are as many as they must be. -/
import Derived.Test.YtoldfepeldbcpaaDoorMkA
namespace Go.Proofs.YtoldfepeldbcpaaDoor
open Go.RowKit
/-- a slice whose cells hold a list, all below a block -/
def RowOf {α : Type} (enc : α → Value) (W : World) (H : Nat) (v : Value) (l : List α) : Prop :=
  (l = [] ∧ ∃ a c, v = .slice a 0 c) ∨ ∃ b off c, v = .slice (some ⟨b, off, none⟩) l.length c ∧ b < H ∧ ∀ k x, l[k]? = some x → W.cell? ⟨b, off + k, none⟩ = some (enc x)
theorem RowOf.stays {α : Type} {enc : α → Value} {W W' : World} {H H' : Nat} {v : Value} {l : List α} (h : RowOf enc W H v l) (hb : Below H' W W') (hH : H ≤ H') : RowOf enc W' H v l := by
  rcases h with h | ⟨b, off, c, h1, h2, h3⟩
  · exact .inl h
  · exact .inr ⟨b, off, c, h1, h2, fun k x hk => (hb.cell (p := ⟨b, off + k, none⟩) (by show b < H'; omega)).trans (h3 k x hk)⟩
theorem RowOf.mono {α : Type} {enc : α → Value} {W : World} {H H' : Nat} {v : Value} {l : List α} (h : RowOf enc W H v l) (hH : H ≤ H') : RowOf enc W H' v l := by
  rcases h with h | ⟨b, off, c, h1, h2, h3⟩
  · exact .inl h
  · exact .inr ⟨b, off, c, h1, by omega, h3⟩
theorem RowOf.form {α : Type} {enc : α → Value} {W : World} {H : Nat} {v : Value} {l : List α} (h : RowOf enc W H v l) : ∃ a c, v = .slice a l.length c := by
  rcases h with ⟨rfl, a, c, rfl⟩ | ⟨b, off, c, h1, _⟩
  · exact ⟨_, _, rfl⟩
  · exact ⟨_, _, h1⟩
theorem RowOf.drew {α : Type} {enc : α → Value} {W : World} {H : Nat} {v : Value} {l : List α} (h : RowOf enc W H v l) : RowOf enc W.drew H v l := h.stays (Below.drew (Below.refl H _)) (Nat.le_refl _)
/-- where the cells lie, if there are any -/
theorem RowOf.at {α : Type} {enc : α → Value} {W : World} {H : Nat} {a : Option Addr} {c n : Nat} {l : List α} (h : RowOf enc W H (.slice a n c) l) (hn : 0 < l.length) :
    ∃ b off, a = some ⟨b, off, none⟩ ∧ n = l.length ∧ b < H ∧ ∀ k x, l[k]? = some x → W.cell? ⟨b, off + k, none⟩ = some (enc x) := by
  rcases h with ⟨rfl, _⟩ | ⟨b, off, c', h1, h2, h3⟩
  · simp at hn
  · injection h1 with e1 e2 e3
    exact ⟨b, off, e1, e2, h2, h3⟩
theorem RowOf.len {α : Type} {enc : α → Value} {W : World} {H : Nat} {a : Option Addr} {c n : Nat} {l : List α} (h : RowOf enc W H (.slice a n c) l) : n = l.length := by
  rcases h with ⟨rfl, a', c', h⟩ | ⟨b, off, c', h1, _⟩
  · injection h
  · injection h1
def encS (x : List UInt8) : Value := .string (bs x)
/-- texts in a row -/
abbrev Sl := RowOf encS
/-- turns in a row -/
def Bl (W : World) (H : Nat) (v : Value) (l : List Bool) : Prop := RowOf Value.bool W H v l ∧ ∀ ad n c, v = .slice (some ad) n c → ∃ b off, ad = ⟨b, off, none⟩
theorem Bl.stays {W W' : World} {H H' : Nat} {v : Value} {l : List Bool} (h : Bl W H v l) (hb : Below H' W W') (hH : H ≤ H') : Bl W' H v l := ⟨h.1.stays hb hH, h.2⟩
theorem Bl.mono {W : World} {H H' : Nat} {v : Value} {l : List Bool} (h : Bl W H v l) (hH : H ≤ H') : Bl W H' v l := ⟨h.1.mono hH, h.2⟩
theorem Bl.drew {W : World} {H : Nat} {v : Value} {l : List Bool} (h : Bl W H v l) : Bl W.drew H v l := ⟨h.1.drew, h.2⟩
theorem Bl.form {W : World} {H : Nat} {v : Value} {l : List Bool} (h : Bl W H v l) : ∃ a c, v = .slice a l.length c := h.1.form
theorem Bl.at {W : World} {H : Nat} {a : Option Addr} {c n : Nat} {l : List Bool} (h : Bl W H (.slice a n c) l) (hn : 0 < l.length) : ∃ b off, a = some ⟨b, off, none⟩ ∧ n = l.length ∧ b < H ∧ ∀ k x, l[k]? = some x → W.cell? ⟨b, off + k, none⟩ = some (.bool x) := h.1.at hn
theorem Bl.len {W : World} {H : Nat} {a : Option Addr} {c n : Nat} {l : List Bool} (h : Bl W H (.slice a n c) l) : n = l.length := h.1.len
/-- whether a turn goes to the second part -/
def hasNo (l : List Bool) : Bool := l.contains false
def all32 (l : List (List UInt8)) : Bool := l.all fun x => x.length == 32
theorem all32_mk {l : List (List UInt8)} (h : ∀ x ∈ l, x.length = 32) : all32 l = true := by simpa [all32] using h
theorem all32_of {l : List (List UInt8)} (h : all32 l = true) : ∀ x ∈ l, x.length = 32 := by simpa [all32] using h
theorem short_c (s : ByteArray) (w : World) : Calls Tryd.prog 44 #[.string s] w fun e w' => e = .returned (.bool ((s.size : Int) != 32)) ∧ w = w' := by
  go_enter Tryd.func44, Tryd.ntmps44
  go_wp2
  go_ret
  exact ⟨rfl, rfl⟩
set_option maxHeartbeats 1000000 in
theorem indexf_c (a : Option Addr) (c n : Nat) (H : Nat) (l : List (List UInt8)) (hl : l.length ≤ 9223372036854775807) (w : World) (h : Sl w H (.slice a n c) l) :
    Calls Tryd.prog 61 #[.slice a n c, .func (.func 44) #[] #[]] w fun e w' => ∃ z : Int, e = .returned (.int .i64 z) ∧ decide (0 ≤ z) = !(all32 l) ∧ w' = w := by
  have hn : n = l.length := h.len
  have HN : Hid (n = l.length) := hn
  have HS : Hid (Sl w H (.slice a n c) l) := h
  have hn63 : n ≤ 9223372036854775807 := by omega
  clear h hl hn
  go_enter Tryd.func61, Tryd.ntmps61
  go_wp2
  go_loop [8] (fun i => ∃ k : Nat, k ≤ n ∧ i = .int .i64 k ∧ ∀ x ∈ l.take k, x.length = 32) (fun i => n - (intOf i).toNat)
  case atStart => exact ⟨0, Nat.zero_le _, rfl, fun x hx => by simp at hx⟩
  case round =>
    obtain ⟨k, hk, rfl, hall⟩ := hrel
    by_cases hlt : k < n
    · obtain ⟨b, off, rfl, -, -, hc⟩ := HS.out.at (by have := HN.out; omega)
      have hkl : k < l.length := by have := HN.out; omega
      obtain ⟨x, hx⟩ : ∃ x, l[k]? = some x := ⟨_, List.getElem?_eq_getElem hkl⟩
      obtain ⟨s, hs⟩ : ∃ s : ByteArray, s = bs x := ⟨_, rfl⟩
      have hss : s.size = x.length := by rw [hs, bs_size]
      have hcell : w.cell? ⟨b, off + k, none⟩ = some (.string s) := by rw [hs]; exact hc k x hx
      have HX : Hid (l[k]? = some x) := hx
      have HSS : Hid (s.size = x.length) := hss
      have HALL : Hid (∀ x ∈ l.take k, x.length = 32) := hall
      by_cases h32 : s.size = 32
      · have h32' : ((s.size : Int) != 32) = false := by simp [h32]
        have H32 : Hid (s.size = 32) := h32
        clear hc hx hs hss hall h32
        go_wp2_with (go_at_call 44; refine (short_c s _).mono ?_; rintro e w' ⟨rfl, rfl⟩)
        go_round
        case rel =>
          refine ⟨k + 1, by omega, by go_num, ?_⟩
          intro y hy
          rw [List.take_add_one, HX.out] at hy
          rcases List.mem_append.1 hy with hy | hy
          · exact HALL.out y hy
          · simp at hy; rw [hy, ← HSS.out]; exact H32.out
        case measure => simp [intOf]; omega
      · have h32' : ((s.size : Int) != 32) = true := by simp; omega
        have H32 : Hid (¬ s.size = 32) := h32
        clear hc hx hs hss hall h32
        go_wp2_with (go_at_call 44; refine (short_c s _).mono ?_; rintro e w' ⟨rfl, rfl⟩)
        go_ret
        refine ⟨_, rfl, ?_, rfl⟩
        have : all32 l = false := by
          cases hh : all32 l
          · rfl
          · exact absurd (HSS.out.trans (all32_of hh x (List.mem_of_getElem? HX.out))) H32.out
        rw [this]; simp
    · have hkn : k = n := by omega
      subst hkn
      go_wp2
      go_ret
      refine ⟨_, rfl, ?_, rfl⟩
      have : all32 l = true := all32_mk (by rw [HN.out, List.take_length] at hall; exact hall)
      rw [this]; simp
set_option maxHeartbeats 1000000 in
theorem containsf_c (a : Option Addr) (c n : Nat) (H : Nat) (l : List (List UInt8)) (hl : l.length ≤ 9223372036854775807) (w : World) (h : Sl w H (.slice a n c) l) :
    Calls Tryd.prog 45 #[.slice a n c, .func (.func 44) #[] #[]] w fun e w' => e = .returned (.bool (!(all32 l))) ∧ w' = w := by
  have C : Hid (Calls Tryd.prog 61 #[.slice a n c, .func (.func 44) #[] #[]] w fun e w' => ∃ z : Int, e = .returned (.int .i64 z) ∧ decide (0 ≤ z) = !(all32 l) ∧ w' = w) := indexf_c a c n H l hl w h
  clear hl h
  generalize (!(all32 l)) = r at *
  go_enter Tryd.func45, Tryd.ntmps45
  go_wp2_with fail
  refine C.out.mono ?_
  rintro e w1 ⟨z, rfl, hz, rfl⟩
  have HZ : Hid (decide (0 ≤ z) = r) := hz
  clear hz
  go_wp2
  go_ret
  exact ⟨by rw [HZ.out]; rfl, rfl⟩
set_option maxHeartbeats 1000000 in
theorem right_c (a : Option Addr) (c n : Nat) (H : Nat) (l : List (List UInt8)) (many : Int) (hl : l.length ≤ 9223372036854775807) (w : World) (h : Sl w H (.slice a n c) l) :
    Calls Tryd.prog 23 #[.slice a n c, .int .i64 many] w fun e w' => e = .returned (.bool (((l.length : Int) == many) && all32 l)) ∧ w' = w := by
  have C : Hid (Calls Tryd.prog 45 #[.slice a n c, .func (.func 44) #[] #[]] w fun e w' => e = .returned (.bool (!(all32 l))) ∧ w' = w) := containsf_c a c n H l hl w h
  rw [← h.len]
  clear h hl
  cases hm : ((n : Int) == many)
  · generalize all32 l = r at *
    go_enter Tryd.func23, Tryd.ntmps23
    go_wp2
    go_ret
    exact ⟨rfl, rfl⟩
  · generalize all32 l = r at *
    go_enter Tryd.func23, Tryd.ntmps23
    go_wp2_with fail
    refine C.out.mono ?_
    rintro e w1 ⟨rfl, rfl⟩
    go_wp2
    go_ret
    exact ⟨by simp, rfl⟩
set_option maxHeartbeats 1000000 in
theorem indexb_c (a : Option Addr) (c n : Nat) (H : Nat) (l : List Bool) (hl : l.length ≤ 9223372036854775807) (w : World) (h : Bl w H (.slice a n c) l) :
    Calls Tryd.prog 59 #[.slice a n c, .bool false] w fun e w' => ∃ z : Int, e = .returned (.int .i64 z) ∧ decide (0 ≤ z) = hasNo l ∧ w' = w := by
  have hn : n = l.length := h.len
  have HN : Hid (n = l.length) := hn
  have HS : Hid (Bl w H (.slice a n c) l) := h
  have hn63 : n ≤ 9223372036854775807 := by omega
  clear h hl hn
  go_enter Tryd.func59, Tryd.ntmps59
  go_wp2
  go_loop [8] (fun i => ∃ k : Nat, k ≤ n ∧ i = .int .i64 k ∧ ∀ x ∈ l.take k, x = true) (fun i => n - (intOf i).toNat)
  case atStart => exact ⟨0, Nat.zero_le _, rfl, fun x hx => by simp at hx⟩
  case round =>
    obtain ⟨k, hk, rfl, hall⟩ := hrel
    by_cases hlt : k < n
    · obtain ⟨b, off, rfl, -, -, hc⟩ := HS.out.at (by have := HN.out; omega)
      have hkl : k < l.length := by have := HN.out; omega
      obtain ⟨x, hx⟩ : ∃ x, l[k]? = some x := ⟨_, List.getElem?_eq_getElem hkl⟩
      have hcell : w.cell? ⟨b, off + k, none⟩ = some (.bool x) := hc k x hx
      have HX : Hid (l[k]? = some x) := hx
      have HALL : Hid (∀ x ∈ l.take k, x = true) := hall
      clear hc hx hall
      cases x
      · go_wp2
        go_ret
        refine ⟨_, rfl, ?_, rfl⟩
        rw [show hasNo l = true from List.contains_iff_mem.2 (List.mem_of_getElem? HX.out)]; simp
      · go_wp2
        go_round
        case rel =>
          refine ⟨k + 1, by omega, by go_num, ?_⟩
          intro y hy
          rw [List.take_add_one, HX.out] at hy
          rcases List.mem_append.1 hy with hy | hy
          · exact HALL.out y hy
          · simpa using hy
        case measure => simp [intOf]; omega
    · have hkn : k = n := by omega
      subst hkn
      go_wp2
      go_ret
      refine ⟨_, rfl, ?_, rfl⟩
      rw [HN.out, List.take_length] at hall
      have : hasNo l = false := by
        cases hh : hasNo l
        · rfl
        · exact absurd (hall false (List.contains_iff_mem.1 hh)) (by simp)
      rw [this]; simp
set_option maxHeartbeats 1000000 in
theorem isElder_c (a : Option Addr) (c n : Nat) (H : Nat) (l : List Bool) (hl : l.length ≤ 9223372036854775807) (w : World) (h : Bl w H (.slice a n c) l) :
    Calls Tryd.prog 21 #[.slice a n c] w fun e w' => e = .returned (.bool (!(hasNo l))) ∧ w' = w := by
  have C : Hid (Calls Tryd.prog 59 #[.slice a n c, .bool false] w fun e w' => ∃ z : Int, e = .returned (.int .i64 z) ∧ decide (0 ≤ z) = hasNo l ∧ w' = w) := indexb_c a c n H l hl w h
  have D : Hid (Calls Tryd.prog 41 #[.slice a n c, .bool false] w fun e w' => e = .returned (.bool (hasNo l)) ∧ w' = w) := by
    show Calls _ _ _ _ _
    clear hl h
    generalize hasNo l = r at *
    go_enter Tryd.func41, Tryd.ntmps41
    go_wp2_with fail
    refine C.out.mono ?_
    rintro e w1 ⟨z, rfl, hz, rfl⟩
    have HZ : Hid (decide (0 ≤ z) = r) := hz
    clear hz
    go_wp2
    go_ret
    exact ⟨by rw [HZ.out]; rfl, rfl⟩
  clear hl h C
  generalize hasNo l = r at *
  go_enter Tryd.func21, Tryd.ntmps21
  go_wp2_with fail
  refine D.out.mono ?_
  rintro e w1 ⟨rfl, rfl⟩
  go_wp2
  go_ret
  exact ⟨rfl, rfl⟩
end Go.Proofs.YtoldfepeldbcpaaDoor
