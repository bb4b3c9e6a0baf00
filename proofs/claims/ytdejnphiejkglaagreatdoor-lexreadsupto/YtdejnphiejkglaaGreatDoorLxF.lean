/- Tables and variables of the library; blanks; words, numbers, texts, signs are read: walked. -/
import Derived.Test.YtdejnphiejkglaaGreatDoorLxE
import Derived.Test.YtdejnphiejkglaaGreatDoorShelfV
import Derived.Shelf.Strings.SlTrimAscii
namespace Go.Proofs.YtdejnphiejkglaaGreatDoor
open Go.RowKit
/-- the library's tables and variables lie as they are laid -/
structure HasL (w : World) : Prop where
  utf : Lib.Utf8Tabs 0 1 w
  pow : Lib.TabIs Tryz.prog w "internal/strconv.uint64pow10" .u64 Lib.pow10Tab
  syn : ∃ ev, w.cell? ⟨3, 0, none⟩ = some ev ∧ (ev = .nilIface ∨ ∃ te pe, ev = .iface te pe)
  rng : ∃ ev, w.cell? ⟨4, 0, none⟩ = some ev ∧ (ev = .nilIface ∨ ∃ te pe, ev = .iface te pe)
  mx : ∃ m, w.cell? ⟨5, 0, none⟩ = some (.int .i64 m)
theorem Lx.lt_of_cell {w : World} {g o : Nat} {v : Value} (h : w.cell? ⟨g, o, none⟩ = some v) : g < w.heap.size := by
  unfold World.cell? at h
  cases hh : w.heap[g]? with
  | none => simp [hh] at h
  | some o => exact (Array.getElem?_eq_some_iff.1 hh).1
theorem HasL.stays {w w' : World} (h : HasL w) (hb : Below w.heap.size w w') : HasL w' := by
  have keep : ∀ (g o : Nat) (v : Value), w.cell? ⟨g, o, none⟩ = some v → w'.cell? ⟨g, o, none⟩ = some v := fun g o v hv => (hb.cell (p := ⟨g, o, none⟩) (Lx.lt_of_cell hv)).trans hv
  refine ⟨⟨fun c hc => keep _ _ _ (h.utf.1 c hc), fun i hi => ⟨keep _ _ _ (h.utf.2 i hi).1, keep _ _ _ (h.utf.2 i hi).2⟩⟩, ?_, h.syn.imp fun ev e => ⟨keep _ _ _ e.1, e.2⟩, h.rng.imp fun ev e => ⟨keep _ _ _ e.1, e.2⟩, h.mx.imp fun m e => keep _ _ _ e⟩
  have hp := h.pow
  unfold Lib.TabIs World.var? at hp ⊢
  cases hg : Tryz.prog.globalNamed "internal/strconv.uint64pow10" with
  | none => rw [hg] at hp; simp at hp
  | some g =>
    rw [hg] at hp
    simp only [Option.bind_some] at hp ⊢
    have hlt : g < w.heap.size := by
      rcases Nat.lt_or_ge g w.heap.size with h1 | h1
      · exact h1
      · rw [Array.getElem?_eq_none h1] at hp
        simp at hp
    rw [hb.block g hlt]
    exact hp
namespace Lx
/-- how many blanks a text begins with -/
def bl : Bs → Nat
  | [] => 0
  | b :: r => if b = 32 ∨ b = 9 ∨ b = 10 ∨ b = 13 then bl r + 1 else 0
theorem bl_le : ∀ s : Bs, bl s ≤ s.length
  | [] => Nat.le_refl _
  | b :: r => by
    rw [bl]
    split
    · have := bl_le r; simp; omega
    · exact Nat.zero_le _
theorem trim_bl : ∀ s : Bs, Lib.trimLeftS s [32, 9, 10, 13] = s.drop (bl s)
  | [] => rfl
  | b :: r => by
    have ih := trim_bl r
    unfold Lib.trimLeftS at ih ⊢
    rw [bl, List.dropWhile_cons]
    by_cases h : b = 32 ∨ b = 9 ∨ b = 10 ∨ b = 13
    · rw [if_pos h, if_pos (by simp; exact h), ih]; rfl
    · rw [if_neg h, if_neg (by simpa [not_or] using h)]; rfl
end Lx
theorem info116 : (Tryz.prog.info? 70).map (fun i => (i.zero, i.size)) = some (some (.agg (Array.replicate 256 (.bool false))), 256) := by kernel_rfl
theorem trimLeft_c (l : Lx.Bs) (w : World) : Calls Tryz.prog 34 #[.string (Lx.bs l), .string { data := #[32, 9, 10, 13] }] w fun e w' => e = .returned (.string (Lx.bs (l.drop (Lx.bl l)))) ∧ Below w.heap.size w w' := by
  have h := Any.strings_TrimLeft_laid Tryz.lays161 info116 (Lx.bs l) { data := #[32, 9, 10, 13] } w (by decide) (ascii_of_all (by decide))
  rw [Lx.bs_data] at h
  refine Calls.mono h ?_
  rintro e w' ⟨rfl, hb⟩
  exact ⟨by rw [← Lx.trim_bl]; rfl, hb⟩
set_option maxHeartbeats 1000000 in
theorem behindBlanks_c (l : Lx.Bs) (at' : Nat) (ha : at' ≤ l.length) (hl : l.length ≤ 16384) (w : World) : Calls Tryz.prog 13 #[.string (Lx.bs l), .int .i64 (at' : Int)] w fun e w' => e = .returned (.int .i64 ((at' + Lx.bl (l.drop at') : Nat) : Int)) ∧ Below w.heap.size w w' := by
  have hsl := fun wx => Lx.slice_from l (at' : Int) at' rfl ha wx
  obtain ⟨s, hs⟩ : ∃ s, s = Lx.bs l := ⟨_, rfl⟩
  obtain ⟨s1, hs1⟩ : ∃ s1, s1 = Lx.bs (l.drop at') := ⟨_, rfl⟩
  obtain ⟨s2, hs2⟩ : ∃ s2, s2 = Lx.bs ((l.drop at').drop (Lx.bl (l.drop at'))) := ⟨_, rfl⟩
  have C : Hid (Calls Tryz.prog 34 #[.string s1, .string { data := #[32, 9, 10, 13] }] w fun e w' => e = .returned (.string s2) ∧ Below w.heap.size w w') := by rw [hs1, hs2]; exact trimLeft_c _ w
  have hz : wrap64 ((s.size : Int) - (s2.size : Int)) = ((at' + Lx.bl (l.drop at') : Nat) : Int) := by
    have h1 := Lx.bl_le (l.drop at')
    rw [List.length_drop] at h1
    rw [hs, hs2, Lx.bs_size, Lx.bs_size, List.length_drop, List.length_drop]
    unfold wrap64
    omega
  rw [← hs, ← hs1] at hsl
  rw [← hs]
  clear hs hs1 hs2
  go_enter Tryz.func13, Tryz.ntmps13
  go_wp2_with fail
  refine C.out.mono ?_
  rintro e w1 ⟨rfl, hb1⟩
  go_wp2
  go_ret
  exact ⟨by rw [← hz]; rfl, hb1⟩
end Go.Proofs.YtdejnphiejkglaaGreatDoor
