/- For every room, fuse, steps and number of bytes that are kept the law DiskSafe answers true: whatever is done, the disk is right; what was synced is there behind a crash, and behind it a beginning of what was written. -/
import Derived.Test.YtbdjmedhoaillaaSafeW
import Derived.Test.YtbdjmedhoaillaaOpen
namespace Go.Proofs.Ytbdjmedhoaillaa.safe
open Go.ChangeShapes Go.WideShapes Go.ChangeAt Go.RowKit
/-- a list out of what there is at each place -/
theorem gather {α : Type} {P : Nat → α → Prop} : ∀ (n : Nat), (∀ i, i < n → ∃ x, P i x) → ∃ l : List α, l.length = n ∧ ∀ i x, l[i]? = some x → P i x
  | 0, _ => ⟨[], rfl, fun i x h => by simp at h⟩
  | n + 1, h => by
    obtain ⟨l, hl, hp⟩ := gather n (fun i hi => h i (by omega))
    obtain ⟨x, hx⟩ := h n (by omega)
    refine ⟨l ++ [x], by simp [hl], fun i y hy => ?_⟩
    by_cases hi : i < n
    · rw [List.getElem?_append_left (by omega)] at hy
      exact hp i y hy
    · rw [List.getElem?_append_right (by omega), hl] at hy
      have : i - n = 0 := by
        have := (List.getElem?_eq_some_iff.1 hy).1
        simpa using this
      rw [this] at hy
      simp only [List.getElem?_cons_zero, Option.some.injEq] at hy
      rw [← hy, show i = n by omega]
      exact hx
theorem cell_lt {W : World} {b o : Nat} {v : Value} (h : W.cell? ⟨b, o, none⟩ = some v) : b < W.heap.size := by
  unfold World.cell? at h
  cases hh : W.heap[b]? with
  | none => simp [hh] at h
  | some o => exact (Array.getElem?_eq_some_iff.1 hh).1
theorem spot_none {W : World} {a : Addr} {base n : Nat} {cs : List Value} (h : W.cells? base (a.add 0) n = some cs) (hn : 0 < n) : ∃ g o, a = ⟨g, o, none⟩ ∧ g < W.heap.size := by
  obtain ⟨hb, hl, hc⟩ := World.cells?_some h
  have h0 := hc 0 hn
  obtain ⟨v, hv⟩ : ∃ v, cs[0]? = some v := ⟨_, List.getElem?_eq_getElem (by omega)⟩
  rw [hv] at h0
  obtain ⟨g, o, sp⟩ := a
  have hs : sp = none := by simpa [Addr.add] using World.cell?_spot h0
  subst hs
  rw [Addr.add_mid, Addr.add_mid] at h0
  exact ⟨g, o, rfl, cell_lt h0⟩
theorem step_cells {H : Type} {enc : TypeId × Value → H} {W : World} {base : Nat} {sp : Nat → Bool} {held : Bool} {F : Nat} {cs : List Value} {x : DataW H × List MemPlace} (h : DataW.trod enc Try.prog W base sp held F 30 cs = some x) :
    ∃ (k : Int) (t : ByteArray) (z : Int), (0 ≤ k ∧ k ≤ 255) ∧ cs = [.int .u8 k, .string t, .int .i64 z] := by
  obtain ⟨xs, n, _, _, hl, hlen, hi⟩ := DataW.trod_struct Try.underlying30 h
  rw [cells30] at hl
  match cs, hl with
  | [c0, c1, c2], _ =>
  match xs, hlen with
  | [y0, y1, y2], _ =>
  have g0 : DataW.trod enc Try.prog W base sp held n 28 [c0] = some y0 := by simpa [cells28, Value.cells] using hi 0 _ rfl
  have g1 : DataW.trod enc Try.prog W base sp held n 9 [c1] = some y1 := by simpa [cells9, Value.cells] using hi 1 _ rfl
  have g2 : DataW.trod enc Try.prog W base sp held n 3 [c2] = some y2 := by simpa [cells3, Value.cells] using hi 2 _ rfl
  obtain ⟨k, e0, _, wk⟩ := DataW.trod_int Try.underlying28 g0
  obtain ⟨s, e1, _, _⟩ := DataW.trod_string Try.underlying9 g1
  obtain ⟨z, e2, _, _⟩ := DataW.trod_int Try.underlying3 g2
  exact ⟨k, s, z, bounds_u8 wk, by rw [show c0 = .int .u8 k by simpa using e0, show c1 = .string s by simpa using e1, show c2 = .int .i64 z by simpa using e2]⟩
theorem open_steps {H : Type} {enc : TypeId × Value → H} {W : World} {base : Nat} {sp : Nat → Bool} {held : Bool} {v : Value} {d : DataW H} {p : List MemPlace} (hc1 : v.cells.toList = [v]) (h : DataW.Trod enc Try.prog W base sp held 40 v d p) :
    ∃ (ao : Option Addr) (b off len cap : Nat) (l : List (Int × ByteArray × Int)), v = .slice ao len cap ∧ l.length = len ∧ len ≤ 9223372036854775807 ∧ (0 < len → Lies W b off l) ∧ (0 < len → ao = some ⟨b, off, none⟩) := by
  obtain ⟨F, hf⟩ := h
  rw [hc1] at hf
  rcases DataW.trod_slice Try.underlying40 hf with ⟨hc, _⟩ | ⟨a, len, cap, elems, rest, q, hq, hc, _, _, hlc, hcm, hel, he, _, _⟩
  · simp only [List.cons.injEq, and_true] at hc
    exact ⟨none, 0, 0, 0, 0, [], hc, rfl, by omega, fun h => by omega, fun h => by omega⟩
  · simp only [List.cons.injEq, and_true] at hc
    rw [cells30] at he
    have hm : len ≤ 9223372036854775807 := by unfold maxLen at hcm; omega
    have key : ∀ i, i < len → ∃ cs', W.cells? base (a.add (i * 3)) 3 = some cs' ∧ ∃ y, DataW.trod enc Try.prog W base sp held q 30 cs' = some y := fun i hi => by
      have h1 := he i hi
      rw [List.getElem?_eq_getElem (by omega)] at h1
      obtain ⟨cs', h2, h3⟩ := Option.bind_eq_some_iff.1 h1
      exact ⟨cs', h2, _, h3⟩
    by_cases hlen : 0 < len
    · obtain ⟨cs0, hc0, _⟩ := key 0 hlen
      rw [Nat.zero_mul] at hc0
      obtain ⟨g, o, rfl, hg⟩ := spot_none hc0 (by omega)
      have part : ∀ i, i < len → ∃ x : Int × ByteArray × Int, (0 ≤ x.1 ∧ x.1 ≤ 255) ∧ W.cell? ⟨g, o + i * 3, none⟩ = some (.int .u8 x.1) ∧ W.cell? ⟨g, o + i * 3 + 1, none⟩ = some (.string x.2.1) ∧ W.cell? ⟨g, o + i * 3 + 2, none⟩ = some (.int .i64 x.2.2) := fun i hi => by
        obtain ⟨cs', h2, y, h3⟩ := key i hi
        obtain ⟨k, t, z, hk, rfl⟩ := step_cells h3
        obtain ⟨_, _, hcell⟩ := World.cells?_some h2
        rw [Addr.add_mid] at hcell
        have hc := fun j (hj : j < 3) => by
          have := hcell j hj
          rwa [Addr.add_mid] at this
        exact ⟨(k, t, z), hk, hc 0 (by omega), hc 1 (by omega), hc 2 (by omega)⟩
      obtain ⟨l, hll, hp⟩ := gather len part
      exact ⟨_, g, o, len, cap, l, hc, hll, hm, fun _ => ⟨hg, fun j k t z hj => (hp j _ hj).1, fun j k t z hj => (hp j _ hj).2⟩, fun _ => rfl⟩
    · exact ⟨some a, 0, 0, len, cap, List.replicate len (0, ⟨#[]⟩, 0), hc, by simp, hm, fun h => absurd h hlen, fun h => absurd h hlen⟩
theorem safe6 (room fs keep : Int) (b off len cap : Nat) (l : List (Int × ByteArray × Int)) (hl : l.length = len) (hlen : len ≤ 9223372036854775807) (w : World) (hL : 0 < len → Lies w b off l) (ao : Option Addr) (hao : 0 < len → ao = some ⟨b, off, none⟩) (hf1 : -9223372036854775808 ≤ fs) (hf2 : fs ≤ 9223372036854775807) :
    Calls Try.prog 6 #[.int .i64 room, .int .i64 fs, .slice ao len cap, .int .i64 keep] w fun e w' => e = .returned (.bool true) ∧ Below w.heap.size w w' := by
  cases h : okB ⟨#[]⟩ 0 room
  · exact safe6_no room fs keep _ w h
  · exact safe6_yes room fs keep b off len cap l hl hlen w hL ao hao h hf1 hf2
set_option maxRecDepth 100000 in
theorem lifted (os : Os) (started : os.Started) (H : Type) (enc : TypeId × Value → H) :
    ReturnsInHanded {} Try.checked os 6 .any (Rows.diskSafeSpec.pre6 enc Try.prog Try.f6 Rows.diskSafeRow.domain false) (Rows.diskSafeSpec.post enc Try.prog Try.f6 false true false false) := by
  refine returnsInHanded_of_change (C := Try.checked) own started (by kernel_rfl) Try.func6
    (ChangeSpec.witness6 (enc := enc) (C := Try.checked) false ⟨#[], #[.int .i64 0, .int .i64 0, .slice none 0 0, .int .i64 0], []⟩ 8 (by kernel_rfl) (by kernel_rfl) (by kernel_rfl) (by kernel_rfl)) ?_
  intro W base args ds gs before hval0 hW _ _
  have hval : ∀ (j : Nat) t v, Try.f6.params[j]? = some t → args[j]? = some v → Value.okWide Try.prog W .any base t v := hval0
  have hW' := hW
  obtain ⟨p, q, hA0, hV, rfl, _, _⟩ := hW
  have hA : DataW.TrodAll enc Try.prog W 0 (fun _ => true) true Try.f6.params.toList args.toList ds p := hA0
  rw [Try.params6] at hA hval
  obtain ⟨v0, vs0, d0, ds0, p0, q0, hargs, rfl, rfl, h0, r0⟩ := trodAll_cons hA
  obtain ⟨v1, vs1, d1, ds1, p1, q1, rfl, rfl, rfl, h1, r1⟩ := trodAll_cons r0
  obtain ⟨v2, vs2, d2, ds2, p2, q2, rfl, rfl, rfl, h2, r2⟩ := trodAll_cons r1
  obtain ⟨v3, vs3, d3, ds3, p3, q3, rfl, rfl, rfl, h3, r3⟩ := trodAll_cons r2
  obtain ⟨rfl, rfl, rfl⟩ := trodAll_nil r3
  obtain rfl : args = #[v0, v1, v2, v3] := by cases args; simp_all
  obtain ⟨rfl, rfl⟩ := trodVars_none hV
  have k0 := h0
  have k1 := h1
  have k2 := h2
  have k3 := h3
  obtain ⟨room, rfl, rfl, rfl, _⟩ := open_int Try.underlying3 (hval 0 3 v0 rfl rfl) h0
  obtain ⟨fs, rfl, rfl, rfl, wf⟩ := open_int Try.underlying3 (hval 1 3 v1 rfl rfl) h1
  obtain ⟨a0, len0, cap0, rfl⟩ := okWide_slice Try.underlying40 (hval 2 40 v2 rfl rfl)
  obtain ⟨ao, b, off, len, cap, l, hv, hl, hlen, hL, hao⟩ := open_steps rfl h2
  cases hv
  obtain ⟨keep, rfl, rfl, rfl, _⟩ := open_int Try.underlying3 (hval 3 3 v3 rfl rfl) h3
  have hb := bounds_i64 wf
  refine (safe6 room fs keep b off len0 cap0 l hl hlen W hL a0 hao hb.1 hb.2).mono fun e W' ⟨he, hg⟩ => ?_
  subst he
  have hlt : ∀ x ∈ ([] : List MemPlace), x.block < W.heap.size := fun x hx => by cases hx
  have hlt2 : ∀ x ∈ p2, x.block < W.heap.size := fun x hx => by
    have := hW'.lt x (by simp [hx])
    simpa using this
  exact ⟨_, rfl, law_post hW' hg rfl rfl rfl rfl rfl
    (trodAll_cons_mk (Below.trod laidOut (by kernel_rfl) (of_decide_eq_true (by kernel_rfl)) k0 hg hlt)
      (trodAll_cons_mk (Below.trod laidOut (by kernel_rfl) (of_decide_eq_true (by kernel_rfl)) k1 hg hlt)
        (trodAll_cons_mk (Below.trod laidOut (by kernel_rfl) (of_decide_eq_true (by kernel_rfl)) k2 hg hlt2)
          (trodAll_cons_mk (Below.trod laidOut (by kernel_rfl) (of_decide_eq_true (by kernel_rfl)) k3 hg hlt) trodAll_mk0))))⟩
end Go.Proofs.Ytbdjmedhoaillaa.safe
namespace Go.Proofs.Ytbdjmedhoaillaa
theorem diskSafe_holds : Rows.DiskSafeSaid :=
  OpenClaim.holds_of_wide 6 Try.f6 rfl rfl rfl rfl rfl rfl rfl ⟨rfl, rfl, rfl, rfl, rfl⟩ rfl rfl rfl rfl rfl (by kernel_rfl) Try.func6 (by kernel_rfl)
    (of_decide_eq_true (by kernel_rfl)) (by unfold Func.isWrapper; rw [if_neg (by decide +kernel)]; exact ⟨rfl, rfl⟩)
    (fun os started H enc _ => safe.lifted os started H enc)
end Go.Proofs.Ytbdjmedhoaillaa
