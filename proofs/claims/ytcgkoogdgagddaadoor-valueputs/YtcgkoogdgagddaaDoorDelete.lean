/- slices.DeleteFunc at fields and a name, walked: the fields of that name are gone, the others stay in their order. -/
import Derived.Test.YtcgkoogdgagddaaDoorDelM
namespace Go.Proofs.YtcgkoogdgagddaaDoor
open Go.RowKit
open Vl (V)
set_option maxHeartbeats 4000000 in
set_option maxRecDepth 100000 in
theorem delete41 (name : ByteArray) (P : Nat) (f : List (ByteArray × V)) (F G : Nat) (w : World) (hFG : F < G) (hG : G ≤ w.heap.size) (hD : DF w F G f) (hl : f.length ≤ maxLen) (hm : ∀ a ∈ f, a.1.size ≤ maxLen) (hP : P < w.heap.size) (hPF : P ≠ F) (hp : w.cell? ⟨P, 0, none⟩ = some (.string name)) (hin : Vl.place (fun m => decide (m = name)) f < f.length) :
    Calls Tryd.prog 41 #[.slice (some ⟨F, 0, none⟩) f.length f.length, .func (.func 53) #[] #[.pointer (some ⟨P, 0, none⟩)]] w fun e w' => e = .returned (.slice (some ⟨F, 0, none⟩) (Vl.dropF f name).length f.length) ∧ KP w w' F ∧ (∃ C, w'.heap[F]? = some (.cells C 44 (0, 0)) ∧ C.size = f.length * 7) ∧ ∀ (q : Nat) (m : ByteArray) (x : V), (Vl.dropF f name)[q]? = some (m, x) → Fld w' F G q m x := by
  have hF : F < w.heap.size := hD.1
  have C57 : Hid (∀ W, Below w.heap.size w W → Calls Tryd.prog 57 #[.slice (some ⟨F, 0, none⟩) f.length f.length, .func (.func 53) #[] #[.pointer (some ⟨P, 0, none⟩)]] W fun e w' => e = .returned (.int .i64 (Vl.place (fun m => decide (m = name)) f : Nat)) ∧ Below W.heap.size W w') := fun W hW => by
    have h1 := index57 name P f (some ⟨F, 0, none⟩) f.length W G (by have := hW.size; omega) (LF.lies (M := F) (G := G) (fc := f.length) (Or.inr ⟨by omega, F, rfl, rfl, Nat.le_refl _, hFG, hD.agree hFG (fun g _ hg => hW.block g (by omega)) hW.size⟩) hl hm) (Nat.lt_of_lt_of_le hP hW.size) ((hW.cell (p := ⟨P, 0, none⟩) hP).trans hp)
    rw [if_pos hin] at h1
    exact h1
  have S0 : Hid (DL w w F G f name (Vl.place (fun m => decide (m = name)) f) (Vl.place (fun m => decide (m = name)) f + 1)) := by
    obtain ⟨_, C, h2, h3, h4⟩ := hD
    exact DL.start h2 h3 (fun q m x hx => h4 q m x hx) hin
  obtain ⟨na, hna⟩ : ∃ n, n = f.length := ⟨_, rfl⟩
  obtain ⟨p, hpp⟩ : ∃ p, p = Vl.place (fun m => decide (m = name)) f := ⟨_, rfl⟩
  have HNA : Hid (na = f.length) := hna
  have HF : Hid (F < w.heap.size ∧ G ≤ w.heap.size) := ⟨hF, hG⟩
  have HP : Hid (P < w.heap.size ∧ P ≠ F ∧ w.cell? ⟨P, 0, none⟩ = some (.string name)) := ⟨hP, hPF, hp⟩
  obtain ⟨kk, hkk⟩ : ∃ k, k = (Vl.dropF f name).length := ⟨_, rfl⟩
  have HKK : Hid (kk = (Vl.dropF f name).length) := hkk
  have hmax := maxLen_lt hl
  rw [← hna] at C57 hmax ⊢
  rw [← hpp] at C57 S0
  rw [← hkk]
  have hpn : p < na := by rw [hpp, hna]; exact hin
  clear hD hl hm hP hPF hp hin hF hG hFG hna hpp hkk
  have hw1 : IntKind.i64.wrap ((p : Int) + 1) = ((p + 1 : Nat) : Int) := by rw [IntKind.wrap_i64]; omega
  go_enter Tryd.func41, Tryd.ntmps41
  go_wp2_with fail
  refine (C57.out _ (Below.refl _ _)).mono ?_
  rintro e w1 ⟨rfl, hb1⟩
  have S1 : Hid (DL w w1 F G f name p (p + 1)) := S0.out.call HF.out.1 HF.out.2 hb1
  clear hb1 C57 S0
  have hne : ¬ ((p : Int) = -1) := by omega
  go_wp2
  clear hw1
  go_loopw [5, 6] (fun i j wr => ∃ a b : Nat, i = .int .i64 a ∧ j = .int .i64 b ∧ a < b ∧ b ≤ na ∧ DL w wr F G f name a b) (fun _ j _ => na - (intOf j).toNat)
  case atStart => exact ⟨p, p + 1, rfl, by go_num, by omega, by omega, S1.out⟩
  case round =>
    obtain ⟨a, b, rfl, rfl, hab, hbn, hS⟩ := hrel
    have S : Hid (DL w wr F G f name a b) := hS
    clear hS S1
    by_cases hlt : b < na
    · have hbl : b < f.length := by rw [← HNA.out]; exact hlt
      obtain ⟨⟨m, x⟩, hx⟩ : ∃ y, f[b]? = some y := ⟨_, List.getElem?_eq_getElem hbl⟩
      obtain ⟨d, c0, c1, c2, c3, c4, c5, ⟨d0, d1, d2, d3, d4, d5⟩, hrx⟩ := S.out.next hx
      rw [show b * 7 + 1 + 1 = b * 7 + 2 by omega] at d1
      rw [show b * 7 + 1 + 2 = b * 7 + 3 by omega] at d2
      rw [show b * 7 + 1 + 3 = b * 7 + 4 by omega] at d3
      rw [show b * 7 + 1 + 4 = b * 7 + 5 by omega] at d4
      rw [show b * 7 + 1 + 5 = b * 7 + 6 by omega] at d5
      obtain ⟨xk, xb, xn, xs, xa, xl, xc, ya, yl, yc, hf⟩ := repA_form hrx
      simp only [Value.agg.injEq, Array.mk.injEq, List.cons.injEq, and_true] at hf
      obtain ⟨rfl, rfl, rfl, rfl, rfl, rfl⟩ := hf
      have HX : Hid (f[b]? = some (m, x)) := hx
      have HRX : Hid (RepA wr (fun g => F < g ∧ g < G) x (.agg #[.int .u8 (xk : Int), .bool xb, .int .i64 xn, .string xs, .slice xa xl xc, .slice ya yl yc])) := hrx
      have HFW : Hid (F < wr.heap.size) := by have h1 := HF.out.1; have h2 := S.out.keep.size; show _ < _; omega
      clear hx hrx hbl
      go_upto_region 8 with fail
      obtain ⟨w2, hw2⟩ : ∃ w2, w2 = wr.alloc (.cells #[.string m, .int .u8 (xk : Int), .bool xb, .int .i64 xn, .string xs, .slice xa xl xc, .slice ya yl yc] 44) := ⟨_, rfl⟩
      obtain ⟨B, hB⟩ : ∃ B, B = wr.heap.size := ⟨_, rfl⟩
      have HR : Hid (Row7 w2 B (.string m) (.int .u8 (xk : Int)) (.bool xb) (.int .i64 xn) (.string xs) (.slice xa xl xc) (.slice ya yl yc)) := by
        show Row7 _ _ _ _ _ _ _ _ _
        rw [hw2, hB]; exact ⟨by simp, heap_alloc_new wr _⟩
      have S2 : Hid (DL w w2 F G f name a b) := S.out.call HF.out.1 HF.out.2 (by rw [hw2]; exact below_new _ _)
      have HX2 : Hid (RepA w2 (fun g => F < g ∧ g < G) x (.agg #[.int .u8 (xk : Int), .bool xb, .int .i64 xn, .string xs, .slice xa xl xc, .slice ya yl yc])) := by
        refine repA_stays (fun g hg => ?_) (fun _ hg => hg) x _ HRX.out
        rw [hw2]; exact Below.heap_alloc _ _ _ (by have h1 := HF.out.2; have h2 := S.out.keep.size; omega)
      have HFB : Hid (F < B) := by rw [hB]; exact HFW.out
      rw [← hw2, ← hB]
      clear hw2 hB d d0 d1 d2 d3 d4 d5 S HRX HFW
      obtain ⟨r0, r1, r2, r3, r4, r5, r6⟩ := HR.out.cells
      obtain ⟨c, hc⟩ : ∃ c, c = (decide (m = name)) := ⟨_, rfl⟩
      have HC : Hid (c = (decide (m = name))) := hc
      have CP : Hid (Calls Tryd.prog 53 #[.agg #[.string m, .int .u8 (xk : Int), .bool xb, .int .i64 xn, .string xs, .slice xa xl xc, .slice ya yl yc], .pointer (some ⟨P, 0, none⟩)] w2 fun e w' => e = .returned (.bool c) ∧ Below w2.heap.size w2 w') := by
        rw [hc]
        refine is53 m name _ _ _ _ _ _ ⟨xk, xb, xn, xs, xa, xl, xc, ya, yl, yc, rfl, rfl, rfl, rfl, rfl, rfl⟩ w2 P ?_ ?_
        · exact (cell_block (S2.out.keep.same P HP.out.2.1 HP.out.1)).trans HP.out.2.2
        · exact Nat.lt_of_lt_of_le HP.out.1 S2.out.keep.size
      clear hc
      go_wp2_with fail
      refine CP.out.mono ?_
      rintro e w3 ⟨rfl, hb3⟩
      have S3 : Hid (DL w w3 F G f name a b) := S2.out.call HF.out.1 HF.out.2 hb3
      have HR3 : Hid (Row7 w3 B (.string m) (.int .u8 (xk : Int)) (.bool xb) (.int .i64 xn) (.string xs) (.slice xa xl xc) (.slice ya yl yc)) := HR.out.call hb3
      have HX3 : Hid (RepA w3 (fun g => F < g ∧ g < G) x (.agg #[.int .u8 (xk : Int), .bool xb, .int .i64 xn, .string xs, .slice xa xl xc, .slice ya yl yc])) := repA_stays (fun g hg => hb3.block g (by have h1 := HF.out.2; have h2 := S2.out.keep.size; omega)) (fun _ hg => hg) x _ HX2.out
      clear hb3 CP S2 HR HX2 r0 r1 r2 r3 r4 r5 r6
      cases c
      · have hne2 : ¬ m = name := of_decide_eq_false HC.out.symm
        have HNE : Hid (¬ m = name) := hne2
        obtain ⟨r0, r1, r2, r3, r4, r5, r6⟩ := HR3.out.cells
        have hlB := HR3.out.1
        obtain ⟨fz, cz⟩ := S3.out.cells
        have hal : a < na := by omega
        obtain ⟨q0, e0⟩ := cz (a * 7) (by rw [← HNA.out]; omega)
        obtain ⟨q1, e1⟩ := cz (a * 7 + 1) (by rw [← HNA.out]; omega)
        obtain ⟨q2, e2⟩ := cz (a * 7 + 2) (by rw [← HNA.out]; omega)
        obtain ⟨q3, e3⟩ := cz (a * 7 + 3) (by rw [← HNA.out]; omega)
        obtain ⟨q4, e4⟩ := cz (a * 7 + 4) (by rw [← HNA.out]; omega)
        obtain ⟨q5, e5⟩ := cz (a * 7 + 5) (by rw [← HNA.out]; omega)
        obtain ⟨q6, e6⟩ := cz (a * 7 + 6) (by rw [← HNA.out]; omega)
        clear cz hne2
        have S4 : Hid (DL w (w3.setCells F (a * 7) [.string m, .int .u8 (xk : Int), .bool xb, .int .i64 xn, .string xs, .slice xa xl xc, .slice ya yl yc]) F G f name (a + 1) (b + 1)) := S3.out.put hab HX.out HNE.out HX3.out
        go_wp2
        go_roundw
        case rel =>
          first | exact ⟨a + 1, b + 1, by go_num, by go_num, by omega, by omega, S4.out⟩ | ((repeat apply Exists.intro); exact ⟨⟨a + 1, b + 1, by go_num, by go_num, by omega, by omega, S4.out⟩, rfl⟩)
        case measure => simp [intOf]; omega
      · have hm : m = name := of_decide_eq_true HC.out.symm
        have S4 : Hid (DL w w3 F G f name a (b + 1)) := S3.out.skip HX.out hm
        clear hm
        go_wp2
        go_roundw
        case rel =>
          first | exact ⟨a, b + 1, rfl, by go_num, by omega, by omega, S4.out⟩ | ((repeat apply Exists.intro); exact ⟨⟨a, b + 1, rfl, by go_num, by omega, by omega, S4.out⟩, rfl⟩)
        case measure => simp [intOf]; omega
    · have hbe : b = na := by omega
      subst hbe
      have hal : a < b := hab
      have hkk : a = kk := by rw [HKK.out, S.out.many, HNA.out, List.take_length]
      subst hkk
      obtain ⟨i0, hi0, hz0, hz1, hz2⟩ := info_parts info44'
      obtain ⟨z, hz⟩ : ∃ z : Value, z = .agg #[.string ⟨#[]⟩, .int .u8 0, .bool false, .int .i64 0, .string ⟨#[]⟩, .slice none 0 0, .slice none 0 0] := ⟨_, rfl⟩
      have hzc : z.cells.size = 7 := by rw [hz]; rfl
      obtain ⟨vs, hvs⟩ : ∃ vs, vs = (Builtin.zeroCells z.cells (b - a)).toList := ⟨_, rfl⟩
      have hcl : ∀ ty, (Builtin.clear_ #[24] ty #[.slice (some ⟨F, a * 7, none⟩) (b - a) (b - a)]).run Tryd.prog wr = .ok (.tuple #[]) (wr.setCells F (a * 7) vs) := fun ty => by
        rw [hvs]
        obtain ⟨fz, cz⟩ := S.out.cells
        refine run_clear_wide wr 24 44 ty z Tryd.underlying24 (fun W => ?_) F (a * 7) (b - a) (b - a) (by omega) (fun j hj => ?_) (fun j hj => fz _) (fun v hv => ?_)
        · rw [hz]; simp [zeroValue, typeInfo, hi0, hz0]
        · rw [hzc] at hj
          obtain ⟨v, hv⟩ := cz (a * 7 + j) (by rw [← HNA.out]; omega)
          rw [hv]; rfl
        · rw [Array.mem_toList_iff, Builtin.zeroCells] at hv
          obtain ⟨i, _, rfl⟩ := Array.mem_map.1 hv
          have h7 : i % z.cells.size < 7 := by rw [hzc]; exact Nat.mod_lt _ (by omega)
          generalize i % z.cells.size = r at h7
          rw [hz]
          match r, h7 with
          | 0, _ => rfl
          | 1, _ => rfl
          | 2, _ => rfl
          | 3, _ => rfl
          | 4, _ => rfl
          | 5, _ => rfl
          | 6, _ => rfl
      have E : Hid (KP w (wr.setCells F (a * 7) vs) F ∧ (∃ C, (wr.setCells F (a * 7) vs).heap[F]? = some (.cells C 44 (0, 0)) ∧ C.size = b * 7) ∧ ∀ (q : Nat) (m : ByteArray) (x : V), (Vl.dropF f name)[q]? = some (m, x) → Fld (wr.setCells F (a * 7) vs) F G q m x) := by
        have h1 := S.out.clear vs
        rw [HNA.out, List.take_length, ← HNA.out] at h1
        exact h1
      have hab2 : ¬ (b = a) := by omega
      have hab3 : a ≤ b := by omega
      clear hi0 hz0 hz1 hz2 hz hzc hvs S
      go_wp2
      exact ⟨rfl, _, results_tmp (by rfl) _ _ _, rfl, E.out⟩
end Go.Proofs.YtcgkoogdgagddaaDoor
