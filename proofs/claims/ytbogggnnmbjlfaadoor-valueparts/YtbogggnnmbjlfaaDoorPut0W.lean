/- Put of a field into a struct that has none, walked to its end. -/
import Derived.Test.YtbogggnnmbjlfaaDoorPut0
namespace Go.Proofs.YtbogggnnmbjlfaaDoor
open Go.RowKit
open Vl (V)
set_option maxHeartbeats 8000000 in
set_option maxRecDepth 100000 in
theorem put15_empty (name : ByteArray) (hn : name.size ≤ 140737488351232) (x : V) (hx : Vl.small x) (w : World) (H : Nat) (vx : Value) (hH : H ≤ w.heap.size) (hr : Rep w H x vx) :
    Calls Tryd.prog 12 #[.agg #[.int .u8 6, .bool false, .int .i64 0, .string ⟨#[]⟩, .slice none 0 0, .slice none 0 0], .string name, vx] w fun e w' => ∃ v', e = .returned (.tuple #[v', .int .i64 0]) ∧ Below w.heap.size w w' ∧ Rep w' w'.heap.size ⟨6, false, 0, ⟨#[]⟩, [], [(name, x)]⟩ v' := by
  obtain ⟨xk, xb, xn, xs, xa, xl, xc, ya, yl, yc, hv⟩ := repA_form (rep_repA x vx hr)
  have C38 : Hid (∀ W, Below w.heap.size w W → Calls Tryd.prog 36 #[.agg #[.string name, .int .u8 (xk : Int), .bool xb, .int .i64 xn, .string xs, .slice xa xl xc, .slice ya yl yc]] W fun e w' => ∃ d0 d1 d2 d3 d4 d5, e = .returned (.agg #[.string name, d0, d1, d2, d3, d4, d5]) ∧ Below W.heap.size W w' ∧ RepA w' (fun g => W.heap.size ≤ g ∧ g < w'.heap.size) x (.agg #[d0, d1, d2, d3, d4, d5])) := fun W hW =>
    field38 name hn x W _ _ _ _ _ _ H (by have := hW.size; omega) (by rw [← hv]; exact rep_stays (hW.mono hH) (Nat.le_refl _) x _ hr) (fun W va hW hr => (clone34 _ x (Nat.le_refl _) hx W H va hW hr).mono fun e w' h => by
      obtain ⟨v', M, rfl, hb, hc⟩ := h
      exact ⟨v', rfl, hb, hc.rep hx⟩)
  subst hv
  clear hr
  go_enter Tryd.func12, Tryd.ntmps12
  go_wp2_with fail
  refine (clone0 _).mono ?_
  rintro e w1 ⟨rfl, hb1⟩
  obtain ⟨wa, hwa⟩ : ∃ wa, wa = (((w.alloc (.cells #[.int .u8 6, .bool false, .int .i64 0, .string ⟨#[]⟩, .slice none 0 0, .slice none 0 0] 26)).alloc (.cells #[.string name] 9)).alloc (.cells #[.int .u8 (xk : Int), .bool xb, .int .i64 xn, .string xs, .slice xa xl xc, .slice ya yl yc] 26)).alloc (.cells #[.int .u8 0, .bool false, .int .i64 0, .string ⟨#[]⟩, .slice none 0 0, .slice none 0 0] 26) := ⟨_, rfl⟩
  rw [← hwa] at hb1
  have hba : Below w.heap.size w wa := by
    rw [hwa]; exact (below_new2 _ _ _).trans ((below_new2 _ _ _).mono (by simp; omega))
  have na : wa.heap[w.heap.size + 1]? = some (.cells #[.string name] 9 (0, 0)) := by
    rw [hwa]
    refine (Below.heap_alloc _ _ _ (by simp)).trans ((Below.heap_alloc _ _ _ (by simp)).trans ?_)
    have := heap_alloc_new (w.alloc (.cells #[.int .u8 6, .bool false, .int .i64 0, .string ⟨#[]⟩, .slice none 0 0, .slice none 0 0] 26)) (.cells #[.string name] 9)
    simpa using this
  have xa1 : Row6 wa (w.heap.size + 1 + 1) (.int .u8 (xk : Int)) (.bool xb) (.int .i64 xn) (.string xs) (.slice xa xl xc) (.slice ya yl yc) := by
    refine ⟨by rw [hwa]; simp, ?_⟩
    rw [hwa]
    refine (Below.heap_alloc _ _ _ (by simp)).trans ?_
    have := heap_alloc_new ((w.alloc (.cells #[.int .u8 6, .bool false, .int .i64 0, .string ⟨#[]⟩, .slice none 0 0, .slice none 0 0] 26)).alloc (.cells #[.string name] 9)) (.cells #[.int .u8 (xk : Int), .bool xb, .int .i64 xn, .string xs, .slice xa xl xc, .slice ya yl yc] 26)
    simpa using this
  have za : Z6 wa (w.heap.size + 1 + 1 + 1) := by
    refine ⟨by rw [hwa]; simp, ?_⟩
    rw [hwa]
    have := heap_alloc_new (((w.alloc (.cells #[.int .u8 6, .bool false, .int .i64 0, .string ⟨#[]⟩, .slice none 0 0, .slice none 0 0] 26)).alloc (.cells #[.string name] 9)).alloc (.cells #[.int .u8 (xk : Int), .bool xb, .int .i64 xn, .string xs, .slice xa xl xc, .slice ya yl yc] 26)) (.cells #[.int .u8 0, .bool false, .int .i64 0, .string ⟨#[]⟩, .slice none 0 0, .slice none 0 0] 26)
    simpa using this
  have S2 : Hid (PS w (w1.alloc (.cells #[.int .u8 6, .bool false, .int .i64 0, .string ⟨#[]⟩, .slice none 0 0, .slice none 0 0] 26)) w1.heap.size name (.int .u8 (xk : Int)) (.bool xb) (.int .i64 xn) (.string xs) (.slice xa xl xc) (.slice ya yl yc)) := by
    have hb2 : Below wa.heap.size wa (w1.alloc (.cells #[.int .u8 6, .bool false, .int .i64 0, .string ⟨#[]⟩, .slice none 0 0, .slice none 0 0] 26)) := hb1.alloc hb1.size _
    refine ⟨hba.trans (hb2.mono hba.size), ?_, xa1.call hb2, za.call hb2, ⟨by simp, heap_alloc_new w1 _⟩, ?_⟩
    · rw [cell_of_row _ _ _ _ _ _ ((hb2.block _ (by have := za.1; omega)).trans na)]; rfl
    · have := za.1; have := hb1.size; omega
  clear hwa hba na xa1 za hb1
  go_wp2
  obtain ⟨w2, hw2⟩ : ∃ w2, w2 = w1.alloc (.cells #[.int .u8 6, .bool false, .int .i64 0, .string ⟨#[]⟩, .slice none 0 0, .slice none 0 0] 26) := ⟨_, rfl⟩
  obtain ⟨G, hG⟩ : ∃ G, G = w1.heap.size := ⟨_, rfl⟩
  rw [← hw2, ← hG] at S2 ⊢
  clear hw2 hG
  have c5 := S2.out.out.cells.2.2.2.2.2
  have cn := S2.out.name
  go_cut [9] from 18 to 22 (fun s9 wx => s9 = .int .i64 0 ∧ PS w wx G name (.int .u8 (xk : Int)) (.bool xb) (.int .i64 xn) (.string xs) (.slice xa xl xc) (.slice ya yl yc))
  case first =>
    go_region_with (first
      | (go_at_call 34; refine (named36 name _).mono ?_; rintro e w3 ⟨rfl, hw3⟩
         have S3 : Hid (PS w w3 G name (.int .u8 (xk : Int)) (.bool xb) (.int .i64 xn) (.string xs) (.slice xa xl xc) (.slice ya yl yc)) := S2.out.call (by rw [hw3]; exact drew_new _ _)
         have HN3 : Hid (w2.heap.size < w3.heap.size ∧ w3.cell? ⟨w2.heap.size, 0, none⟩ = some (.string name)) := (by rw [hw3]; exact drew_name _ _)
         have c53 := S3.out.out.cells.2.2.2.2.2
         clear hw3)
      | (go_at_call 33; refine (find0 63 (Or.inl rfl) name w2.heap.size _ HN3.out.1 HN3.out.2).mono ?_; rintro e w4 ⟨rfl, hb4⟩
         have S4 : Hid (PS w w4 G name (.int .u8 (xk : Int)) (.bool xb) (.int .i64 xn) (.string xs) (.slice xa xl xc) (.slice ya yl yc)) := S3.out.call (by exact hb4)
         clear hb4))
    all_goals
      go_wp2_with fail
      go_meet
      exact ⟨rfl, S4.out⟩
  case rest =>
    obtain ⟨rfl, hS⟩ := hcut
    have S5 : Hid (PS w wc G name (.int .u8 (xk : Int)) (.bool xb) (.int .i64 xn) (.string xs) (.slice xa xl xc) (.slice ya yl yc)) := hS
    clear hS S2 c5 cn
    have c5 := S5.out.out.cells.2.2.2.2.2
    have cn := S5.out.name
    obtain ⟨p0, p1, p2, p3, p4, p5⟩ := S5.out.x.cells
    go_wp2_with fail
    refine (C38.out _ S5.out.below).mono ?_
    rintro e w6 ⟨z0, z1, z2, z3, z4, z5, rfl, hb6, hr6⟩
    obtain ⟨zk, zb, zn, zs, za, zl, zc, ta, tl, tc, hz⟩ := repA_form hr6
    simp only [Value.agg.injEq, Array.mk.injEq, List.cons.injEq, and_true] at hz
    obtain ⟨rfl, rfl, rfl, rfl, rfl, rfl⟩ := hz
    have S7 : Hid (PS w (w6.alloc (.cells #[.string name, .int .u8 (zk : Int), .bool zb, .int .i64 zn, .string zs, .slice za zl zc, .slice ta tl tc] 39)) G name (.int .u8 (xk : Int)) (.bool xb) (.int .i64 xn) (.string xs) (.slice xa xl xc) (.slice ya yl yc)) := (S5.out.call hb6).call (below_new _ _)
    have R7 : Hid (Row7 (w6.alloc (.cells #[.string name, .int .u8 (zk : Int), .bool zb, .int .i64 zn, .string zs, .slice za zl zc, .slice ta tl tc] 39)) w6.heap.size (.string name) (.int .u8 (zk : Int)) (.bool zb) (.int .i64 zn) (.string zs) (.slice za zl zc) (.slice ta tl tc)) := ⟨by simp, heap_alloc_new w6 _⟩
    have HR7 : Hid (RepA (w6.alloc (.cells #[.string name, .int .u8 (zk : Int), .bool zb, .int .i64 zn, .string zs, .slice za zl zc, .slice ta tl tc] 39)) (fun g => w.heap.size + 1 + 1 + 1 < g ∧ g ≠ G ∧ g < w6.heap.size) x (.agg #[.int .u8 (zk : Int), .bool zb, .int .i64 zn, .string zs, .slice za zl zc, .slice ta tl tc])) :=
      repA_stays (fun g hg => Below.heap_alloc _ _ _ hg.2) (fun g hg => ⟨by have h1 := hg.1; have h2 := S5.out.out.1; have h3 := S5.out.late; omega, by have h1 := hg.1; have h2 := S5.out.out.1; omega, hg.2⟩) x _ hr6
    clear hb6 hr6 c5 cn p0 p1 p2 p3 p4 p5 S5
    go_wp2
    obtain ⟨w7, hw7⟩ : ∃ w7, w7 = w6.alloc (.cells #[.string name, .int .u8 (zk : Int), .bool zb, .int .i64 zn, .string zs, .slice za zl zc, .slice ta tl tc] 39) := ⟨_, rfl⟩
    obtain ⟨F, hF⟩ : ∃ F, F = w6.heap.size := ⟨_, rfl⟩
    rw [← hw7] at S7 R7 HR7 ⊢
    rw [← hF] at R7 HR7 ⊢
    clear hw7 hF
    have c5 := S7.out.out.cells.2.2.2.2.2
    obtain ⟨p0, p1, p2, p3, p4, p5, p6⟩ := R7.out.cells
    have HG7 : Hid (G < w7.heap.size ∧ F < w7.heap.size) := ⟨S7.out.out.1, R7.out.1⟩
    have HNM : Hid (name.size ≤ 140737488351232) := hn
    have hGl : G < w7.heap.size := S7.out.out.1
    go_cut [] from 41 to 50 (fun wx => PE w wx G name x)
    case first =>
      go_region_with (first
        | (go_at_call 33; refine (find0 35 (Or.inr rfl) name (w.heap.size + 1) _ ?_ ?_).mono ?_; (first | exact (S7.out.call (Below.refl _ _).drew).name_lt | exact (S7.out.call (drew_new _ _)).name_lt); (first | exact (S7.out.call (Below.refl _ _).drew).name | exact (S7.out.call (drew_new _ _)).name); rintro e w8 ⟨rfl, hb8⟩
           have HB8 : Hid (Below w7.heap.size w7 w8) := (by first | exact (Below.refl _ _).drew.trans hb8 | exact (drew_new _ _).trans (hb8.mono (drew_new _ _).size))
           have S8 : Hid (PS w w8 G name (.int .u8 (xk : Int)) (.bool xb) (.int .i64 xn) (.string xs) (.slice xa xl xc) (.slice ya yl yc)) := S7.out.call HB8.out
           have R8 : Hid (Row7 w8 F (.string name) (.int .u8 (zk : Int)) (.bool zb) (.int .i64 zn) (.string zs) (.slice za zl zc) (.slice ta tl tc)) := R7.out.call HB8.out
           have c58 := S8.out.out.cells.2.2.2.2.2
           have lt8 := S8.out.out.1
           obtain ⟨q0, q1, q2, q3, q4, q5, q6⟩ := R8.out.cells)
        | (go_at_call 37; refine (insert39_nil name zk zb zn zs za zl zc ta tl tc _ _ ?_).mono ?_; (first | exact ⟨by simp, heap_alloc_new w8 _⟩ | exact (drew_row7 w7 _ _ _ _ _ _ _).call hb8); rintro e w9 ⟨v', rfl, ho9, hg9⟩
           obtain ⟨g, cap, rfl, hgb, hg9', hcl⟩ := own_one rfl ho9
           have HB9 : Hid (Below w7.heap.size w7 w9) := (by first | exact (HB8.out.alloc HB8.out.size _).grown hg9 (by have := HB8.out.size; simp; omega) (fun k h => by cases h) | exact HB8.out.grown hg9 HB8.out.size (fun k h => by cases h))
           have S9 : Hid (PS w w9 G name (.int .u8 (xk : Int)) (.bool xb) (.int .i64 xn) (.string xs) (.slice xa xl xc) (.slice ya yl yc)) := S7.out.call HB9.out
           have HGG : Hid (w7.heap.size ≤ g) := (by have h1 := HB8.out.size; show _ ≤ _; first | omega | (simp at hgb; omega))
           have HE9 : Hid (PE w (w9.setCell ⟨G, 5, none⟩ (.slice (some ⟨g, 0, none⟩) 1 cap)) G name x) := PE.mk HNM.out S9.out HB9.out HG7.out.1 HG7.out.2 HR7.out HGG.out hg9' hcl
           have c59 := S9.out.out.cells.2.2.2.2.2
           have fz9 := S9.out.out.free
           have lt9 := S9.out.out.1
           clear ho9 hg9 hcl hgb hg9'))
      all_goals
        go_wp2_with fail
        go_meet
        exact HE9.out
    case rest =>
      clear S7 R7 HR7 c5 p0 p1 p2 p3 p4 p5 p6 hGl
      obtain ⟨g, cap, hR, hZ, hB, hlt, hrep⟩ := hcut
      obtain ⟨p0, p1, p2, p3, p4, p5⟩ := hR.cells
      obtain ⟨q0, q1, q2, q3, q4, q5⟩ := Row6.cells hZ
      have fz := Row6.free hZ
      have hl1 := hR.1
      have hl2 := hZ.1
      obtain ⟨w8, hw8⟩ : ∃ w8, w8 = wc.setCells (w.heap.size + 1 + 1 + 1) 0 [.int .u8 6, .bool false, .int .i64 0, .string ⟨#[]⟩, .slice none 0 0, .slice (some ⟨g, 0, none⟩) 1 cap] := ⟨_, rfl⟩
      have hst : w8.heap[w.heap.size + 1 + 1 + 1]? = some (.cells #[.int .u8 6, .bool false, .int .i64 0, .string ⟨#[]⟩, .slice none 0 0, .slice (some ⟨g, 0, none⟩) 1 cap] 26 (0, 0)) := by
        rw [hw8]; exact Z6.put hZ _ _ _ _ _ _
      have hsz : w8.heap.size = wc.heap.size := by rw [hw8, size_setCells']
      have hbl : Below w.heap.size w w8 := by rw [hw8]; exact below_setCells (by omega) _ _ hB
      have hrp : Rep w8 w8.heap.size ⟨6, false, 0, ⟨#[]⟩, [], [(name, x)]⟩ (.agg #[.int .u8 6, .bool false, .int .i64 0, .string ⟨#[]⟩, .slice none 0 0, .slice (some ⟨g, 0, none⟩) 1 cap]) :=
        repA_rep (fun k hk => hk.2) _ _ (repA_stays (B := fun k => w.heap.size + 1 + 1 + 1 < k ∧ k < w8.heap.size) (fun k hk => by rw [hw8]; exact heap_setCells_ne _ k (by omega) _ _ _) (fun k hk => ⟨hk.1, by rw [hsz]; exact hk.2⟩) _ _ hrep)
      have HW8 : Hid (w8 = wc.setCells (w.heap.size + 1 + 1 + 1) 0 [.int .u8 6, .bool false, .int .i64 0, .string ⟨#[]⟩, .slice none 0 0, .slice (some ⟨g, 0, none⟩) 1 cap]) := hw8
      have HST : Hid (w8.heap[w.heap.size + 1 + 1 + 1]? = some (.cells #[.int .u8 6, .bool false, .int .i64 0, .string ⟨#[]⟩, .slice none 0 0, .slice (some ⟨g, 0, none⟩) 1 cap] 26 (0, 0))) := hst
      have HBL : Hid (Below w.heap.size w w8) := hbl
      have HRP : Hid (Rep w8 w8.heap.size ⟨6, false, 0, ⟨#[]⟩, [], [(name, x)]⟩ (.agg #[.int .u8 6, .bool false, .int .i64 0, .string ⟨#[]⟩, .slice none 0 0, .slice (some ⟨g, 0, none⟩) 1 cap])) := hrp
      clear hw8 hst hsz hbl hrp hR hZ hB hrep
      go_wp2
      rw [sets6, ← HW8.out]
      exact bodyPost_ret (v := .tuple #[.agg #[.int .u8 6, .bool false, .int .i64 0, .string ⟨#[]⟩, .slice none 0 0, .slice (some ⟨g, 0, none⟩) 1 cap], .int .i64 0]) ((results_row_tmp (fn := Tryd.f12) (p := 6) (u := 7) (ty := 26) (by rfl) _ w8 (w.heap.size + 1 + 1 + 1) 26 _ (0, 0) _ (by rfl) HST.out Tryd.underlying26 rfl info26).trans (by rfl)) rfl ⟨_, rfl, HBL.out, HRP.out⟩
end Go.Proofs.YtbogggnnmbjlfaaDoor
