/- Put, walked: the field of that name has the value, or it is laid at its place. -/
import Derived.Test.YtbogggnnmbjlfaaDoorPutG
namespace Go.Proofs.YtbogggnnmbjlfaaDoor
open Go.RowKit
open Vl (V)
theorem results_put (w : World) (G : Nat) (c0 c1 c2 c3 c4 c5 : Value) (h : w.heap[G]? = some (.cells #[c0, c1, c2, c3, c4, c5] 26 (0, 0))) (tmps : Array Value) (hp : tmps.getD 6 undef = .pointer (some ⟨G, 0, none⟩)) (n : Int) (hu : tmps.getD 7 undef = .int .i64 n) :
    (results Tryd.f12 tmps).run Tryd.prog w = .ok (.tuple #[.agg #[c0, c1, c2, c3, c4, c5], .int .i64 n]) w := by
  rw [results_row_tmp (fn := Tryd.f12) (p := 6) (u := 7) (ty := 26) (by rfl) _ w G 26 _ (0, 0) _ hp h Tryd.underlying26 rfl info26, hu]
/-- the answer laid out of what was made -/
theorem PD.answer {w wc : World} {t : V} {c0 c1 c2 c3 c4 c5 : Value} (hZ : Z6 wc (w.heap.size + 1 + 1 + 1)) (hB : Below w.heap.size w wc)
    (hrep : RepA wc (fun g => w.heap.size + 1 + 1 + 1 < g ∧ g < wc.heap.size) t (.agg #[c0, c1, c2, c3, c4, c5])) :
    (wc.setCells (w.heap.size + 1 + 1 + 1) 0 [c0, c1, c2, c3, c4, c5]).heap[w.heap.size + 1 + 1 + 1]? = some (.cells #[c0, c1, c2, c3, c4, c5] 26 (0, 0)) ∧
    Below w.heap.size w (wc.setCells (w.heap.size + 1 + 1 + 1) 0 [c0, c1, c2, c3, c4, c5]) ∧
    RepA (wc.setCells (w.heap.size + 1 + 1 + 1) 0 [c0, c1, c2, c3, c4, c5]) (fun g => w.heap.size ≤ g ∧ g < (wc.setCells (w.heap.size + 1 + 1 + 1) 0 [c0, c1, c2, c3, c4, c5]).heap.size) t (.agg #[c0, c1, c2, c3, c4, c5]) := by
  refine ⟨Z6.put hZ _ _ _ _ _ _, below_setCells (by omega) _ _ hB, ?_⟩
  rw [size_setCells']
  exact repA_stays (fun k hk => heap_setCells_ne _ k (by omega) _ _ _) (fun k hk => ⟨by omega, hk.2⟩) _ _ hrep
/-- Put's four variables, laid -/
theorem PG.start {w w1 wa : World} {M : Nat} {name : ByteArray} {v0 v1 v2 v3 v4 v5 x0 x1 x2 x3 x4 x5 : Value} {b : Bool} {n : Int} {s : ByteArray} {l : List V} {f : List (ByteArray × V)} {ao : Option Addr} {lc : Nat} {fo : Option Addr} {fc : Nat}
    (hwa : wa = (((w.alloc (.cells #[v0, v1, v2, v3, v4, v5] 26)).alloc (.cells #[.string name] 9)).alloc (.cells #[x0, x1, x2, x3, x4, x5] 26)).alloc (.cells #[.int .u8 0, .bool false, .int .i64 0, .string ⟨#[]⟩, .slice none 0 0, .slice none 0 0] 26))
    (hb : Below wa.heap.size wa w1) (hM1 : wa.heap.size ≤ M) (hM2 : M ≤ w1.heap.size) (hli : LiesLA w1 (fun g => wa.heap.size ≤ g ∧ g < M) ao lc l) (hfi : LiesFA w1 M fo fc f) :
    PG w (w1.alloc (.cells #[.int .u8 6, .bool b, .int .i64 n, .string s, .slice ao l.length lc, .slice fo f.length fc] 26)) M w1.heap.size name x0 x1 x2 x3 x4 x5 b n s l f ao lc fo fc := by
  have hsz : wa.heap.size = w.heap.size + 1 + 1 + 1 + 1 := by rw [hwa]; simp
  have hba : Below w.heap.size w wa := by
    rw [hwa]; exact (below_new2 _ _ _).trans ((below_new2 _ _ _).mono (by simp; omega))
  have na : wa.heap[w.heap.size + 1]? = some (.cells #[.string name] 9 (0, 0)) := by
    rw [hwa]
    refine (Below.heap_alloc _ _ _ (by simp)).trans ((Below.heap_alloc _ _ _ (by simp)).trans ?_)
    have := heap_alloc_new (w.alloc (.cells #[v0, v1, v2, v3, v4, v5] 26)) (.cells #[.string name] 9)
    simpa using this
  have xa1 : Row6 wa (w.heap.size + 1 + 1) x0 x1 x2 x3 x4 x5 := by
    refine ⟨by omega, ?_⟩
    rw [hwa]
    refine (Below.heap_alloc _ _ _ (by simp)).trans ?_
    have := heap_alloc_new ((w.alloc (.cells #[v0, v1, v2, v3, v4, v5] 26)).alloc (.cells #[.string name] 9)) (.cells #[x0, x1, x2, x3, x4, x5] 26)
    simpa using this
  have za : Z6 wa (w.heap.size + 1 + 1 + 1) := by
    refine ⟨by omega, ?_⟩
    rw [hwa]
    have := heap_alloc_new (((w.alloc (.cells #[v0, v1, v2, v3, v4, v5] 26)).alloc (.cells #[.string name] 9)).alloc (.cells #[x0, x1, x2, x3, x4, x5] 26)) (.cells #[.int .u8 0, .bool false, .int .i64 0, .string ⟨#[]⟩, .slice none 0 0, .slice none 0 0] 26)
    simpa using this
  have hb2 : Below wa.heap.size wa (w1.alloc (.cells #[.int .u8 6, .bool b, .int .i64 n, .string s, .slice ao l.length lc, .slice fo f.length fc] 26)) := hb.alloc hb.size _
  have hle := hb.size
  refine ⟨hba.trans (hb2.mono hba.size), ?_, xa1.call hb2, za.call hb2, ⟨by simp, heap_alloc_new w1 _⟩, by omega, hM2, hli.stays (fun g hg => Below.heap_alloc _ _ _ (by omega)) (fun g hg => ⟨by omega, hg.2⟩), (LF.of hfi).agree (fun g _ hg => Below.heap_alloc _ _ _ hg) (by simp)⟩
  rw [cell_of_row _ _ _ _ _ _ ((hb2.block _ (by omega)).trans na)]; rfl
theorem PG.row {w W : World} {M G : Nat} {name : ByteArray} {x0 x1 x2 x3 x4 x5 : Value} {b : Bool} {n : Int} {s : ByteArray} {l : List V} {f : List (ByteArray × V)} {ao : Option Addr} {lc : Nat} {F fc : Nat}
    (h : PG w W M G name x0 x1 x2 x3 x4 x5 b n s l f ao lc (some ⟨F, 0, none⟩) fc) : F < W.heap.size ∧ (∀ r, W.frozen? ⟨F, r, none⟩ = false) ∧ ∀ (i r : Nat), i < f.length → r < 7 → ∃ v, W.cell? ⟨F, i * 7 + r, none⟩ = some v := by
  rcases h.fi with ⟨_, e, _⟩ | ⟨_, F', e, _, _, _, hD⟩
  · cases e
  · cases e
    obtain ⟨h1, C, h2, h3, _⟩ := hD
    refine ⟨h1, row_free h2, fun i r hi hr => ?_⟩
    rw [cell_of_row _ _ _ _ _ _ h2]
    exact ⟨C[i * 7 + r]'(by rw [h3]; omega), Array.getElem?_eq_getElem _⟩
theorem PG.some {w W : World} {M G : Nat} {name : ByteArray} {x0 x1 x2 x3 x4 x5 : Value} {b : Bool} {n : Int} {s : ByteArray} {l : List V} {f : List (ByteArray × V)} {ao : Option Addr} {lc : Nat} {fo : Option Addr} {fc : Nat}
    (h : PG w W M G name x0 x1 x2 x3 x4 x5 b n s l f ao lc fo fc) (hp : 0 < f.length) : ∃ F, fo = some ⟨F, 0, none⟩ := by
  rcases h.fi with ⟨e, _⟩ | ⟨_, F', e, _⟩
  · rw [e] at hp; simp at hp
  · exact ⟨F', e⟩
set_option maxHeartbeats 16000000 in
set_option maxRecDepth 100000 in
theorem put15 (name : ByteArray) (hn : name.size ≤ 140737488351232) (x : V) (hx : Vl.small x) (b : Bool) (n : Int) (s : ByteArray) (l : List V) (f : List (ByteArray × V)) (ht : Vl.small ⟨6, b, n, s, l, f⟩) (hfl : f.length ≤ 1466015503667) (w : World) (H : Nat) (vt vx : Value) (hH : H ≤ w.heap.size) (hr : Rep w H ⟨6, b, n, s, l, f⟩ vt) (hrx : Rep w H x vx) :
    Calls Tryd.prog 12 #[vt, .string name, vx] w fun e w' => ∃ v', e = .returned (.tuple #[v', .int .i64 0]) ∧ Below w.heap.size w w' ∧ RepA w' (fun g => w.heap.size ≤ g ∧ g < w'.heap.size) ⟨6, b, n, s, l, Vl.putF f name x⟩ v' ∧ ∃ c0 c1 c2 c3 c4 c5, v' = .agg #[c0, c1, c2, c3, c4, c5] ∧ FreeC w' c5 := by
  have hr' := hr
  rw [Rep] at hr'
  obtain ⟨vo, vc, uo, uc, rfl, _, k2, k3, k4, k5, _, _⟩ := hr'
  have hm : ∀ a ∈ f, a.1.size ≤ maxLen := fun a ha => by
    rw [Vl.small] at ht
    have := (Vl.smallF_mem f a ht.2.2.2.2 ha).1
    unfold maxLen; omega
  obtain ⟨xk, xb, xn, xs, xa, xl, xc, ya, yl, yc, hv⟩ := repA_form (rep_repA x vx hrx)
  have C34 : Hid (∀ W, Below w.heap.size w W → Calls Tryd.prog 31 #[.agg #[.int .u8 6, .bool b, .int .i64 n, .string s, .slice vo l.length vc, .slice uo f.length uc]] W fun e w' => ∃ (M : Nat) (ao : Option Addr) (lc : Nat) (fo : Option Addr) (fc : Nat), e = .returned (.agg #[.int .u8 6, .bool b, .int .i64 n, .string s, .slice ao l.length lc, .slice fo f.length fc]) ∧ Below W.heap.size W w' ∧ W.heap.size ≤ M ∧ M ≤ w'.heap.size ∧ LiesLA w' (fun g => W.heap.size ≤ g ∧ g < M) ao lc l ∧ LiesFA w' M fo fc f) := fun W hW =>
    (clone34 _ _ (Nat.le_refl _) ht W H _ (by have := hW.size; omega) (rep_stays (hW.mono hH) (Nat.le_refl _) _ _ hr)).mono fun e w' h => by
      obtain ⟨v', M, rfl, hb, hc⟩ := h
      obtain ⟨ao, lc, fo, fc, rfl, _, _, _, q1, q2, q3, q4⟩ := hc
      exact ⟨M, ao, lc, fo, fc, rfl, hb, q1, q2, q3, q4⟩
  have CX : Hid (∀ W, Below w.heap.size w W → Calls Tryd.prog 31 #[.agg #[.int .u8 (xk : Int), .bool xb, .int .i64 xn, .string xs, .slice xa xl xc, .slice ya yl yc]] W fun e w' => ∃ (zk : Nat) (zb : Bool) (zn : Int) (zs : ByteArray) (za : Option Addr) (zl zc : Nat) (ta : Option Addr) (tl tc : Nat), e = .returned (.agg #[.int .u8 (zk : Int), .bool zb, .int .i64 zn, .string zs, .slice za zl zc, .slice ta tl tc]) ∧ Below W.heap.size W w' ∧ RepA w' (fun g => W.heap.size ≤ g ∧ g < w'.heap.size) x (.agg #[.int .u8 (zk : Int), .bool zb, .int .i64 zn, .string zs, .slice za zl zc, .slice ta tl tc])) := fun W hW =>
    (clone34 _ x (Nat.le_refl _) hx W H _ (by have := hW.size; omega) (by rw [← hv]; exact rep_stays (hW.mono hH) (Nat.le_refl _) x _ hrx)).mono fun e w' h => by
      obtain ⟨v', M, rfl, hb, hc⟩ := h
      have hr2 := hc.rep hx
      obtain ⟨zk, zb, zn, zs, za, zl, zc, ta, tl, tc, rfl⟩ := repA_form hr2
      exact ⟨zk, zb, zn, zs, za, zl, zc, ta, tl, tc, rfl, hb, hr2⟩
  have C38 : Hid (∀ W, Below w.heap.size w W → Calls Tryd.prog 36 #[.agg #[.string name, .int .u8 (xk : Int), .bool xb, .int .i64 xn, .string xs, .slice xa xl xc, .slice ya yl yc]] W fun e w' => ∃ d0 d1 d2 d3 d4 d5, e = .returned (.agg #[.string name, d0, d1, d2, d3, d4, d5]) ∧ Below W.heap.size W w' ∧ RepA w' (fun g => W.heap.size ≤ g ∧ g < w'.heap.size) x (.agg #[d0, d1, d2, d3, d4, d5])) := fun W hW =>
    field38 name hn x W _ _ _ _ _ _ H (by have := hW.size; omega) (by rw [← hv]; exact rep_stays (hW.mono hH) (Nat.le_refl _) x _ hrx) (fun W va hW hr => (clone34 _ x (Nat.le_refl _) hx W H va hW hr).mono fun e w' h => by
      obtain ⟨v', M, rfl, hb, hc⟩ := h
      exact ⟨v', rfl, hb, hc.rep hx⟩)
  subst hv
  have HM : Hid (∀ a ∈ f, a.1.size ≤ maxLen) := hm
  have HK : Hid ((-9223372036854775808 ≤ n ∧ n < 9223372036854775808) ∧ s.size ≤ maxLen) := ⟨k2, k3⟩
  have HLM : Hid (l.length ≤ maxLen) := k4
  have HFM : Hid (f.length ≤ 1466015503667) := hfl
  have HNM : Hid (name.size ≤ maxLen) := by show _ ≤ _; unfold maxLen; omega
  obtain ⟨ll, hll⟩ : ∃ n, n = l.length := ⟨_, rfl⟩
  obtain ⟨fl, hfl'⟩ : ∃ n, n = f.length := ⟨_, rfl⟩
  have HLL : Hid (ll = l.length) := hll
  have HFL : Hid (fl = f.length) := hfl'
  rw [← hll, ← hfl'] at C34 ⊢
  have hf9 : fl ≤ 9223372036854775807 := by omega
  clear hr hrx hm k2 k3 k4 k5 hll hfl' hfl ht hx hn
  obtain ⟨p1, hp1⟩ : ∃ p, p = Vl.place (fun m => decide (m = name)) f := ⟨_, rfl⟩
  obtain ⟨p2, hp2⟩ : ∃ p, p = Vl.place (fun m => decide (0 < Vl.cmpS m name)) f := ⟨_, rfl⟩
  have HP1 : Hid (p1 = Vl.place (fun m => decide (m = name)) f) := hp1
  have HP2 : Hid (p2 = Vl.place (fun m => decide (0 < Vl.cmpS m name)) f) := hp2
  have HP2L : Hid (p2 ≤ f.length) := by show _ ≤ _; rw [hp2]; exact Vl.place_le _ f
  obtain ⟨t', ht'⟩ : ∃ t' : V, t' = ⟨6, b, n, s, l, Vl.putF f name x⟩ := ⟨_, rfl⟩
  have HT : Hid (t' = ⟨6, b, n, s, l, if p1 < f.length then f.set p1 (name, x) else insF f p2 (name, x)⟩) := by show _ = _; rw [ht', Vl.putF, hp1, hp2]
  rw [← ht']
  clear ht' hp1 hp2
  go_enter Tryd.func12, Tryd.ntmps12
  go_wp2_with fail
  refine (C34.out _ ((below_new2 _ _ _).trans ((below_new2 _ _ _).mono (by simp; omega)))).mono ?_
  rintro e w1 ⟨M, ao, lc, fo, fc, rfl, hb1, hM1, hM2, hli, hfi⟩
  have S2 : Hid (PG w (w1.alloc (.cells #[.int .u8 6, .bool b, .int .i64 n, .string s, .slice ao ll lc, .slice fo fl fc] 26)) M w1.heap.size name (.int .u8 (xk : Int)) (.bool xb) (.int .i64 xn) (.string xs) (.slice xa xl xc) (.slice ya yl yc) b n s l f ao lc fo fc) := by
    have := PG.start (b := b) (n := n) (s := s) rfl hb1 hM1 hM2 hli hfi
    rw [← HLL.out, ← HFL.out] at this
    exact this
  clear hb1 hM1 hM2 hli hfi C34
  go_wp2
  obtain ⟨w2, hw2⟩ : ∃ w2, w2 = w1.alloc (.cells #[.int .u8 6, .bool b, .int .i64 n, .string s, .slice ao ll lc, .slice fo fl fc] 26) := ⟨_, rfl⟩
  obtain ⟨G, hG⟩ : ∃ G, G = w1.heap.size := ⟨_, rfl⟩
  rw [← hw2, ← hG] at S2 ⊢
  clear hw2 hG
  have c5 := S2.out.out.cells.2.2.2.2.2
  rw [← HFL.out] at c5
  have cn := S2.out.name
  have F53 : Hid (∀ W P, PG w W M G name (.int .u8 (xk : Int)) (.bool xb) (.int .i64 xn) (.string xs) (.slice xa xl xc) (.slice ya yl yc) b n s l f ao lc fo fc → P < W.heap.size → W.cell? ⟨P, 0, none⟩ = some (.string name) → Calls Tryd.prog 33 #[.slice fo fl fc, .func (.func 63) #[] #[.pointer (some ⟨P, 0, none⟩)]] W fun e w' => e = .returned (.int .i64 (p1 : Int)) ∧ Below W.heap.size W w') := fun W P hW hP hp => by
    rw [HFL.out, HP1.out]
    exact find35_53 name P f fo fc W G (Nat.le_of_lt hW.out.1) (hW.fi.lies (by have := HFM.out; unfold maxLen; omega) HM.out) hP hp
  have F37 : Hid (∀ W P, PG w W M G name (.int .u8 (xk : Int)) (.bool xb) (.int .i64 xn) (.string xs) (.slice xa xl xc) (.slice ya yl yc) b n s l f ao lc fo fc → P < W.heap.size → W.cell? ⟨P, 0, none⟩ = some (.string name) → Calls Tryd.prog 33 #[.slice fo fl fc, .func (.func 35) #[] #[.pointer (some ⟨P, 0, none⟩)]] W fun e w' => e = .returned (.int .i64 (p2 : Int)) ∧ Below W.heap.size W w') := fun W P hW hP hp => by
    rw [HFL.out, HP2.out]
    exact find35_37 name P f fo fc W G (Nat.le_of_lt hW.out.1) (hW.fi.lies (by have := HFM.out; unfold maxLen; omega) HM.out) hP hp
  go_cut [9] from 18 to 22 (fun s9 wx => s9 = .int .i64 (p1 : Int) ∧ PG w wx M G name (.int .u8 (xk : Int)) (.bool xb) (.int .i64 xn) (.string xs) (.slice xa xl xc) (.slice ya yl yc) b n s l f ao lc fo fc)
  case first =>
    go_region_with (first
      | (go_at_call 34; refine (named36 name _).mono ?_; rintro e w3 ⟨rfl, hw3⟩
         have S3 : Hid (PG w w3 M G name (.int .u8 (xk : Int)) (.bool xb) (.int .i64 xn) (.string xs) (.slice xa xl xc) (.slice ya yl yc) b n s l f ao lc fo fc) := S2.out.call (by rw [hw3]; exact drew_new _ _)
         have HN3 : Hid (w2.heap.size < w3.heap.size ∧ w3.cell? ⟨w2.heap.size, 0, none⟩ = some (.string name)) := (by rw [hw3]; exact drew_name _ _)
         have c53 := S3.out.out.cells.2.2.2.2.2
         rw [← HFL.out] at c53
         clear hw3)
      | (go_at_call 33; refine (F53.out _ w2.heap.size S3.out HN3.out.1 HN3.out.2).mono ?_; rintro e w4 ⟨rfl, hb4⟩
         have S4 : Hid (PG w w4 M G name (.int .u8 (xk : Int)) (.bool xb) (.int .i64 xn) (.string xs) (.slice xa xl xc) (.slice ya yl yc) b n s l f ao lc fo fc) := S3.out.call (by exact hb4)
         clear hb4))
    all_goals
      go_wp2_with fail
      go_meet
      exact ⟨rfl, S4.out⟩
  case rest =>
    obtain ⟨rfl, hS⟩ := hcut
    have S5 : Hid (PG w wc M G name (.int .u8 (xk : Int)) (.bool xb) (.int .i64 xn) (.string xs) (.slice xa xl xc) (.slice ya yl yc) b n s l f ao lc fo fc) := hS
    clear hS S2 c5 cn F53
    have c5 := S5.out.out.cells.2.2.2.2.2
    rw [← HFL.out] at c5
    have cn := S5.out.name
    obtain ⟨p0, q1, q2, q3, q4, q5⟩ := S5.out.x.cells
    by_cases hlt : p1 < fl
    · have hp1 : p1 < f.length := by rw [← HFL.out]; exact hlt
      obtain ⟨F, rfl⟩ := S5.out.some (by omega)
      have HY : Hid (∃ y, f[p1]? = some (name, y)) := by
        show ∃ _, _
        rw [HP1.out]; exact place_name name f (by rw [← HP1.out]; exact hp1)
      have HTB : Hid (t' = ⟨6, b, n, s, l, f.set p1 (name, x)⟩) := by show _ = _; rw [HT.out, if_pos hp1]
      have HP1L : Hid (p1 < f.length) := hp1
      clear hp1 cn F37
      obtain ⟨w5, rfl⟩ : ∃ w5, w5 = wc := ⟨_, rfl⟩
      go_wp2
      go_cut [] from 28 to 34 (fun wx => PD w wx G t')
      case first =>
        go_region_with (first
          | (go_at_call 31; refine (CX.out _ ?_).mono ?_; (first | exact (S5.out.call (Below.refl _ _).drew).below | exact S5.out.below); rintro e w8 ⟨zk, zb, zn, zs, za, zl, zc, ta, tl, tc, rfl, hb8, hr8⟩
             have HB8 : Hid (Below w5.heap.size w5 w8) := (by first | exact (Below.refl _ _).drew.trans hb8 | exact hb8)
             have S8 : Hid (PG w w8 M G name (.int .u8 (xk : Int)) (.bool xb) (.int .i64 xn) (.string xs) (.slice xa xl xc) (.slice ya yl yc) b n s l f ao lc (some ⟨F, 0, none⟩) fc) := S5.out.call HB8.out
             have HE8 : Hid (PD w (w8.setCells F (p1 * 7 + 1) [.int .u8 (zk : Int), .bool zb, .int .i64 zn, .string zs, .slice za zl zc, .slice ta tl tc]) G t') := (by
               obtain ⟨y, hy⟩ := HY.out
               show PD _ _ _ _
               rw [HTB.out]
               exact PD.set S8.out HLM.out (by have := HFM.out; unfold maxLen; omega) HM.out HK.out rfl hy (repA_stays (fun _ _ => rfl) (fun g hg => ⟨by have h1 := hg.1; have h2 := S5.out.out.1; first | omega | (have h3 : w5.drew.heap.size = w5.heap.size := rfl; omega), hg.2⟩) x _ hr8))
             have c58 := S8.out.out.cells.2.2.2.2.2
             rw [← HFL.out] at c58
             obtain ⟨ltF, fzF, slF⟩ := S8.out.row
             obtain ⟨r1, e1⟩ := slF p1 1 HP1L.out (by omega)
             obtain ⟨r2, e2⟩ := slF p1 2 HP1L.out (by omega)
             obtain ⟨r3, e3⟩ := slF p1 3 HP1L.out (by omega)
             obtain ⟨r4, e4⟩ := slF p1 4 HP1L.out (by omega)
             obtain ⟨r5, e5⟩ := slF p1 5 HP1L.out (by omega)
             obtain ⟨r6, e6⟩ := slF p1 6 HP1L.out (by omega)
             clear hb8 hr8 slF))
        all_goals
          go_wp2_with fail
          go_meet
          exact HE8.out
      case rest =>
        clear S5 c5 p0 q1 q2 q3 q4 q5
        obtain ⟨c0, c1, c2, c3, c4, c5, ⟨hR, hFr⟩, hZ, hB, hlt2, hrep⟩ := hcut
        obtain ⟨uk, ub, un, us, ua, ul, uc', va, vl, vc', hu⟩ := repA_form hrep
        simp only [Value.agg.injEq, Array.mk.injEq, List.cons.injEq, and_true] at hu
        obtain ⟨rfl, rfl, rfl, rfl, rfl, rfl⟩ := hu
        obtain ⟨p0, p1', p2', p3, p4, p5⟩ := hR.cells
        obtain ⟨q0, q1, q2, q3, q4, q5⟩ := Row6.cells hZ
        have fz := Row6.free hZ
        have hl1 := hR.1
        have hl2 := hZ.1
        have HFR : Hid (FreeC wc (.slice va vl vc')) := hFr
        clear hFr
        obtain ⟨a1, a2, a3⟩ := PD.answer hZ hB hrep
        obtain ⟨w8, hw8⟩ : ∃ w8, w8 = wc.setCells (w.heap.size + 1 + 1 + 1) 0 [.int .u8 (uk : Int), .bool ub, .int .i64 un, .string us, .slice ua ul uc', .slice va vl vc'] := ⟨_, rfl⟩
        rw [← hw8] at a1 a2 a3
        have HW8 : Hid (w8 = wc.setCells (w.heap.size + 1 + 1 + 1) 0 [.int .u8 (uk : Int), .bool ub, .int .i64 un, .string us, .slice ua ul uc', .slice va vl vc']) := hw8
        have HA1 : Hid (w8.heap[w.heap.size + 1 + 1 + 1]? = some (.cells #[.int .u8 (uk : Int), .bool ub, .int .i64 un, .string us, .slice ua ul uc', .slice va vl vc'] 26 (0, 0))) := a1
        have HA2 : Hid (Below w.heap.size w w8) := a2
        have HA3 : Hid (RepA w8 (fun g => w.heap.size ≤ g ∧ g < w8.heap.size) t' (.agg #[.int .u8 (uk : Int), .bool ub, .int .i64 un, .string us, .slice ua ul uc', .slice va vl vc'])) := a3
        clear hw8 a1 a2 a3 hR hZ hB hrep
        go_wp2
        rw [sets6, ← HW8.out]
        exact bodyPost_ret (results_put w8 (w.heap.size + 1 + 1 + 1) _ _ _ _ _ _ HA1.out _ (by rfl) 0 (by rfl)) rfl ⟨_, rfl, HA2.out, HA3.out, _, _, _, _, _, _, rfl, fun a n k e r => by rw [HW8.out, World.frozen?_setCells]; exact HFR.out a n k e r⟩
    · have HTC : Hid (t' = ⟨6, b, n, s, l, insF f p2 (name, x)⟩) := by show _ = _; rw [HT.out, if_neg (by rw [← HFL.out]; exact hlt)]
      clear CX
      obtain ⟨w5, rfl⟩ : ∃ w5, w5 = wc := ⟨_, rfl⟩
      go_wp2_with fail
      refine (C38.out _ S5.out.below).mono ?_
      rintro e w6 ⟨z0, z1, z2, z3, z4, z5, rfl, hb6, hr6⟩
      obtain ⟨zk, zb, zn, zs, za, zl, zc, ta, tl, tc, hz⟩ := repA_form hr6
      simp only [Value.agg.injEq, Array.mk.injEq, List.cons.injEq, and_true] at hz
      obtain ⟨rfl, rfl, rfl, rfl, rfl, rfl⟩ := hz
      have S7 : Hid (PG w (w6.alloc (.cells #[.string name, .int .u8 (zk : Int), .bool zb, .int .i64 zn, .string zs, .slice za zl zc, .slice ta tl tc] 39)) M G name (.int .u8 (xk : Int)) (.bool xb) (.int .i64 xn) (.string xs) (.slice xa xl xc) (.slice ya yl yc) b n s l f ao lc fo fc) := (S5.out.call hb6).call (below_new _ _)
      have R7 : Hid (Row7 (w6.alloc (.cells #[.string name, .int .u8 (zk : Int), .bool zb, .int .i64 zn, .string zs, .slice za zl zc, .slice ta tl tc] 39)) w6.heap.size (.string name) (.int .u8 (zk : Int)) (.bool zb) (.int .i64 zn) (.string zs) (.slice za zl zc) (.slice ta tl tc)) := ⟨by simp, heap_alloc_new w6 _⟩
      have HR7 : Hid (RepA (w6.alloc (.cells #[.string name, .int .u8 (zk : Int), .bool zb, .int .i64 zn, .string zs, .slice za zl zc, .slice ta tl tc] 39)) (fun g => w.heap.size + 1 + 1 + 1 < g ∧ g ≠ G ∧ g < (w6.alloc (.cells #[.string name, .int .u8 (zk : Int), .bool zb, .int .i64 zn, .string zs, .slice za zl zc, .slice ta tl tc] 39)).heap.size) x (.agg #[.int .u8 (zk : Int), .bool zb, .int .i64 zn, .string zs, .slice za zl zc, .slice ta tl tc])) :=
        repA_stays (fun g hg => Below.heap_alloc _ _ _ hg.2) (fun g hg => ⟨by have h1 := hg.1; have h2 := S5.out.out.1; have h3 := S5.out.late; have h4 := S5.out.le; omega, by have h1 := hg.1; have h2 := S5.out.out.1; omega, by have h1 := hg.2; simp; omega⟩) x _ hr6
      clear hb6 hr6 c5 cn p0 q1 q2 q3 q4 q5 S5
      go_wp2
      obtain ⟨w7, hw7⟩ : ∃ w7, w7 = w6.alloc (.cells #[.string name, .int .u8 (zk : Int), .bool zb, .int .i64 zn, .string zs, .slice za zl zc, .slice ta tl tc] 39) := ⟨_, rfl⟩
      obtain ⟨F, hF⟩ : ∃ F, F = w6.heap.size := ⟨_, rfl⟩
      rw [← hw7] at S7 R7 HR7 ⊢
      rw [← hF] at R7 ⊢
      clear hw7 hF
      have c5 := S7.out.out.cells.2.2.2.2.2
      rw [← HFL.out] at c5
      obtain ⟨p0, q1, q2, q3, q4, q5, q6⟩ := R7.out.cells
      have hGl : G < w7.heap.size := S7.out.out.1
      have HGL : Hid (G < w7.heap.size) := hGl
      have C39 : Hid (∀ W g, Below w7.heap.size w7 W → Row7 W g (.string name) (.int .u8 (zk : Int)) (.bool zb) (.int .i64 zn) (.string zs) (.slice za zl zc) (.slice ta tl tc) → Calls Tryd.prog 37 #[.slice fo fl fc, .int .i64 (p2 : Int), .slice (some ⟨g, 0, none⟩) 1 1] W fun e w' => ∃ g' cap, e = .returned (.slice (some ⟨g', 0, none⟩) (fl + 1) cap) ∧ Below W.heap.size W w' ∧ W.heap.size ≤ g' ∧ (g' < w'.heap.size ∧ ∀ r, w'.frozen? ⟨g', r, none⟩ = false) ∧ RepFA w' (fun q => w.heap.size + 1 + 1 + 1 < q ∧ q ≠ G ∧ q < w'.heap.size) g' 0 (insF f p2 (name, x))) := fun W g hW hR => by
        rw [HFL.out]
        exact PG.insert (S7.out.call hW) (by have := HFM.out; omega) HM.out HNM.out HP2L.out hR (repA_stays (fun q hq => hW.block q hq.2.2) (fun q hq => ⟨hq.1, hq.2.1, Nat.lt_of_lt_of_le hq.2.2 hW.size⟩) x _ HR7.out)
      go_cut [] from 41 to 50 (fun wx => PD w wx G t')
      case first =>
        go_region_with (first
          | (go_at_call 33; refine (F37.out _ (w.heap.size + 1) ?_ ?_ ?_).mono ?_; (first | exact S7.out.call (Below.refl _ _).drew | exact S7.out.call (drew_new _ _)); (first | exact (S7.out.call (Below.refl _ _).drew).name_lt | exact (S7.out.call (drew_new _ _)).name_lt); (first | exact (S7.out.call (Below.refl _ _).drew).name | exact (S7.out.call (drew_new _ _)).name); rintro e w8 ⟨rfl, hb8⟩
             have HB8 : Hid (Below w7.heap.size w7 w8) := (by first | exact (Below.refl _ _).drew.trans hb8 | exact (drew_new _ _).trans (hb8.mono (drew_new _ _).size))
             have S8 : Hid (PG w w8 M G name (.int .u8 (xk : Int)) (.bool xb) (.int .i64 xn) (.string xs) (.slice xa xl xc) (.slice ya yl yc) b n s l f ao lc fo fc) := S7.out.call HB8.out
             have R8 : Hid (Row7 w8 F (.string name) (.int .u8 (zk : Int)) (.bool zb) (.int .i64 zn) (.string zs) (.slice za zl zc) (.slice ta tl tc)) := R7.out.call HB8.out
             have c58 := S8.out.out.cells.2.2.2.2.2
             rw [← HFL.out] at c58
             have lt8 := S8.out.out.1
             obtain ⟨r0, r1, r2, r3, r4, r5, r6⟩ := R8.out.cells)
          | (go_at_call 37; refine (C39.out _ _ ?_ ?_).mono ?_; (first | exact HB8.out.alloc HB8.out.size _ | exact HB8.out); (first | exact ⟨by simp, heap_alloc_new w8 _⟩ | exact (drew_row7 w7 _ _ _ _ _ _ _).call hb8); rintro e w9 ⟨g', cap, rfl, hb9, hg1, hg2, hF9⟩
             have HB9 : Hid (Below w7.heap.size w7 w9) := (by first | exact (HB8.out.alloc HB8.out.size _).trans (hb9.mono (HB8.out.alloc HB8.out.size _).size) | exact HB8.out.trans (hb9.mono HB8.out.size))
             have S9 : Hid (PG w w9 M G name (.int .u8 (xk : Int)) (.bool xb) (.int .i64 xn) (.string xs) (.slice xa xl xc) (.slice ya yl yc) b n s l f ao lc fo fc) := S7.out.call HB9.out
             have HE9 : Hid (PD w (w9.setCell ⟨G, 5, none⟩ (.slice (some ⟨g', 0, none⟩) (fl + 1) cap)) G t') := (by
               show PD _ _ _ _
               rw [HTC.out, HFL.out]
               exact PD.ins S9.out HLM.out (by have := HFM.out; unfold maxLen; omega) HK.out (by have h1 := HB8.out.size; have h2 := HGL.out; first | omega | (simp at hg1; omega)) hg2 hF9)
             have c59 := S9.out.out.cells.2.2.2.2.2
             rw [← HFL.out] at c59
             have fz9 := S9.out.out.free
             have lt9 := S9.out.out.1
             clear hb9 hg1 hg2 hF9))
        all_goals
          go_wp2_with fail
          go_meet
          exact HE9.out
      case rest =>
        clear S7 R7 HR7 C39 c5 p0 q1 q2 q3 q4 q5 q6 hGl
        obtain ⟨c0, c1, c2, c3, c4, c5, ⟨hR, hFr⟩, hZ, hB, hlt2, hrep⟩ := hcut
        obtain ⟨uk, ub, un, us, ua, ul, uc', va, vl, vc', hu⟩ := repA_form hrep
        simp only [Value.agg.injEq, Array.mk.injEq, List.cons.injEq, and_true] at hu
        obtain ⟨rfl, rfl, rfl, rfl, rfl, rfl⟩ := hu
        obtain ⟨p0, p1', p2', p3, p4, p5⟩ := hR.cells
        obtain ⟨q0, q1, q2, q3, q4, q5⟩ := Row6.cells hZ
        have fz := Row6.free hZ
        have hl1 := hR.1
        have hl2 := hZ.1
        have HFR : Hid (FreeC wc (.slice va vl vc')) := hFr
        clear hFr
        obtain ⟨a1, a2, a3⟩ := PD.answer hZ hB hrep
        obtain ⟨w8, hw8⟩ : ∃ w8, w8 = wc.setCells (w.heap.size + 1 + 1 + 1) 0 [.int .u8 (uk : Int), .bool ub, .int .i64 un, .string us, .slice ua ul uc', .slice va vl vc'] := ⟨_, rfl⟩
        rw [← hw8] at a1 a2 a3
        have HW8 : Hid (w8 = wc.setCells (w.heap.size + 1 + 1 + 1) 0 [.int .u8 (uk : Int), .bool ub, .int .i64 un, .string us, .slice ua ul uc', .slice va vl vc']) := hw8
        have HA1 : Hid (w8.heap[w.heap.size + 1 + 1 + 1]? = some (.cells #[.int .u8 (uk : Int), .bool ub, .int .i64 un, .string us, .slice ua ul uc', .slice va vl vc'] 26 (0, 0))) := a1
        have HA2 : Hid (Below w.heap.size w w8) := a2
        have HA3 : Hid (RepA w8 (fun g => w.heap.size ≤ g ∧ g < w8.heap.size) t' (.agg #[.int .u8 (uk : Int), .bool ub, .int .i64 un, .string us, .slice ua ul uc', .slice va vl vc'])) := a3
        clear hw8 a1 a2 a3 hR hZ hB hrep
        go_wp2
        rw [sets6, ← HW8.out]
        exact bodyPost_ret (results_put w8 (w.heap.size + 1 + 1 + 1) _ _ _ _ _ _ HA1.out _ (by rfl) 0 (by rfl)) rfl ⟨_, rfl, HA2.out, HA3.out, _, _, _, _, _, _, rfl, fun a n k e r => by rw [HW8.out, World.frozen?_setCells]; exact HFR.out a n k e r⟩
end Go.Proofs.YtbogggnnmbjlfaaDoor
