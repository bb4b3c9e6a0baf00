/- Drop, walked: the struct without the fields of that name, in memory of its own. -/
import Derived.Test.YtcgkoogdgagddaaDoorDelAny
import Derived.Test.YtcgkoogdgagddaaDoorStepW
namespace Go.Proofs.YtcgkoogdgagddaaDoor
open Go.RowKit
open Vl (V)
/-- where Drop's own variables lie: the answer, the clone -/
structure DG (w W : World) (M G : Nat) (b : Bool) (n : Int) (s : ByteArray) (l : List V) (f : List (ByteArray × V)) (ao : Option Addr) (lc : Nat) (fo : Option Addr) (fc : Nat) : Prop where
  below : Below w.heap.size w W
  res : Z6 W (w.heap.size + 1)
  out : Row6 W G (.int .u8 6) (.bool b) (.int .i64 n) (.string s) (.slice ao l.length lc) (.slice fo f.length fc)
  late : w.heap.size + 2 ≤ M
  le : M ≤ G
  li : LiesLA W (fun g => w.heap.size + 2 ≤ g ∧ g < M) ao lc l
  fi : LF W M G fo fc f
/-- what was made: the struct lies whole -/
def PX (w W : World) (G : Nat) (t : V) : Prop :=
  ∃ c0 c1 c2 c3 c4 c5, Row6 W G c0 c1 c2 c3 c4 c5 ∧ Z6 W (w.heap.size + 1) ∧ Below w.heap.size w W ∧ w.heap.size + 1 < G ∧
    RepA W (fun g => w.heap.size + 1 < g ∧ g < W.heap.size) t (.agg #[c0, c1, c2, c3, c4, c5])
section
variable {w W W' : World} {M G : Nat} {b : Bool} {n : Int} {s : ByteArray} {l : List V} {f : List (ByteArray × V)} {ao : Option Addr} {lc : Nat} {fo : Option Addr} {fc : Nat}
theorem DG.call (h : DG w W M G b n s l f ao lc fo fc) (hb : Below W.heap.size W W') : DG w W' M G b n s l f ao lc fo fc := by
  have hG := h.out.1
  have hM := h.le
  exact ⟨h.below.trans (hb.mono h.below.size), h.res.call hb, h.out.call hb, h.late, h.le, h.li.stays (fun g hg => hb.block g (by omega)) (fun g hg => hg), h.fi.agree (fun g _ hg => hb.block g (by omega)) hb.size⟩
theorem DG.start {w1 wa : World} {v0 v1 v2 v3 v4 v5 : Value} (hwa : wa = (w.alloc (.cells #[v0, v1, v2, v3, v4, v5] 26)).alloc (.cells #[.int .u8 0, .bool false, .int .i64 0, .string ⟨#[]⟩, .slice none 0 0, .slice none 0 0] 26))
    (hb : Below wa.heap.size wa w1) (hM1 : wa.heap.size ≤ M) (hM2 : M ≤ w1.heap.size) (hli : LiesLA w1 (fun g => wa.heap.size ≤ g ∧ g < M) ao lc l) (hfi : LiesFA w1 M fo fc f) :
    DG w (w1.alloc (.cells #[.int .u8 6, .bool b, .int .i64 n, .string s, .slice ao l.length lc, .slice fo f.length fc] 26)) M w1.heap.size b n s l f ao lc fo fc := by
  have hsz : wa.heap.size = w.heap.size + 1 + 1 := by rw [hwa]; simp
  have hba : Below w.heap.size w wa := by rw [hwa]; exact below_new2 _ _ _
  have za : Z6 wa (w.heap.size + 1) := by
    refine ⟨by omega, ?_⟩
    rw [hwa]
    have := heap_alloc_new (w.alloc (.cells #[v0, v1, v2, v3, v4, v5] 26)) (.cells #[.int .u8 0, .bool false, .int .i64 0, .string ⟨#[]⟩, .slice none 0 0, .slice none 0 0] 26)
    simpa using this
  have hb2 : Below wa.heap.size wa (w1.alloc (.cells #[.int .u8 6, .bool b, .int .i64 n, .string s, .slice ao l.length lc, .slice fo f.length fc] 26)) := hb.alloc hb.size _
  have hle := hb.size
  exact ⟨hba.trans (hb2.mono hba.size), za.call hb2, ⟨by simp, heap_alloc_new w1 _⟩, by omega, hM2, hli.stays (fun g hg => Below.heap_alloc _ _ _ (by omega)) (fun g hg => ⟨by omega, hg.2⟩), (LF.of hfi).agree (fun g _ hg => Below.heap_alloc _ _ _ hg) (by simp)⟩
/-- the fields were dropped, and the answer's slice laid -/
theorem PX.of (hS : DG w W M G b n s l f ao lc fo fc) (hl : l.length ≤ maxLen) (hf : f.length ≤ maxLen) (hk : (-9223372036854775808 ≤ n ∧ n < 9223372036854775808) ∧ s.size ≤ maxLen) {name : ByteArray}
    (hsz : W.heap.size ≤ W'.heap.size) (hB : Below M W W') (hsame : ∀ g, (∀ F, fo = some ⟨F, 0, none⟩ → M ≤ F → F < G → g ≠ F) → g < W.heap.size → W'.heap[g]? = W.heap[g]?)
    (hF : 0 < (Vl.dropF f name).length → ∃ F, fo = some ⟨F, 0, none⟩ ∧ M ≤ F ∧ F < G ∧ RepFA W' (fun g => F < g ∧ g < G) F 0 (Vl.dropF f name)) :
    Row6 W' G (.int .u8 6) (.bool b) (.int .i64 n) (.string s) (.slice ao l.length lc) (.slice fo f.length fc) ∧ Below w.heap.size w W' ∧
    PX w (W'.setCell ⟨G, 5, none⟩ (.slice fo (Vl.dropF f name).length fc)) G ⟨6, b, n, s, l, Vl.dropF f name⟩ := by
  have h1 := hS.late
  have h2 := hS.le
  have h3 := hS.out.1
  have hG' : W'.heap[G]? = W.heap[G]? := hsame G (fun F _ _ h => by omega) h3
  have hout : Row6 W' G (.int .u8 6) (.bool b) (.int .i64 n) (.string s) (.slice ao l.length lc) (.slice fo f.length fc) := ⟨by omega, hG'.trans hS.out.2⟩
  have hbl : Below w.heap.size w W' := hS.below.trans (hB.mono (by omega))
  have hs2 : (W'.setCell ⟨G, 5, none⟩ (.slice fo (Vl.dropF f name).length fc)).heap.size = W'.heap.size := by simp
  have e : ∀ k, k ≠ G → (W'.setCell ⟨G, 5, none⟩ (.slice fo (Vl.dropF f name).length fc)).heap[k]? = W'.heap[k]? := fun k hk => heap_setCell_other _ _ _ _ hk
  have hres : Z6 W' (w.heap.size + 1) := ⟨by have := hS.res.1; omega, (hsame _ (fun F _ hF _ => by omega) hS.res.1).trans hS.res.2⟩
  refine ⟨hout, hbl, _, _, _, _, _, _, hout.set5, hres.other _ _ _ (by omega), hbl.setCell (p := ⟨G, 5, none⟩) (by show w.heap.size ≤ G; omega) _, by omega, ?_⟩
  rw [RepA]
  refine ⟨ao, lc, fo, fc, rfl, by omega, hk.1, hk.2, hl, Nat.le_trans (Vl.dropF_len f name) hf, fun hp => ?_, fun hp => ?_⟩
  · rcases hS.li with ⟨e1, _⟩ | ⟨_, q, e1, _, e3, e4⟩
    · rw [e1] at hp; simp at hp
    · have lo : ∀ k, w.heap.size + 2 ≤ k ∧ k < M → (W'.setCell ⟨G, 5, none⟩ (.slice fo (Vl.dropF f name).length fc)).heap[k]? = W.heap[k]? := fun k hk => (e k (by omega)).trans (hsame k (fun F _ hF _ => by omega) (by omega))
      exact ⟨q, 0, e1, ⟨by omega, by rw [hs2]; omega⟩, repLA_stays lo (fun k hk => ⟨by omega, by rw [hs2]; omega⟩) (lo q e3) l 0 e4⟩
  · obtain ⟨F, hfo, hMF, hFG, hr⟩ := hF hp
    exact ⟨F, 0, hfo, ⟨by omega, by rw [hs2]; omega⟩, repFA_stays (fun k hk => e k (by omega)) (fun k hk => ⟨by omega, by rw [hs2]; omega⟩) (e F (by omega)) _ 0 hr⟩
end
theorem PX.answer {w wc : World} {t : V} {c0 c1 c2 c3 c4 c5 : Value} (hZ : Z6 wc (w.heap.size + 1)) (hB : Below w.heap.size w wc)
    (hrep : RepA wc (fun g => w.heap.size + 1 < g ∧ g < wc.heap.size) t (.agg #[c0, c1, c2, c3, c4, c5])) :
    (wc.setCells (w.heap.size + 1) 0 [c0, c1, c2, c3, c4, c5]).heap[w.heap.size + 1]? = some (.cells #[c0, c1, c2, c3, c4, c5] 26 (0, 0)) ∧
    Below w.heap.size w (wc.setCells (w.heap.size + 1) 0 [c0, c1, c2, c3, c4, c5]) ∧
    RepA (wc.setCells (w.heap.size + 1) 0 [c0, c1, c2, c3, c4, c5]) (fun g => w.heap.size ≤ g ∧ g < (wc.setCells (w.heap.size + 1) 0 [c0, c1, c2, c3, c4, c5]).heap.size) t (.agg #[c0, c1, c2, c3, c4, c5]) := by
  refine ⟨Z6.put hZ _ _ _ _ _ _, below_setCells (by omega) _ _ hB, ?_⟩
  rw [size_setCells']
  exact repA_stays (fun k hk => heap_setCells_ne _ k (by omega) _ _ _) (fun k hk => ⟨by omega, hk.2⟩) _ _ hrep
theorem results_drop (w : World) (G : Nat) (c0 c1 c2 c3 c4 c5 : Value) (h : w.heap[G]? = some (.cells #[c0, c1, c2, c3, c4, c5] 26 (0, 0))) (tmps : Array Value) (hp : tmps.getD 4 undef = .pointer (some ⟨G, 0, none⟩)) (n : Int) (hu : tmps.getD 5 undef = .int .i64 n) :
    (results Tryd.f18 tmps).run Tryd.prog w = .ok (.tuple #[.agg #[c0, c1, c2, c3, c4, c5], .int .i64 n]) w := by
  rw [results_row_tmp (fn := Tryd.f18) (p := 4) (u := 5) (ty := 26) (by rfl) _ w G 26 _ (0, 0) _ hp h Tryd.underlying26 rfl info26, hu]
set_option maxHeartbeats 16000000 in
set_option maxRecDepth 100000 in
theorem drop18 (name : ByteArray) (b : Bool) (n : Int) (s : ByteArray) (l : List V) (f : List (ByteArray × V)) (ht : Vl.small ⟨6, b, n, s, l, f⟩) (w : World) (H : Nat) (vt : Value) (hH : H ≤ w.heap.size) (hr : Rep w H ⟨6, b, n, s, l, f⟩ vt) :
    Calls Tryd.prog 18 #[vt, .string name] w fun e w' => ∃ v', e = .returned (.tuple #[v', .int .i64 0]) ∧ Below w.heap.size w w' ∧ RepA w' (fun g => w.heap.size ≤ g ∧ g < w'.heap.size) ⟨6, b, n, s, l, Vl.dropF f name⟩ v' := by
  have hr' := hr
  rw [Rep] at hr'
  obtain ⟨vo, vc, uo, uc, rfl, _, k2, k3, k4, k5, _, _⟩ := hr'
  have hm : ∀ a ∈ f, a.1.size ≤ maxLen := fun a ha => by
    rw [Vl.small] at ht
    have := (Vl.smallF_mem f a ht.2.2.2.2 ha).1
    unfold maxLen; omega
  have C34 : Hid (∀ W, Below w.heap.size w W → Calls Tryd.prog 34 #[.agg #[.int .u8 6, .bool b, .int .i64 n, .string s, .slice vo l.length vc, .slice uo f.length uc]] W fun e w' => ∃ (M : Nat) (ao : Option Addr) (lc : Nat) (fo : Option Addr) (fc : Nat), e = .returned (.agg #[.int .u8 6, .bool b, .int .i64 n, .string s, .slice ao l.length lc, .slice fo f.length fc]) ∧ Below W.heap.size W w' ∧ W.heap.size ≤ M ∧ M ≤ w'.heap.size ∧ LiesLA w' (fun g => W.heap.size ≤ g ∧ g < M) ao lc l ∧ LiesFA w' M fo fc f) := fun W hW =>
    (clone34 _ _ (Nat.le_refl _) ht W H _ (by have := hW.size; omega) (rep_stays (hW.mono hH) (Nat.le_refl _) _ _ hr)).mono fun e w' h => by
      obtain ⟨v', M, rfl, hb, hc⟩ := h
      obtain ⟨ao, lc, fo, fc, rfl, _, _, _, q1, q2, q3, q4⟩ := hc
      exact ⟨M, ao, lc, fo, fc, rfl, hb, q1, q2, q3, q4⟩
  have HM : Hid (∀ a ∈ f, a.1.size ≤ maxLen) := hm
  have HK : Hid ((-9223372036854775808 ≤ n ∧ n < 9223372036854775808) ∧ s.size ≤ maxLen) := ⟨k2, k3⟩
  have HLM : Hid (l.length ≤ maxLen) := k4
  have HFM : Hid (f.length ≤ maxLen) := k5
  obtain ⟨ll, hll⟩ : ∃ n, n = l.length := ⟨_, rfl⟩
  obtain ⟨fl, hfl'⟩ : ∃ n, n = f.length := ⟨_, rfl⟩
  obtain ⟨dl, hdl⟩ : ∃ n, n = (Vl.dropF f name).length := ⟨_, rfl⟩
  have HLL : Hid (ll = l.length) := hll
  have HFL : Hid (fl = f.length) := hfl'
  have HDL : Hid (dl = (Vl.dropF f name).length) := hdl
  rw [← hll, ← hfl'] at C34 ⊢
  obtain ⟨t', ht'⟩ : ∃ t' : V, t' = ⟨6, b, n, s, l, Vl.dropF f name⟩ := ⟨_, rfl⟩
  have HT : Hid (t' = ⟨6, b, n, s, l, Vl.dropF f name⟩) := ht'
  rw [← ht']
  clear hr hm k2 k3 k4 k5 hll hfl' hdl ht ht'
  go_enter Tryd.func18, Tryd.ntmps18
  go_wp2_with fail
  refine (C34.out _ (below_new2 _ _ _)).mono ?_
  rintro e w1 ⟨M, ao, lc, fo, fc, rfl, hb1, hM1, hM2, hli, hfi⟩
  have S2 : Hid (DG w (w1.alloc (.cells #[.int .u8 6, .bool b, .int .i64 n, .string s, .slice ao ll lc, .slice fo fl fc] 26)) M w1.heap.size b n s l f ao lc fo fc) := by
    have := DG.start (b := b) (n := n) (s := s) rfl hb1 hM1 hM2 hli hfi
    rw [← HLL.out, ← HFL.out] at this
    exact this
  clear hb1 hM1 hM2 hli hfi C34
  go_wp2
  obtain ⟨w2, hw2⟩ : ∃ w2, w2 = w1.alloc (.cells #[.int .u8 6, .bool b, .int .i64 n, .string s, .slice ao ll lc, .slice fo fl fc] 26) := ⟨_, rfl⟩
  obtain ⟨G, hG⟩ : ∃ G, G = w1.heap.size := ⟨_, rfl⟩
  rw [← hw2, ← hG] at S2 ⊢
  clear hw2 hG
  have c5 := S2.out.out.cells.2.2.2.2.2
  rw [← HFL.out] at c5
  have D41 : Hid (∀ W, DG w W M G b n s l f ao lc fo fc → ∀ P, G ≤ P → P < W.heap.size → W.cell? ⟨P, 0, none⟩ = some (.string name) → Calls Tryd.prog 41 #[.slice fo fl fc, .func (.func 53) #[] #[.pointer (some ⟨P, 0, none⟩)]] W fun e w' => e = .returned (.slice fo dl fc) ∧ Row6 w' G (.int .u8 6) (.bool b) (.int .i64 n) (.string s) (.slice ao ll lc) (.slice fo fl fc) ∧ Below w.heap.size w w' ∧ PX w (w'.setCell ⟨G, 5, none⟩ (.slice fo dl fc)) G t') := fun W hW P hP1 hP2 hp => by
    rw [HFL.out, HDL.out, HLL.out, HT.out]
    refine (delete41_any name P f fo fc W M G (Nat.le_of_lt hW.out.1) hW.fi HFM.out HM.out hP2 hP1 hp).mono ?_
    rintro e w' ⟨rfl, h1, h2, h3, h4⟩
    exact ⟨rfl, PX.of hW HLM.out HFM.out HK.out h1 (h2 (by have := hW.le; have := hW.out.1; omega)) h3 h4⟩
  have HGL : Hid (G < w2.heap.size) := S2.out.out.1
  go_cut [] from 13 to 18 (fun wx => PX w wx G t')
  case first =>
    go_region_with (first
      | (go_at_call 36; refine (named36 name _).mono ?_; rintro e w3 ⟨rfl, hw3⟩
         have S3 : Hid (DG w w3 M G b n s l f ao lc fo fc) := S2.out.call (by rw [hw3]; exact drew_new _ _)
         have HN3 : Hid (w2.heap.size < w3.heap.size ∧ w3.cell? ⟨w2.heap.size, 0, none⟩ = some (.string name)) := (by rw [hw3]; exact drew_name _ _)
         have c53 := S3.out.out.cells.2.2.2.2.2
         rw [← HFL.out] at c53
         clear hw3)
      | (go_at_call 41; refine (D41.out _ S3.out w2.heap.size (Nat.le_of_lt HGL.out) HN3.out.1 HN3.out.2).mono ?_; rintro e w4 ⟨rfl, hR4, hB4, hE4⟩
         have HE4 : Hid (PX w (w4.setCell ⟨G, 5, none⟩ (.slice fo dl fc)) G t') := hE4
         have c54 := hR4.cells.2.2.2.2.2
         have fz4 := hR4.free
         have lt4 := hR4.1
         clear hE4 hB4 hR4))
    all_goals
      go_wp2_with fail
      go_meet
      exact HE4.out
  case rest =>
    clear S2 D41 c5 HGL
    obtain ⟨c0, c1, c2, c3, c4, c5, hR, hZ, hB, hlt2, hrep⟩ := hcut
    obtain ⟨uk, ub, un, us, ua, ul, uc', va, vl, vc', hu⟩ := repA_form hrep
    simp only [Value.agg.injEq, Array.mk.injEq, List.cons.injEq, and_true] at hu
    obtain ⟨rfl, rfl, rfl, rfl, rfl, rfl⟩ := hu
    obtain ⟨p0, p1, p2, p3, p4, p5⟩ := hR.cells
    obtain ⟨q0, q1, q2, q3, q4, q5⟩ := Row6.cells hZ
    have fz := Row6.free hZ
    have hl1 := hR.1
    have hl2 := hZ.1
    obtain ⟨a1, a2, a3⟩ := PX.answer hZ hB hrep
    obtain ⟨w8, hw8⟩ : ∃ w8, w8 = wc.setCells (w.heap.size + 1) 0 [.int .u8 (uk : Int), .bool ub, .int .i64 un, .string us, .slice ua ul uc', .slice va vl vc'] := ⟨_, rfl⟩
    rw [← hw8] at a1 a2 a3
    have HW8 : Hid (w8 = wc.setCells (w.heap.size + 1) 0 [.int .u8 (uk : Int), .bool ub, .int .i64 un, .string us, .slice ua ul uc', .slice va vl vc']) := hw8
    have HA1 : Hid (w8.heap[w.heap.size + 1]? = some (.cells #[.int .u8 (uk : Int), .bool ub, .int .i64 un, .string us, .slice ua ul uc', .slice va vl vc'] 26 (0, 0))) := a1
    have HA2 : Hid (Below w.heap.size w w8) := a2
    have HA3 : Hid (RepA w8 (fun g => w.heap.size ≤ g ∧ g < w8.heap.size) t' (.agg #[.int .u8 (uk : Int), .bool ub, .int .i64 un, .string us, .slice ua ul uc', .slice va vl vc'])) := a3
    clear hw8 a1 a2 a3 hR hZ hB hrep
    go_wp2
    rw [sets6, ← HW8.out]
    exact bodyPost_ret (results_drop w8 (w.heap.size + 1) _ _ _ _ _ _ HA1.out _ (by rfl) 0 (by rfl)) rfl ⟨_, rfl, HA2.out, HA3.out⟩
end Go.Proofs.YtcgkoogdgagddaaDoor
