/- The document's Put, walked: the field of that name has the value, or it is laid at its place. -/
import Derived.Test.YtbogggnnmbjlfaaDoorRDrop
namespace Go.Proofs.YtbogggnnmbjlfaaDoor
open Go.RowKit
open Vl (V)
theorem answer_at {w wc : World} {R : Nat} {t : V} {c0 c1 c2 c3 c4 c5 : Value} (hR : w.heap.size ≤ R) (hZ : Z6 wc R) (hB : Below w.heap.size w wc)
    (hrep : RepA wc (fun g => R < g ∧ g < wc.heap.size) t (.agg #[c0, c1, c2, c3, c4, c5])) :
    (wc.setCells R 0 [c0, c1, c2, c3, c4, c5]).heap[R]? = some (.cells #[c0, c1, c2, c3, c4, c5] 26 (0, 0)) ∧
    Below w.heap.size w (wc.setCells R 0 [c0, c1, c2, c3, c4, c5]) ∧
    Rep (wc.setCells R 0 [c0, c1, c2, c3, c4, c5]) (wc.setCells R 0 [c0, c1, c2, c3, c4, c5]).heap.size t (.agg #[c0, c1, c2, c3, c4, c5]) := by
  refine ⟨Z6.put hZ _ _ _ _ _ _, below_setCells hR _ _ hB, repA_rep (A := fun g => R < g ∧ g < wc.heap.size) (fun g hg => by rw [size_setCells']; exact hg.2) _ _ ?_⟩
  exact repA_stays (fun k hk => heap_setCells_ne _ k (by omega) _ _ _) (fun k hk => hk) _ _ hrep
theorem insF_end (f : List (ByteArray × V)) (p : Nat) (hp : p ≤ f.length) (z : ByteArray × V) : insF (f.take p) p z = f.take p ++ [z] := by
  rw [insF, List.take_of_length_le (by rw [List.length_take]; omega), List.drop_of_length_le (by rw [List.length_take]; omega)]
theorem insF_next (f : List (ByteArray × V)) (p q : Nat) (hpq : p ≤ q) (c z : ByteArray × V) (hc : f[q]? = some c) : insF (f.take (q + 1)) p z = insF (f.take q) p z ++ [c] := by
  have hq : q < f.length := (List.getElem?_eq_some_iff.1 hc).1
  have hl : (f.take q).length = q := by rw [List.length_take]; omega
  rw [List.take_add_one, hc, insF, insF, List.take_append_of_le_length (by omega), List.drop_append_of_le_length (by omega)]
  simp
/-- Put's variables beside those of Drop: the value that is put -/
structure RP (w W : World) (K G : Nat) (b : Bool) (n : Int) (s : ByteArray) (l : List V) (f : List (ByteArray × V)) (ao : Option Addr) (lc : Nat) (fo : Option Addr) (fc : Nat) (x0 x1 x2 x3 x4 x5 lv : Value) (hh : List (ByteArray × V)) : Prop where
  rd : RD w W (w.heap.size + 1 + 1) K G b n s l f ao lc fo fc lv hh
  xb : Row6 W (w.heap.size + 1) x0 x1 x2 x3 x4 x5
section
variable {w W W' : World} {K G : Nat} {b : Bool} {n : Int} {s : ByteArray} {l : List V} {f : List (ByteArray × V)} {ao : Option Addr} {lc : Nat} {fo : Option Addr} {fc : Nat} {x0 x1 x2 x3 x4 x5 lv : Value} {hh : List (ByteArray × V)}
theorem RP.call (h : RP w W K G b n s l f ao lc fo fc x0 x1 x2 x3 x4 x5 lv hh) (hb : Below W.heap.size W W') : RP w W' K G b n s l f ao lc fo fc x0 x1 x2 x3 x4 x5 lv hh := ⟨h.rd.call hb, h.xb.call hb⟩
theorem RP.app {w4 w5 : World} (h : RP w W K G b n s l f ao lc fo fc x0 x1 x2 x3 x4 x5 lv hh) {cs : List Value} (ho : W.ownsRow (G + 1) 39 7 lv hh.length cs) (he : EF W (fun g => K ≤ g ∧ g ≠ G ∧ some g ≠ lv.ownBlock ∧ g < W.heap.size) hh cs) (h4 : Below W.heap.size W w4)
    {m : ByteArray} (hm : m.size ≤ maxLen) {x : V} {d0 d1 d2 d3 d4 d5 : Value} (hr : RepA w4 (fun g => K ≤ g ∧ g ≠ G ∧ some g ≠ lv.ownBlock ∧ g < w4.heap.size) x (.agg #[d0, d1, d2, d3, d4, d5])) (hg : w4.grownBy w5 lv.ownBlock)
    {g cap : Nat} (hn : w5.ownsRow (G + 1) 39 7 (.slice (some ⟨g, 0, none⟩) (hh.length + 1) cap) (hh.length + 1) (cs ++ [.string m, d0, d1, d2, d3, d4, d5])) (hat : lv.ownBlock = some g ∨ g = w4.heap.size) :
    RP w w5 K G b n s l f ao lc fo fc x0 x1 x2 x3 x4 x5 (.slice (some ⟨g, 0, none⟩) (hh.length + 1) cap) (hh ++ [(m, x)]) := by
  refine ⟨h.rd.app ho he h4 hm hr hg hn hat, ?_⟩
  have h1 := h.xb.1
  have h2 := h.rd.late
  have h3 := h.rd.le
  have hne : some (w.heap.size + 1) ≠ lv.ownBlock := fun e => by have := (ho.lt _ e.symm).1; omega
  exact ⟨by have := h4.size; have := hg.size; omega, (hg.block _ (by have := h4.size; omega) hne).trans ((h4.block _ h1).trans h.xb.2)⟩
/-- what was copied anew, for a list that is laid -/
theorem RD.fresh {R : Nat} (h : RD w W R K G b n s l f ao lc fo fc lv hh) {w3 : World} {x : V} {c : Value} (hr : RepA w3 (fun g => W.heap.size ≤ g ∧ g < w3.heap.size) x c) (h4 : Below w3.heap.size w3 W') : RepA W' (fun g => K ≤ g ∧ g ≠ G ∧ some g ≠ lv.ownBlock ∧ g < W'.heap.size) x c := by
  obtain ⟨cs, h1, _⟩ := h.parts
  have hlv : ∀ k, lv.ownBlock = some k → G + 1 ≤ k ∧ k < W.heap.size := h1.lt
  have o2 := h.out.1
  have hle := h.le
  have hs := h4.size
  exact repA_stays (fun k hk => h4.block k hk.2) (fun k hk => ⟨by omega, by omega, fun e => by have := (hlv k e.symm).2; omega, by omega⟩) x c hr
theorem RD.parts_lt {R : Nat} (h : RD w W R K G b n s l f ao lc fo fc lv hh) : K ≤ W.heap.size ∧ G < W.heap.size ∧ ∀ k, lv.ownBlock = some k → k < W.heap.size := by
  obtain ⟨cs, h1, _⟩ := h.parts
  have := h.out.1
  have := h.le
  exact ⟨by omega, by omega, fun k hk => (h1.lt k hk).2⟩
theorem RD.fresh0 {R : Nat} {W3 W5 : World} (_ : RD w W5 R K G b n s l f ao lc fo fc lv hh) (hp : K ≤ W3.heap.size ∧ G < W3.heap.size ∧ ∀ k, lv.ownBlock = some k → k < W3.heap.size) {x : V} {c : Value} (hr : RepA W5 (fun g => W3.heap.size ≤ g ∧ g < W5.heap.size) x c) (_ : Below W3.heap.size W3 W5) (h4 : Below W5.heap.size W5 W') : RepA W' (fun g => K ≤ g ∧ g ≠ G ∧ some g ≠ lv.ownBlock ∧ g < W'.heap.size) x c := by
  have hs := h4.size
  exact repA_stays (fun k hk => h4.block k hk.2) (fun k hk => ⟨by omega, by omega, fun e => by have := hp.2.2 k e.symm; omega, by omega⟩) x c hr
/-- a field of the copy has another value -/
theorem RD.set {R : Nat} (h : RD w W R K G b n s l f ao lc fo fc lv hh) (hX : CX W K G ⟨6, b, n, s, l, f⟩ (.agg #[.int .u8 6, .bool b, .int .i64 n, .string s, .slice ao l.length lc, .slice fo f.length fc])) (hk : (-9223372036854775808 ≤ n ∧ n < 9223372036854775808) ∧ s.size ≤ maxLen ∧ l.length ≤ maxLen ∧ f.length ≤ maxLen)
    {F q : Nat} (hfo : fo = some ⟨F, 0, none⟩) {m : ByteArray} {y x : V} (hq : f[q]? = some (m, y)) {z0 z1 z2 z3 z4 z5 : Value} (hx : RepA W (fun g => G < g ∧ g < W.heap.size) x (.agg #[z0, z1, z2, z3, z4, z5])) :
    Row6 (W.setCells F (q * 7 + 1) [z0, z1, z2, z3, z4, z5]) G (.int .u8 6) (.bool b) (.int .i64 n) (.string s) (.slice ao l.length lc) (.slice fo f.length fc) ∧ Z6 (W.setCells F (q * 7 + 1) [z0, z1, z2, z3, z4, z5]) R ∧ Below w.heap.size w (W.setCells F (q * 7 + 1) [z0, z1, z2, z3, z4, z5]) ∧
    RepA (W.setCells F (q * 7 + 1) [z0, z1, z2, z3, z4, z5]) (fun g => R < g ∧ g < (W.setCells F (q * 7 + 1) [z0, z1, z2, z3, z4, z5]).heap.size) ⟨6, b, n, s, l, f.set q (m, x)⟩ (.agg #[.int .u8 6, .bool b, .int .i64 n, .string s, .slice ao l.length lc, .slice fo f.length fc]) := by
  have o1 := h.res.1
  have o2 := h.out.1
  have hlate := h.late
  have hle := h.le
  have hfi := h.first
  subst hfo
  obtain ⟨ao', lc', fo', fc', e, h2, h3⟩ := hX
  simp only [Value.agg.injEq, Array.mk.injEq, List.cons.injEq, Value.slice.injEq, and_true, true_and] at e
  obtain ⟨_, ⟨rfl, rfl⟩, rfl, rfl⟩ := e
  have hql : q < f.length := (List.getElem?_eq_some_iff.1 hq).1
  obtain ⟨g, eg, hg1, hg2, ⟨C, hC1, hC2⟩, hrf⟩ := h3 (by omega)
  cases eg
  have hrow := heap_setCells_put F 39 [z0, z1, z2, z3, z4, z5] (q * 7 + 1) W C hC1
  have hsz : (W.setCells F (q * 7 + 1) [z0, z1, z2, z3, z4, z5]).heap.size = W.heap.size := size_setCells' _ _ _ _
  have ne : ∀ k, k ≠ F → (W.setCells F (q * 7 + 1) [z0, z1, z2, z3, z4, z5]).heap[k]? = W.heap[k]? := fun k hk => heap_setCells_ne F k hk _ _ _
  have oth : ∀ p, p < q * 7 + 1 ∨ q * 7 + 7 ≤ p → (W.setCells F (q * 7 + 1) [z0, z1, z2, z3, z4, z5]).cell? ⟨F, p, none⟩ = W.cell? ⟨F, p, none⟩ := fun p hp => by
    rw [cell_of_row _ _ _ _ _ _ hrow, cell_of_row _ _ _ _ _ _ hC1]
    exact putAll_other _ _ _ _ (by simp only [List.length_cons, List.length_nil]; omega)
  have new : ∀ (r : Nat) (v : Value), [z0, z1, z2, z3, z4, z5][r]? = some v → (W.setCells F (q * 7 + 1) [z0, z1, z2, z3, z4, z5]).cell? ⟨F, q * 7 + 1 + r, none⟩ = some v := fun r v hv => by
    rw [cell_of_row _ _ _ _ _ _ hrow]
    exact putAll_at _ _ _ r v (by simp only [List.length_cons, List.length_nil]; omega) hv
  refine ⟨⟨by rw [hsz]; exact o2, (ne G (by omega)).trans h.out.2⟩, ⟨by rw [hsz]; exact o1, (ne R (by omega)).trans h.res.2⟩, below_setCells (by omega) _ _ h.below, ?_⟩
  rw [RepA]
  refine ⟨ao, lc, some ⟨F, 0, none⟩, fc, by rw [List.length_set]; rfl, by omega, hk.1, hk.2.1, hk.2.2.1, by rw [List.length_set]; exact hk.2.2.2, fun hp => ?_, fun _ => ⟨F, 0, rfl, ⟨by omega, by rw [hsz]; omega⟩, ?_⟩⟩
  · obtain ⟨g, e2, h4, h5⟩ := h2 hp
    exact ⟨g, 0, e2, ⟨by omega, by rw [hsz]; omega⟩, repLA_stays (fun k hk => ne k (hk.2.2 _ rfl)) (fun k hk => ⟨by omega, by rw [hsz]; omega⟩) (ne g (h4.2.2 _ rfl)) l 0 h5⟩
  · refine repFA_mk _ 0 fun j p v hj => ?_
    rw [Nat.zero_add]
    by_cases hij : j = q
    · subst hij
      rw [List.getElem?_set_self hql] at hj
      cases hj
      obtain ⟨a0, a1, _⟩ := repFA_at f 0 hrf j m y hq
      rw [Nat.zero_add] at a0
      exact ⟨(oth _ (Or.inl (by omega))).trans a0, a1, z0, z1, z2, z3, z4, z5, ⟨new 0 _ rfl, new 1 _ rfl, new 2 _ rfl, new 3 _ rfl, new 4 _ rfl, new 5 _ rfl⟩, repA_stays (fun k hk => ne k (by omega)) (fun k hk => ⟨by omega, by rw [hsz]; exact hk.2⟩) _ _ hx⟩
    · rw [List.getElem?_set_ne (fun h => hij h.symm)] at hj
      obtain ⟨a0, a1, c0, c1, c2, c3, c4, c5, ⟨d0, d1, d2, d3, d4, d5⟩, a2⟩ := repFA_at f 0 hrf j p v hj
      rw [Nat.zero_add] at a0 d0 d1 d2 d3 d4 d5
      exact ⟨(oth _ (by omega)).trans a0, a1, c0, c1, c2, c3, c4, c5, ⟨(oth _ (by omega)).trans d0, (oth _ (by omega)).trans d1, (oth _ (by omega)).trans d2, (oth _ (by omega)).trans d3, (oth _ (by omega)).trans d4, (oth _ (by omega)).trans d5⟩, repA_stays (fun k hk => ne k (hk.2.2 _ rfl)) (fun k hk => ⟨by omega, by rw [hsz]; omega⟩) _ _ a2⟩
end
end Go.Proofs.YtbogggnnmbjlfaaDoor
namespace Go.Proofs.YtbogggnnmbjlfaaDoor
open Go.RowKit
open Vl (V)
theorem row7_grown {W W' : World} {B : Nat} {row : Option Nat} {v0 v1 v2 v3 v4 v5 v6 : Value} (h : Row7 W B v0 v1 v2 v3 v4 v5 v6) (hg : W.grownBy W' row) (hne : some B ≠ row) : Row7 W' B v0 v1 v2 v3 v4 v5 v6 :=
  ⟨Nat.lt_of_lt_of_le h.1 hg.size, (hg.block B h.1 hne).trans h.2⟩
/-- what was made ahead of the answer -/
def PR (w W : World) (R G : Nat) (t : V) : Prop :=
  ∃ c0 c1 c2 c3 c4 c5, Row6 W G c0 c1 c2 c3 c4 c5 ∧ Z6 W R ∧ Below w.heap.size w W ∧ RepA W (fun g => R < g ∧ g < W.heap.size) t (.agg #[c0, c1, c2, c3, c4, c5])
theorem three_new (w : World) (v0 v1 v2 v3 v4 v5 x0 x1 x2 x3 x4 x5 : Value) : ∃ w1, w1 = ((w.alloc (.cells #[v0, v1, v2, v3, v4, v5] 26)).alloc (.cells #[x0, x1, x2, x3, x4, x5] 26)).alloc (.cells #[.int .u8 0, .bool false, .int .i64 0, .string ⟨#[]⟩, .slice none 0 0, .slice none 0 0] 26) ∧ Below w.heap.size w w1 ∧ Row6 w1 w.heap.size v0 v1 v2 v3 v4 v5 ∧ Row6 w1 (w.heap.size + 1) x0 x1 x2 x3 x4 x5 ∧ Z6 w1 (w.heap.size + 1 + 1) ∧ w1.heap.size = w.heap.size + 1 + 1 + 1 := by
  obtain ⟨wa, hwa⟩ : ∃ wa, wa = w.alloc (.cells #[v0, v1, v2, v3, v4, v5] 26) := ⟨_, rfl⟩
  obtain ⟨wb, hwb⟩ : ∃ wb, wb = wa.alloc (.cells #[x0, x1, x2, x3, x4, x5] 26) := ⟨_, rfl⟩
  have s1 : wa.heap.size = w.heap.size + 1 := by rw [hwa]; simp
  have s2 : wb.heap.size = w.heap.size + 1 + 1 := by rw [hwb]; simp [s1]
  have b1 : Below w.heap.size w wa := by rw [hwa]; exact below_new _ _
  have b2 : Below wa.heap.size wa wb := by rw [hwb]; exact below_new _ _
  have r0 : Row6 wa w.heap.size v0 v1 v2 v3 v4 v5 := by rw [hwa]; exact ⟨by simp, heap_alloc_new w _⟩
  have r1 : Row6 wb (w.heap.size + 1) x0 x1 x2 x3 x4 x5 := by
    rw [← s1, hwb]; exact ⟨by simp, heap_alloc_new wa _⟩
  refine ⟨_, rfl, ?_, ?_, ?_, ?_, ?_⟩
  · rw [← hwa, ← hwb]; exact (b1.trans (b2.mono b1.size)).trans ((below_new wb _).mono (by omega))
  · rw [← hwa, ← hwb]; exact (r0.call b2).call (below_new _ _)
  · rw [← hwa, ← hwb]; exact r1.call (below_new _ _)
  · rw [← hwa, ← hwb, ← s2]; exact ⟨by simp, heap_alloc_new wb _⟩
  · rw [← hwa, ← hwb]; simp [s2]
theorem above_bytes {a m : ByteArray} (h : ¬ a = m) : Op.bytesLess a.toList m.toList = decide (Vl.cmpS a m ≤ 0) := by
  rw [← Vl.str_le a m, bytes_neq h, Bool.or_false]
set_option maxHeartbeats 16000000 in
set_option maxRecDepth 100000 in
theorem rput13 (name : ByteArray) (hn : name.size ≤ 140737488351232) (x : V) (hx : Vl.small x) (b : Bool) (n : Int) (s : ByteArray) (l : List V) (f : List (ByteArray × V)) (ht : Vl.small ⟨6, b, n, s, l, f⟩) (hfl : f.length ≤ 1466015503667) (w : World) (H : Nat) (vt vx : Value) (hH : H ≤ w.heap.size) (hr : Rep w H ⟨6, b, n, s, l, f⟩ vt) (hrx : Rep w H x vx) :
    Calls Tryd.prog 13 #[vt, .string name, vx] w fun e w' => ∃ v', e = .returned (.tuple #[v', .int .i64 0]) ∧ Below w.heap.size w w' ∧ Rep w' w'.heap.size ⟨6, b, n, s, l, Vl.putF f name x⟩ v' := by
  have hr' := hr
  rw [Rep] at hr'
  obtain ⟨vo, vc, uo, uc, rfl, _, k2, k3, k4, k5, _, _⟩ := hr'
  obtain ⟨xk, xb, xn, xs, xa, xl, xc, xf, xm, xq, xv⟩ := repA_form (rep_repA x vx hrx)
  subst xv
  obtain ⟨w1, hw1, hb1, hr1, hx1, hz1, hs1⟩ := three_new w (.int .u8 6) (.bool b) (.int .i64 n) (.string s) (.slice vo l.length vc) (.slice uo f.length uc) (.int .u8 (xk : Int)) (.bool xb) (.int .i64 xn) (.string xs) (.slice xa xl xc) (.slice xf xm xq)
  have C9 : Hid (Calls Tryd.prog 9 #[.agg #[.int .u8 6, .bool b, .int .i64 n, .string s, .slice vo l.length vc, .slice uo f.length uc]] w1 fun e w' => ∃ (ao : Option Addr) (lc : Nat) (fo : Option Addr) (fc : Nat), e = .returned (.agg #[.int .u8 6, .bool b, .int .i64 n, .string s, .slice ao l.length lc, .slice fo f.length fc]) ∧ RP w (w'.alloc (.cells #[.int .u8 6, .bool b, .int .i64 n, .string s, .slice ao l.length lc, .slice fo f.length fc] 26)) w1.heap.size w'.heap.size b n s l f ao lc fo fc (.int .u8 (xk : Int)) (.bool xb) (.int .i64 xn) (.string xs) (.slice xa xl xc) (.slice xf xm xq) (.slice none 0 0) [] ∧ CX (w'.alloc (.cells #[.int .u8 6, .bool b, .int .i64 n, .string s, .slice ao l.length lc, .slice fo f.length fc] 26)) w1.heap.size w'.heap.size ⟨6, b, n, s, l, f⟩ (.agg #[.int .u8 6, .bool b, .int .i64 n, .string s, .slice ao l.length lc, .slice fo f.length fc])) := by
    refine (copy9F _ ht w1 H _ (by have := hb1.size; omega) (rep_stays (hb1.mono hH) (Nat.le_refl _) _ _ hr)).mono ?_
    rintro e w' ⟨v', rfl, hb, hra, hcx⟩
    have hra' := hra
    rw [RepA] at hra'
    obtain ⟨ao, lc, fo, fc, rfl, _⟩ := hra'
    have h1 := RD.start (R := w.heap.size + 1 + 1) (hb1.trans (hb.mono hb1.size)) hra (hz1.call hb) (by omega) hz1.1 hb.size
    have hbn := below_new w' (.cells #[.int .u8 6, .bool b, .int .i64 n, .string s, .slice ao l.length lc, .slice fo f.length fc] 26)
    exact ⟨ao, lc, fo, fc, rfl, ⟨h1, (hx1.call hb).call hbn⟩, CX.stays (Nat.le_refl _) hcx (fun g _ hg => hbn.block g hg)⟩
  have HX9 : Hid (∀ W, Below w.heap.size w W → Calls Tryd.prog 9 #[.agg #[.int .u8 (xk : Int), .bool xb, .int .i64 xn, .string xs, .slice xa xl xc, .slice xf xm xq]] W fun e w' => ∃ (zk : Nat) (zb : Bool) (zn : Int) (zs : ByteArray) (za : Option Addr) (zl zc : Nat) (ta : Option Addr) (tl tc : Nat), e = .returned (.agg #[.int .u8 (zk : Int), .bool zb, .int .i64 zn, .string zs, .slice za zl zc, .slice ta tl tc]) ∧ Below W.heap.size W w' ∧ RepA w' (fun g => W.heap.size ≤ g ∧ g < w'.heap.size) x (.agg #[.int .u8 (zk : Int), .bool zb, .int .i64 zn, .string zs, .slice za zl zc, .slice ta tl tc])) := fun W hW => by
    refine (copy9 _ x (Nat.le_refl _) hx W H _ (by have := hW.size; omega) (rep_stays (hW.mono hH) (Nat.le_refl _) x _ hrx)).mono ?_
    rintro e w' ⟨v', rfl, hb, hr⟩
    obtain ⟨zk, zb, zn, zs, za, zl, zc, ta, tl, tc, rfl⟩ := repA_form hr
    exact ⟨zk, zb, zn, zs, za, zl, zc, ta, tl, tc, rfl, hb, hr⟩
  have HR1 : Hid (Row6 w1 w.heap.size (.int .u8 6) (.bool b) (.int .i64 n) (.string s) (.slice vo l.length vc) (.slice uo f.length uc)) := hr1
  have HW1 : Hid (w1 = ((w.alloc (.cells #[.int .u8 6, .bool b, .int .i64 n, .string s, .slice vo l.length vc, .slice uo f.length uc] 26)).alloc (.cells #[.int .u8 (xk : Int), .bool xb, .int .i64 xn, .string xs, .slice xa xl xc, .slice xf xm xq] 26)).alloc (.cells #[.int .u8 0, .bool false, .int .i64 0, .string ⟨#[]⟩, .slice none 0 0, .slice none 0 0] 26)) := hw1
  have HK : Hid ((-9223372036854775808 ≤ n ∧ n < 9223372036854775808) ∧ s.size ≤ maxLen ∧ l.length ≤ maxLen ∧ f.length ≤ maxLen) := ⟨k2, k3, k4, k5⟩
  have HFS : Hid (f.length ≤ 1466015503667) := hfl
  have HNM : Hid (name.size ≤ maxLen) := by show _ ≤ _; unfold maxLen; omega
  obtain ⟨K, hK⟩ : ∃ K, K = w1.heap.size := ⟨_, rfl⟩
  obtain ⟨ll, hll⟩ : ∃ n, n = l.length := ⟨_, rfl⟩
  obtain ⟨nf, hnf⟩ : ∃ n, n = f.length := ⟨_, rfl⟩
  have HNF : Hid (nf = f.length) := hnf
  have HLL : Hid (ll = l.length) := hll
  obtain ⟨t', ht'⟩ : ∃ t' : V, t' = ⟨6, b, n, s, l, Vl.putF f name x⟩ := ⟨_, rfl⟩
  have HT : Hid (t' = ⟨6, b, n, s, l, Vl.putF f name x⟩) := ht'
  rw [← ht']
  rw [← hll, ← hnf] at HW1 HR1 ⊢
  rw [← hnf] at hfl
  rw [← hK, ← hll, ← hnf] at C9
  obtain ⟨i0, hi, hz0, hzz1, hzz2⟩ := info_parts info44'
  clear hr k2 k3 k4 k5 hll ht ht' hb1 hr1 hz1 hw1 hH hK hnf hn hx hrx hx1 hs1
  go_enter Tryd.func13, Tryd.ntmps13
  go_upto_region 3 with fail
  rw [← HW1.out]
  obtain ⟨p0, p1, p2, p3, p4, p5⟩ := HR1.out.cells
  go_wp2_with fail
  refine C9.out.mono ?_
  rintro e w2 ⟨ao, lc, fo, fc, rfl, hS, hX⟩
  have S2 : Hid (RP w (w2.alloc (.cells #[.int .u8 6, .bool b, .int .i64 n, .string s, .slice ao ll lc, .slice fo nf fc] 26)) K w2.heap.size b n s l f ao lc fo fc (.int .u8 (xk : Int)) (.bool xb) (.int .i64 xn) (.string xs) (.slice xa xl xc) (.slice xf xm xq) (.slice none 0 0) []) := hS
  have X2 : Hid (CX (w2.alloc (.cells #[.int .u8 6, .bool b, .int .i64 n, .string s, .slice ao ll lc, .slice fo nf fc] 26)) K w2.heap.size ⟨6, b, n, s, l, f⟩ (.agg #[.int .u8 6, .bool b, .int .i64 n, .string s, .slice ao ll lc, .slice fo nf fc])) := hX
  clear hS hX C9 p0 p1 p2 p3 p4 p5 HR1
  go_upto_region 4 with fail
  obtain ⟨w3, hw3⟩ : ∃ w3, w3 = w2.alloc (.cells #[.int .u8 6, .bool b, .int .i64 n, .string s, .slice ao ll lc, .slice fo nf fc] 26) := ⟨_, rfl⟩
  obtain ⟨G, hG⟩ : ∃ G, G = w2.heap.size := ⟨_, rfl⟩
  rw [← hw3, ← hG] at S2 X2 ⊢
  clear hw3 hG
  obtain ⟨p0, p1, p2, p3, p4, p5⟩ := S2.out.rd.out.cells
  rw [← HNF.out] at p5
  go_wp2
  have hf9 : nf ≤ 9223372036854775807 := by omega
  have ltg := S2.out.rd.out.1
  go_loopw [23] (fun i wr => ∃ (q : Nat), q ≤ nf ∧ i = .int .i64 q ∧ wr = w3 ∧ ∀ (j : Nat) (a : ByteArray) (y : V), j < q → f[j]? = some (a, y) → ¬ a = name) (fun i _ => nf - (intOf i).toNat)
  case atStart => exact ⟨0, Nat.zero_le _, rfl, rfl, fun j a y h => by omega⟩
  case round =>
    obtain ⟨q, hq, rfl, rfl, hno⟩ := hrel
    have HNO : Hid (∀ (j : Nat) (a : ByteArray) (y : V), j < q → f[j]? = some (a, y) → ¬ a = name) := hno
    clear hno
    by_cases hlt2 : q < nf
    · have ha : q < f.length := by rw [← HNF.out]; exact hlt2
      obtain ⟨F, hfo, hF1, hF2, hFC, hrf⟩ : ∃ F, fo = some ⟨F, 0, none⟩ ∧ K ≤ F ∧ F < G ∧ (∃ C, wr.heap[F]? = some (.cells C 39 (0, 0)) ∧ f.length * 7 ≤ C.size) ∧ ∃ A, RepFA wr A F 0 f := by
        obtain ⟨_, _, fo', fc', e, _, h3⟩ := X2.out
        simp only [Value.agg.injEq, Array.mk.injEq, List.cons.injEq, Value.slice.injEq, and_true, true_and] at e
        obtain ⟨_, _, rfl, _⟩ := e
        obtain ⟨F, e2, h4, h5, h6, h7⟩ := h3 (by omega)
        exact ⟨F, e2, h4, h5, h6, _, h7⟩
      subst hfo
      obtain ⟨A, hrf⟩ := hrf
      obtain ⟨⟨a, y⟩, hx⟩ : ∃ x, f[q]? = some x := ⟨_, List.getElem?_eq_getElem ha⟩
      obtain ⟨dm, has, c0, c1, c2, c3, c4, c5, ⟨d0, d1, d2, d3, d4, d5⟩, hrx⟩ := repFA_at f 0 hrf q a y hx
      rw [Nat.zero_add] at dm d0 d1 d2 d3 d4 d5
      have HFQ : Hid (f[q]? = some (a, y)) := hx
      have HFC : Hid (∃ C, wr.heap[F]? = some (.cells C 39 (0, 0)) ∧ f.length * 7 ≤ C.size) := hFC
      have HFG : Hid (K ≤ F ∧ F < G) := ⟨hF1, hF2⟩
      clear hrf hx hrx ha hF1 hF2 has hFC
      by_cases ham : a = name
      · subst ham
        go_upto_region 8 with fail
        have HPL : Hid (t' = ⟨6, b, n, s, l, f.set q (a, x)⟩) := by
          show _ = _
          have hpl : Vl.place (fun m => decide (m = a)) f = q := Vl.place_at _ f q a y (fun i m z hi hz => decide_eq_false (HNO.out i m z hi hz)) HFQ.out (decide_eq_true rfl)
          rw [HT.out, Vl.putF, hpl, if_pos (by rw [← HNF.out]; exact hlt2)]
        have HFR : Hid (∀ W, Below wr.heap.size wr W → (∀ r, W.frozen? ⟨F, r, none⟩ = false) ∧ F < W.heap.size ∧ ∀ p, p < nf * 7 → ∃ v, W.cell? ⟨F, p, none⟩ = some v) := fun W hW => by
          obtain ⟨C, h1, h2⟩ := HFC.out
          have hlt : F < wr.heap.size := (Array.getElem?_eq_some_iff.1 h1).1
          have h3 := (hW.block F hlt).trans h1
          refine ⟨row_free h3, Nat.lt_of_lt_of_le hlt hW.size, fun p hp => ?_⟩
          rw [cell_of_row _ _ _ _ _ _ h3]
          rw [← HNF.out] at h2
          exact ⟨C[p]'(by omega), Array.getElem?_eq_getElem _⟩
        obtain ⟨v0, v1, v2, v3, v4, v5⟩ := S2.out.xb.cells
        have ltx := S2.out.xb.1
        clear dm d0 d1 d2 d3 d4 d5
        go_cut [] from 34 to 40 (fun wx => PR w wx (w.heap.size + 1 + 1) G t')
        case first =>
          go_region_with (
            (go_at_call 9; refine (HX9.out _ ?_).mono ?_; (first | exact S2.out.rd.below | exact (S2.out.rd.call (Below.refl _ _).drew).below); rintro e w5 ⟨zk, zb, zn, zs, za, zl, zc, ta, tl, tc, rfl, hb5, hr5⟩
             have HB5 : Hid (Below wr.heap.size wr w5) := (by first | exact (Below.refl _ _).drew.trans hb5 | exact hb5)
             have S5 := S2.out.rd.call HB5.out
             obtain ⟨r0, r1, r2, r3, r4, r5⟩ := S5.out.cells
             rw [← HNF.out] at r5
             have lto := S5.out.1
             obtain ⟨fz5, lt5, cz⟩ := HFR.out w5 HB5.out
             obtain ⟨e0, g0⟩ := cz (q * 7 + 1) (by omega)
             obtain ⟨e1, g1⟩ := cz (q * 7 + 2) (by omega)
             obtain ⟨e2, g2⟩ := cz (q * 7 + 3) (by omega)
             obtain ⟨e3, g3⟩ := cz (q * 7 + 4) (by omega)
             obtain ⟨e4, g4⟩ := cz (q * 7 + 5) (by omega)
             obtain ⟨e5, g5⟩ := cz (q * 7 + 6) (by omega)
             have HE5 : Hid (PR w (w5.setCells F (q * 7 + 1) [.int .u8 (zk : Int), .bool zb, .int .i64 zn, .string zs, .slice za zl zc, .slice ta tl tc]) (w.heap.size + 1 + 1) G t') := (by
               show PR _ _ _ _ _
               rw [HPL.out]
               have hcx := X2.out
               rw [HNF.out, HLL.out] at hcx
               have h1 := RD.set S5 (CX.stays (Nat.le_refl _) hcx (fun g _ hg => HB5.out.block g (by have := S2.out.rd.out.1; omega))) HK.out rfl HFQ.out (repA_stays (fun _ _ => rfl) (fun g hg => ⟨by have := S2.out.rd.out.1; have h2 := hg.1; first | omega | (simp at h2; omega), hg.2⟩) x _ hr5)
               exact ⟨_, _, _, _, _, _, h1⟩)
             clear hb5 hr5 S5 cz))
          all_goals
            go_wp2_with fail
            go_meet
            exact HE5.out
        case rest =>
          clear S2 X2 HFR v0 v1 v2 v3 v4 v5 ltx p0 p1 p2 p3 p4 p5 ltg HFC
          obtain ⟨c0, c1, c2, c3, c4, c5, hR, hZ, hB, hrep⟩ := hcut
          obtain ⟨uk, ub, un, us, ua, ul, uc', va, vl, vc', hu⟩ := repA_form hrep
          simp only [Value.agg.injEq, Array.mk.injEq, List.cons.injEq, and_true] at hu
          obtain ⟨rfl, rfl, rfl, rfl, rfl, rfl⟩ := hu
          obtain ⟨p0, p1, p2, p3, p4, p5⟩ := hR.cells
          obtain ⟨q0, q1, q2, q3, q4, q5⟩ := Row6.cells hZ
          have fz := Row6.free hZ
          have hl1 := hR.1
          have hl2 := hZ.1
          obtain ⟨a1, a2, a3⟩ := answer_at (by omega) hZ hB hrep
          have HA1 : Hid _ := a1
          have HA2 : Hid _ := a2
          have HA3 : Hid _ := a3
          clear a1 a2 a3 hR hZ hB hrep
          go_wp2
          rw [sets6]
          exact bodyPost_ret (v := .tuple #[.agg #[.int .u8 (uk : Int), .bool ub, .int .i64 un, .string us, .slice ua ul uc', .slice va vl vc'], .int .i64 0]) ((results_row_tmp (fn := Tryd.f13) (p := 6) (u := 7) (ty := 26) (by rfl) _ _ (w.heap.size + 1 + 1) 26 _ (0, 0) _ (by rfl) HA1.out Tryd.underlying26 rfl info26).trans (by rfl)) rfl ⟨_, rfl, HA2.out, HA3.out⟩
      · have hane := bytes_neq ham
        have HN2 : Hid (∀ (j : Nat) (a : ByteArray) (y : V), j < q + 1 → f[j]? = some (a, y) → ¬ a = name) := fun j a' y' hj hy => by
          by_cases hjq : j < q
          · exact HNO.out j a' y' hjq hy
          · have : j = q := by omega
            subst this
            have h1 := HFQ.out
            rw [hy] at h1
            cases h1
            exact ham
        go_wp2
        go_roundw
        case rel => first | exact ⟨q + 1, by omega, by go_num, rfl, HN2.out⟩ | exact ⟨q + 1, by omega, by go_num, trivial, HN2.out⟩ | exact ⟨q + 1, by omega, by go_num, HN2.out⟩
        case measure => simp [intOf]; omega
    · have hqn : q = nf := by omega
      subst hqn
      have HNA : Hid (∀ (j : Nat) (a : ByteArray) (y : V), f[j]? = some (a, y) → ¬ a = name) := fun j a y hj => HNO.out j a y (by rw [HNF.out]; exact (List.getElem?_eq_some_iff.1 hj).1) hj
      obtain ⟨pp, hpp⟩ : ∃ p, p = Vl.place (fun m => decide (0 < Vl.cmpS m name)) f := ⟨_, rfl⟩
      have HPP : Hid (pp = Vl.place (fun m => decide (0 < Vl.cmpS m name)) f) := hpp
      have HPL : Hid (pp ≤ f.length) := by show _ ≤ _; rw [hpp]; exact Vl.place_le _ f
      have HTN : Hid (t' = ⟨6, b, n, s, l, insF f pp (name, x)⟩) := by
        show _ = _
        have hnp : ¬ Vl.place (fun m => decide (m = name)) f < f.length := fun hlt => by
          obtain ⟨y, hy⟩ := place_name name f hlt
          exact HNA.out _ name y hy rfl
        rw [HT.out, Vl.putF, if_neg hnp, hpp]
      clear hpp HNO HT X2
      obtain ⟨w3, rfl⟩ : ∃ w3, w3 = wr := ⟨_, rfl⟩
      go_wp2
      clear p0 p1 p2 p3 p4 p5
      go_loopw [10, 11, 46] (fun v p i wr => ∃ (c : Nat) (lv : Value) (pb : Bool) (hd : List (ByteArray × V)), c ≤ q ∧ i = .int .i64 c ∧ lv = v ∧ p = .bool pb ∧ ((pb = false ∧ c ≤ pp ∧ hd = f.take c) ∨ (pb = true ∧ pp < c ∧ hd = insF (f.take c) pp (name, x))) ∧ RP w wr K G b n s l f ao lc fo fc (.int .u8 (xk : Int)) (.bool xb) (.int .i64 xn) (.string xs) (.slice xa xl xc) (.slice xf xm xq) lv hd) (fun _ _ i _ => q - (intOf i).toNat)
      case atStart => exact ⟨0, _, false, [], Nat.zero_le _, rfl, rfl, rfl, Or.inl ⟨rfl, Nat.zero_le _, rfl⟩, S2.out⟩
      case round =>
        obtain ⟨c, lv, pb, hd, hc, rfl, rfl, rfl, hpb, hN⟩ := hrel
        have N : Hid (RP w wr K G b n s l f ao lc fo fc (.int .u8 (xk : Int)) (.bool xb) (.int .i64 xn) (.string xs) (.slice xa xl xc) (.slice xf xm xq) lv hd) := hN
        have HPB : Hid ((pb = false ∧ c ≤ pp ∧ hd = f.take c) ∨ (pb = true ∧ pp < c ∧ hd = insF (f.take c) pp (name, x))) := hpb
        have HHL : Hid (hd.length ≤ c + 1 ∧ q ≤ 1466015503667 ∧ c ≤ q) := by
          refine ⟨?_, hfl, hc⟩
          rcases hpb with ⟨_, _, e⟩ | ⟨_, _, e⟩
          · rw [e, List.length_take]; omega
          · rw [e, insF_length, List.length_take]; omega
        clear hN S2 hpb
        by_cases hlt2 : c < q
        · have ha : c < f.length := by rw [← HNF.out]; exact hlt2
          obtain ⟨gf, of, rfl, hg1, hg2, hrf⟩ := N.out.rd.fi (by omega)
          obtain ⟨⟨a, y⟩, hx⟩ : ∃ x, f[c]? = some x := ⟨_, List.getElem?_eq_getElem ha⟩
          obtain ⟨dm, has, c0, c1, c2, c3, c4, c5, ⟨d0, d1, d2, d3, d4, d5⟩, hrx⟩ := repFA_at f of hrf c a y hx
          rw [show of + c * 7 + 1 + 1 = of + c * 7 + 2 by omega] at d1
          rw [show of + c * 7 + 1 + 2 = of + c * 7 + 3 by omega] at d2
          rw [show of + c * 7 + 1 + 3 = of + c * 7 + 4 by omega] at d3
          rw [show of + c * 7 + 1 + 4 = of + c * 7 + 5 by omega] at d4
          rw [show of + c * 7 + 1 + 5 = of + c * 7 + 6 by omega] at d5
          obtain ⟨yk, yb, yn, ys, yfa, yfl, yfc, yga, ygl, ygc, hyf⟩ := repA_form hrx
          simp only [Value.agg.injEq, Array.mk.injEq, List.cons.injEq, and_true] at hyf
          obtain ⟨rfl, rfl, rfl, rfl, rfl, rfl⟩ := hyf
          have HFQ : Hid (f[c]? = some (a, y)) := hx
          have HAS : Hid (a.size ≤ maxLen) := has
          have HRX : Hid (RepA wr (fun g => K ≤ g ∧ g < G) y (.agg #[.int .u8 (yk : Int), .bool yb, .int .i64 yn, .string ys, .slice yfa yfl yfc, .slice yga ygl ygc])) := hrx
          clear hrf hx hrx ha hg1 hg2 has
          go_upto_region 16 with fail
          obtain ⟨w4, hw4⟩ : ∃ w4, w4 = wr.alloc (.cells #[.string a, .int .u8 (yk : Int), .bool yb, .int .i64 yn, .string ys, .slice yfa yfl yfc, .slice yga ygl ygc] 39) := ⟨_, rfl⟩
          obtain ⟨B3, hB3⟩ : ∃ B, B = wr.heap.size := ⟨_, rfl⟩
          have hb4 : Below wr.heap.size wr w4 := by rw [hw4]; exact below_new _ _
          have HBX : Hid (Row7 w4 B3 (.string a) (.int .u8 (yk : Int)) (.bool yb) (.int .i64 yn) (.string ys) (.slice yfa yfl yfc) (.slice yga ygl ygc)) := by
            show Row7 _ _ _ _ _ _ _ _ _
            rw [hw4, hB3]; exact ⟨by simp, heap_alloc_new wr _⟩
          have HNB : Hid (some B3 ≠ lv.ownBlock) := by
            obtain ⟨cs, h1, _⟩ := N.out.rd.parts
            exact fun e => by have := (h1.lt _ e.symm).2; omega
          have N4 : Hid (RP w w4 K G b n s l f ao lc (some ⟨gf, of, none⟩) fc (.int .u8 (xk : Int)) (.bool xb) (.int .i64 xn) (.string xs) (.slice xa xl xc) (.slice xf xm xq) lv hd) := N.out.call hb4
          have HRXc : Hid (RepA w4 (fun g => K ≤ g ∧ g < G) y (.agg #[.int .u8 (yk : Int), .bool yb, .int .i64 yn, .string ys, .slice yfa yfl yfc, .slice yga ygl ygc])) := repA_stays (fun g hg => hb4.block g (by have := N.out.rd.out.1; omega)) (fun _ hg => hg) y _ HRX.out
          rw [← hw4, ← hB3]
          clear hw4 hB3 hb4 dm d0 d1 d2 d3 d4 d5 N HRX
          obtain ⟨y0, y1, y2, y3, y4, y5, y6⟩ := HBX.out.cells
          have ham := HNA.out c a y HFQ.out
          have hane := bytes_neq ham
          have hab := above_bytes ham
          clear ham
          rcases HPB.out with ⟨rfl, hcp, hhd⟩ | ⟨rfl, hcp, hhd⟩
          · by_cases hup : 0 < Vl.cmpS a name
            · have hbl : Op.bytesLess a.toList name.toList = false := by rw [hab]; exact decide_eq_false (by omega)
              have HCP : Hid (c = pp) := by
                show _ = _
                refine Nat.le_antisymm hcp (Nat.not_lt.1 fun hlt => ?_)
                rw [HPP.out] at hlt
                have h1 := List.not_of_lt_findIdx (p := fun b : ByteArray × V => decide (0 < Vl.cmpS b.1 name)) (xs := f) hlt
                have h2 := HFQ.out
                rw [List.getElem?_eq_getElem (by rw [← HNF.out]; exact hlt2)] at h2
                rw [Option.some.inj h2] at h1
                simp [hup] at h1
              have HNE : Hid (insF (f.take (c + 1)) pp (name, x) = (hd ++ [(name, x)]) ++ [(a, y)]) := by
                show _ = _
                rw [insF_next f pp c (by have := HCP.out; omega) (a, y) (name, x) HFQ.out, hhd, HCP.out, insF_end f pp HPL.out]
              clear hab hhd
              go_upto_region 17 with fail
              obtain ⟨v0, v1, v2, v3, v4, v5⟩ := N4.out.xb.cells
              go_wp2_with fail
              refine (HX9.out _ N4.out.rd.below).mono ?_
              rintro e w5 ⟨zk, zb, zn, zs, za, zl, zc, ta, tl, tc, rfl, hb5, hr5⟩
              have HB5 : Hid (Below w4.heap.size w4 w5) := hb5
              have HR5 : Hid (RepA w5 (fun g => w4.heap.size ≤ g ∧ g < w5.heap.size) x (.agg #[.int .u8 (zk : Int), .bool zb, .int .i64 zn, .string zs, .slice za zl zc, .slice ta tl tc])) := hr5
              have N5 : Hid (RP w w5 K G b n s l f ao lc (some ⟨gf, of, none⟩) fc (.int .u8 (xk : Int)) (.bool xb) (.int .i64 xn) (.string xs) (.slice xa xl xc) (.slice xf xm xq) lv hd) := N4.out.call hb5
              clear hb5 hr5 v0 v1 v2 v3 v4 v5
              obtain ⟨cs, hown, hel⟩ := N5.out.rd.parts
              have HOWN : Hid (w5.ownsRow (G + 1) 39 7 lv hd.length cs) := hown
              have HEL : Hid (EF w5 (fun g => K ≤ g ∧ g ≠ G ∧ some g ≠ (lv : Value).ownBlock ∧ g < w5.heap.size) hd cs) := hel
              clear hown hel
              have fit63 : Hid (hd.length + 1 ≤ maxLen) := by have := HHL.out; show _ ≤ _; unfold maxLen; omega
              have fit47 : Hid ((hd.length + 1) * 96 ≤ 140737488355328) := by have := HHL.out; show _ ≤ _; omega
              have HGL : Hid (G + 1 ≤ w5.heap.size) := N5.out.rd.out.1
              go_wp2_with (first | (at_builtin; refine wpList_append_lies _ rfl _ _ 24 rfl (G + 1) 39 i0 _ 7 96 Tryd.underlying24 hi hz0 hzz1 hzz2 rfl (by decide) lv hd.length cs (by rfl) (HOWN.out.alloc _) ⟨w5.heap.size, 0, none⟩ 1 1 [.string name, .int .u8 (zk : Int), .bool zb, .int .i64 zn, .string zs, .slice za zl zc, .slice ta tl tc] (by rfl) (by rfl) (World.news_of_block (heap_alloc_new w5 _)) (by simp [Value.oneCell']) (by omega) fit63.out fit47.out (by have := HGL.out; simp; omega) (w5.heap.size + 1) (by simp) ?_))
              intro g6 cp6 w6 hown6 hgrow6 hat6 hglt6
              have N6 : Hid (RP w w6 K G b n s l f ao lc (some ⟨gf, of, none⟩) fc (.int .u8 (xk : Int)) (.bool xb) (.int .i64 xn) (.string xs) (.slice xa xl xc) (.slice xf xm xq) (.slice (some ⟨g6, 0, none⟩) (hd.length + 1) cp6) (hd ++ [(name, x)])) := RP.app N5.out HOWN.out HEL.out (below_new _ _) HNM.out (N5.out.rd.fresh0 N4.out.rd.parts_lt HR5.out HB5.out (below_new _ _)) hgrow6 hown6 (by simpa using hat6)
              have HBX6 : Hid (Row7 w6 B3 (.string a) (.int .u8 (yk : Int)) (.bool yb) (.int .i64 yn) (.string ys) (.slice yfa yfl yfc) (.slice yga ygl ygc)) := row7_grown ((HBX.out.call HB5.out).call (below_new _ _)) hgrow6 HNB.out
              have HRX6 : Hid (RepA w6 (fun g => K ≤ g ∧ g < G) y (.agg #[.int .u8 (yk : Int), .bool yb, .int .i64 yn, .string ys, .slice yfa yfl yfc, .slice yga ygl ygc])) := by
                have hlo : ∀ g, g < G → some g ≠ lv.ownBlock := fun g hg e => by have := (HOWN.out.lt _ e.symm).1; omega
                refine repA_stays (fun g hg => ?_) (fun _ hg => hg) y _ HRXc.out
                have h1 := N4.out.rd.out.1
                have h2 := HB5.out.size
                exact (hgrow6.block g (by simp; omega) (hlo g hg.2)).trans (((below_new w5 _).block g (by omega)).trans (HB5.out.block g (by omega)))
              obtain ⟨hd6, hhd6⟩ : ∃ h, h = hd ++ [(name, x)] := ⟨_, rfl⟩
              have HHL6 : Hid (hd6.length ≤ c + 2 ∧ q ≤ 1466015503667 ∧ c < q ∧ hd6.length ≤ c + 1) := by
                have h1 := HHL.out
                have h2 : hd.length = c := by
                  have := HPB.out
                  rcases this with ⟨_, _, e⟩ | ⟨e, _⟩
                  · rw [e, List.length_take]; have := HNF.out; omega
                  · cases e
                show _ ∧ _
                rw [hhd6, List.length_append]
                simp only [List.length_cons, List.length_nil]
                omega
              rw [← hhd6] at N6 HNE
              clear hown6 hgrow6 hat6 hglt6 HOWN HEL fit63 fit47 HGL N5 N4 HBX HRXc HHL hhd6 y0 y1 y2 y3 y4 y5 y6 HB5 HR5
              have HRXc := HRX6
              have HHL := HHL6
              obtain ⟨y0, y1, y2, y3, y4, y5, y6⟩ := HBX6.out.cells
              go_upto_region 19 with fail
              obtain ⟨cs, hown, hel⟩ := N6.out.rd.parts
              have HOWN : Hid (w6.ownsRow (G + 1) 39 7 (.slice (some ⟨g6, 0, none⟩) (hd.length + 1) cp6) hd6.length cs) := hown
              have HEL : Hid (EF w6 (fun g => K ≤ g ∧ g ≠ G ∧ some g ≠ ((.slice (some ⟨g6, 0, none⟩) (hd.length + 1) cp6) : Value).ownBlock ∧ g < w6.heap.size) hd6 cs) := hel
              clear hown hel
              have fit63 : Hid (hd6.length + 1 ≤ maxLen) := by have := HHL.out; show _ ≤ _; unfold maxLen; omega
              have fit47 : Hid ((hd6.length + 1) * 96 ≤ 140737488355328) := by have := HHL.out; show _ ≤ _; omega
              have HGL : Hid (G + 1 ≤ w6.heap.size) := N6.out.rd.out.1
              go_wp2_with (first | (at_builtin; refine wpList_append_lies _ rfl _ _ 24 rfl (G + 1) 39 i0 _ 7 96 Tryd.underlying24 hi hz0 hzz1 hzz2 rfl (by decide) (.slice (some ⟨g6, 0, none⟩) (hd.length + 1) cp6) hd6.length cs (by rfl) (HOWN.out.alloc _) ⟨w6.heap.size, 0, none⟩ 1 1 [.string a, .int .u8 (yk : Int), .bool yb, .int .i64 yn, .string ys, .slice yfa yfl yfc, .slice yga ygl ygc] (by rfl) (by rfl) (World.news_of_block (heap_alloc_new w6 _)) (by simp [Value.oneCell']) (by omega) fit63.out fit47.out (by have := HGL.out; simp; omega) (w6.heap.size + 1) (by simp) ?_))
              intro gz cpz wz hownz hgrowz hatz hgltz
              have NZ : Hid (RP w wz K G b n s l f ao lc (some ⟨gf, of, none⟩) fc (.int .u8 (xk : Int)) (.bool xb) (.int .i64 xn) (.string xs) (.slice xa xl xc) (.slice xf xm xq) (.slice (some ⟨gz, 0, none⟩) (hd6.length + 1) cpz) (insF (f.take (c + 1)) pp (name, x))) := by
                show RP _ _ _ _ _ _ _ _ _ _ _ _ _ _ _ _ _ _ _ _ _
                rw [HNE.out]
                exact RP.app N6.out HOWN.out HEL.out (below_new _ _) HAS.out (N6.out.rd.field HRXc.out (below_new _ _)) hgrowz hownz (by simpa using hatz)
              clear hownz hgrowz hatz hgltz HOWN HEL
              go_wp2
              go_roundw
              case rel => first | exact ⟨c + 1, _, true, _, by omega, by go_num, rfl, rfl, Or.inr ⟨rfl, by have := HCP.out; omega, rfl⟩, NZ.out⟩ | ((repeat apply Exists.intro); exact ⟨⟨c + 1, _, true, _, by omega, by go_num, rfl, rfl, Or.inr ⟨rfl, by have := HCP.out; omega, rfl⟩, NZ.out⟩, rfl⟩)
              case measure => simp [intOf]; omega
            · have hbl : Op.bytesLess a.toList name.toList = true := by rw [hab]; exact decide_eq_true (by omega)
              have hcl : c < pp := by
                refine Nat.lt_of_le_of_ne hcp fun e => hup ?_
                have hlt : Vl.place (fun m => decide (0 < Vl.cmpS m name)) f < f.length := by rw [← HPP.out, ← e, ← HNF.out]; exact hlt2
                have h1 := List.findIdx_getElem (p := fun b : ByteArray × V => decide (0 < Vl.cmpS b.1 name)) (w := hlt)
                have h2 := HFQ.out
                rw [List.getElem?_eq_getElem (by rw [← HNF.out]; exact hlt2)] at h2
                have h3 := Option.some.inj h2
                have h4 : f[Vl.place (fun m => decide (0 < Vl.cmpS m name)) f]'hlt = (a, y) := by
                  rw [← h3]; congr 1; rw [← HPP.out]; exact e.symm
                have h5 : decide (0 < Vl.cmpS (f[Vl.place (fun m => decide (0 < Vl.cmpS m name)) f]'hlt).1 name) = true := h1
                rw [h4] at h5
                exact of_decide_eq_true h5
              have HNE : Hid (f.take (c + 1) = hd ++ [(a, y)]) := by
                show _ = _
                rw [List.take_add_one, HFQ.out, hhd]; rfl
              clear hab hhd
              obtain ⟨cs, hown, hel⟩ := N4.out.rd.parts
              have HOWN : Hid (w4.ownsRow (G + 1) 39 7 lv hd.length cs) := hown
              have HEL : Hid (EF w4 (fun g => K ≤ g ∧ g ≠ G ∧ some g ≠ (lv : Value).ownBlock ∧ g < w4.heap.size) hd cs) := hel
              clear hown hel
              have fit63 : Hid (hd.length + 1 ≤ maxLen) := by have := HHL.out; show _ ≤ _; unfold maxLen; omega
              have fit47 : Hid ((hd.length + 1) * 96 ≤ 140737488355328) := by have := HHL.out; show _ ≤ _; omega
              have HGL : Hid (G + 1 ≤ w4.heap.size) := N4.out.rd.out.1
              go_wp2_with (first | (at_builtin; refine wpList_append_lies _ rfl _ _ 24 rfl (G + 1) 39 i0 _ 7 96 Tryd.underlying24 hi hz0 hzz1 hzz2 rfl (by decide) lv hd.length cs (by rfl) (HOWN.out.alloc _) ⟨w4.heap.size, 0, none⟩ 1 1 [.string a, .int .u8 (yk : Int), .bool yb, .int .i64 yn, .string ys, .slice yfa yfl yfc, .slice yga ygl ygc] (by rfl) (by rfl) (World.news_of_block (heap_alloc_new w4 _)) (by simp [Value.oneCell']) (by omega) fit63.out fit47.out (by have := HGL.out; simp; omega) (w4.heap.size + 1) (by simp) ?_))
              intro gz cpz wz hownz hgrowz hatz hgltz
              have NZ : Hid (RP w wz K G b n s l f ao lc (some ⟨gf, of, none⟩) fc (.int .u8 (xk : Int)) (.bool xb) (.int .i64 xn) (.string xs) (.slice xa xl xc) (.slice xf xm xq) (.slice (some ⟨gz, 0, none⟩) (hd.length + 1) cpz) (f.take (c + 1))) := by
                show RP _ _ _ _ _ _ _ _ _ _ _ _ _ _ _ _ _ _ _ _ _
                rw [HNE.out]
                exact RP.app N4.out HOWN.out HEL.out (below_new _ _) HAS.out (N4.out.rd.field HRXc.out (below_new _ _)) hgrowz hownz (by simpa using hatz)
              clear hownz hgrowz hatz hgltz HOWN HEL
              go_wp2
              go_roundw
              case rel => first | exact ⟨c + 1, _, false, _, by omega, by go_num, rfl, rfl, Or.inl ⟨rfl, hcl, rfl⟩, NZ.out⟩ | ((repeat apply Exists.intro); exact ⟨⟨c + 1, _, false, _, by omega, by go_num, rfl, rfl, Or.inl ⟨rfl, hcl, rfl⟩, NZ.out⟩, rfl⟩)
              case measure => simp [intOf]; omega
          · have HNE : Hid (insF (f.take (c + 1)) pp (name, x) = hd ++ [(a, y)]) := by
              show _ = _
              rw [insF_next f pp c (by omega) (a, y) (name, x) HFQ.out, hhd]
            clear hab hhd
            obtain ⟨cs, hown, hel⟩ := N4.out.rd.parts
            have HOWN : Hid (w4.ownsRow (G + 1) 39 7 lv hd.length cs) := hown
            have HEL : Hid (EF w4 (fun g => K ≤ g ∧ g ≠ G ∧ some g ≠ (lv : Value).ownBlock ∧ g < w4.heap.size) hd cs) := hel
            clear hown hel
            have fit63 : Hid (hd.length + 1 ≤ maxLen) := by have := HHL.out; show _ ≤ _; unfold maxLen; omega
            have fit47 : Hid ((hd.length + 1) * 96 ≤ 140737488355328) := by have := HHL.out; show _ ≤ _; omega
            have HGL : Hid (G + 1 ≤ w4.heap.size) := N4.out.rd.out.1
            go_wp2_with (first | (at_builtin; refine wpList_append_lies _ rfl _ _ 24 rfl (G + 1) 39 i0 _ 7 96 Tryd.underlying24 hi hz0 hzz1 hzz2 rfl (by decide) lv hd.length cs (by rfl) (HOWN.out.alloc _) ⟨w4.heap.size, 0, none⟩ 1 1 [.string a, .int .u8 (yk : Int), .bool yb, .int .i64 yn, .string ys, .slice yfa yfl yfc, .slice yga ygl ygc] (by rfl) (by rfl) (World.news_of_block (heap_alloc_new w4 _)) (by simp [Value.oneCell']) (by omega) fit63.out fit47.out (by have := HGL.out; simp; omega) (w4.heap.size + 1) (by simp) ?_))
            intro gz cpz wz hownz hgrowz hatz hgltz
            have NZ : Hid (RP w wz K G b n s l f ao lc (some ⟨gf, of, none⟩) fc (.int .u8 (xk : Int)) (.bool xb) (.int .i64 xn) (.string xs) (.slice xa xl xc) (.slice xf xm xq) (.slice (some ⟨gz, 0, none⟩) (hd.length + 1) cpz) (insF (f.take (c + 1)) pp (name, x))) := by
              show RP _ _ _ _ _ _ _ _ _ _ _ _ _ _ _ _ _ _ _ _ _
              rw [HNE.out]
              exact RP.app N4.out HOWN.out HEL.out (below_new _ _) HAS.out (N4.out.rd.field HRXc.out (below_new _ _)) hgrowz hownz (by simpa using hatz)
            clear hownz hgrowz hatz hgltz HOWN HEL
            go_wp2
            go_roundw
            case rel => first | exact ⟨c + 1, _, true, _, by omega, by go_num, rfl, rfl, Or.inr ⟨rfl, by omega, rfl⟩, NZ.out⟩ | ((repeat apply Exists.intro); exact ⟨⟨c + 1, _, true, _, by omega, by go_num, rfl, rfl, Or.inr ⟨rfl, by omega, rfl⟩, NZ.out⟩, rfl⟩)
            case measure => simp [intOf]; omega
        · have hcq : c = q := by omega
          subst hcq
          rcases HPB.out with ⟨rfl, hcp, hhd⟩ | ⟨rfl, hcp, hhd⟩
          · have HPE : Hid (insF f pp (name, x) = hd ++ [(name, x)]) := by
              show _ = _
              have h1 := HPL.out
              have h2 := HNF.out
              have h3 : pp = f.length := by omega
              have h4 := insF_end f pp HPL.out (name, x)
              rw [h3, List.take_length] at h4
              rw [hhd, h2, List.take_length, h3, h4]
            clear hhd
            go_upto_region 22 with fail
            obtain ⟨v0, v1, v2, v3, v4, v5⟩ := N.out.xb.cells
            go_wp2_with fail
            refine (HX9.out _ N.out.rd.below).mono ?_
            rintro e w5 ⟨zk, zb, zn, zs, za, zl, zc, ta, tl, tc, rfl, hb5, hr5⟩
            have HB5 : Hid (Below wr.heap.size wr w5) := hb5
            have HR5 : Hid (RepA w5 (fun g => wr.heap.size ≤ g ∧ g < w5.heap.size) x (.agg #[.int .u8 (zk : Int), .bool zb, .int .i64 zn, .string zs, .slice za zl zc, .slice ta tl tc])) := hr5
            have N5 : Hid (RP w w5 K G b n s l f ao lc fo fc (.int .u8 (xk : Int)) (.bool xb) (.int .i64 xn) (.string xs) (.slice xa xl xc) (.slice xf xm xq) lv hd) := N.out.call hb5
            clear hb5 hr5 v0 v1 v2 v3 v4 v5
            obtain ⟨cs, hown, hel⟩ := N5.out.rd.parts
            have HOWN : Hid (w5.ownsRow (G + 1) 39 7 lv hd.length cs) := hown
            have HEL : Hid (EF w5 (fun g => K ≤ g ∧ g ≠ G ∧ some g ≠ (lv : Value).ownBlock ∧ g < w5.heap.size) hd cs) := hel
            clear hown hel
            have fit63 : Hid (hd.length + 1 ≤ maxLen) := by have := HHL.out; show _ ≤ _; unfold maxLen; omega
            have fit47 : Hid ((hd.length + 1) * 96 ≤ 140737488355328) := by have := HHL.out; show _ ≤ _; omega
            have HGL : Hid (G + 1 ≤ w5.heap.size) := N5.out.rd.out.1
            go_wp2_with (first | (at_builtin; refine wpList_append_lies _ rfl _ _ 24 rfl (G + 1) 39 i0 _ 7 96 Tryd.underlying24 hi hz0 hzz1 hzz2 rfl (by decide) lv hd.length cs (by rfl) (HOWN.out.alloc _) ⟨w5.heap.size, 0, none⟩ 1 1 [.string name, .int .u8 (zk : Int), .bool zb, .int .i64 zn, .string zs, .slice za zl zc, .slice ta tl tc] (by rfl) (by rfl) (World.news_of_block (heap_alloc_new w5 _)) (by simp [Value.oneCell']) (by omega) fit63.out fit47.out (by have := HGL.out; simp; omega) (w5.heap.size + 1) (by simp) ?_))
            intro g6 cp6 w6 hown6 hgrow6 hat6 hglt6
            have N6 : Hid (RP w w6 K G b n s l f ao lc fo fc (.int .u8 (xk : Int)) (.bool xb) (.int .i64 xn) (.string xs) (.slice xa xl xc) (.slice xf xm xq) (.slice (some ⟨g6, 0, none⟩) (hd.length + 1) cp6) (hd ++ [(name, x)])) := RP.app N5.out HOWN.out HEL.out (below_new _ _) HNM.out (N5.out.rd.fresh0 N.out.rd.parts_lt HR5.out HB5.out (below_new _ _)) hgrow6 hown6 (by simpa using hat6)
            obtain ⟨hd6, hhd6⟩ : ∃ h, h = hd ++ [(name, x)] := ⟨_, rfl⟩
            have hl6 : hd6.length = hd.length + 1 := by rw [hhd6, List.length_append]; rfl
            have hde : hd6 = insF f pp (name, x) := by rw [hhd6, HPE.out]
            rw [← hhd6] at N6
            have HHL6 : Hid (hd6.length ≤ c + 2 ∧ c ≤ 1466015503667) := ⟨by have := HHL.out; omega, hfl⟩
            clear hown6 hgrow6 hat6 hglt6 HOWN HEL fit63 fit47 HGL N5 N HHL hhd6 HB5 HR5 hl6
            have HHL := HHL6
            have N := N6
            clear N6
            have HFIN := RD.fin N.out.rd ⟨HK.out.1, HK.out.2.1, HK.out.2.2.1⟩ (by have := HHL.out; unfold maxLen; omega)
            rw [hde, ← HTN.out] at HFIN
            obtain ⟨hR, hZ, hB, hrep⟩ := HFIN
            obtain ⟨r0, r1, r2, r3, r4, r5⟩ := N.out.rd.out.cells
            have fzo := N.out.rd.out.free
            have lto := N.out.rd.out.1
            obtain ⟨wf, hwf⟩ : ∃ wf, wf = w6.setCell ⟨G, 5, none⟩ (.slice (some ⟨g6, 0, none⟩) (hd.length + 1) cp6) := ⟨_, rfl⟩
            rw [← hwf] at hR hZ hB hrep
            have HWF : Hid (wf = w6.setCell ⟨G, 5, none⟩ (.slice (some ⟨g6, 0, none⟩) (hd.length + 1) cp6)) := hwf
            have HRW : Hid (Row6 wf G (.int .u8 6) (.bool b) (.int .i64 n) (.string s) (.slice ao l.length lc) (.slice (some ⟨g6, 0, none⟩) (hd.length + 1) cp6)) := hR
            have HZW : Hid (Z6 wf (w.heap.size + 1 + 1)) := hZ
            obtain ⟨a1, a2, a3⟩ := answer_at (by omega) hZ hB hrep
            rw [← HLL.out] at a1 a2 a3
            have HA1 : Hid _ := a1
            have HA2 : Hid _ := a2
            have HA3 : Hid _ := a3
            clear hwf hR hZ hB hrep a1 a2 a3 N hde
            go_upto_region 24 with fail
            rw [← HWF.out]
            obtain ⟨s0, s1, s2, s3, s4, s5⟩ := HRW.out.cells
            rw [← HLL.out] at s4
            obtain ⟨q0, q1, q2, q3, q4, q5⟩ := Row6.cells HZW.out
            have fz := Row6.free HZW.out
            have hl1 := HRW.out.1
            have hl2 := HZW.out.1
            clear r0 r1 r2 r3 r4 r5 fzo lto HRW HZW HWF
            go_wp2
            rw [sets6]
            exact bodyPost_ret (v := .tuple #[.agg #[.int .u8 6, .bool b, .int .i64 n, .string s, .slice ao ll lc, .slice (some ⟨g6, 0, none⟩) (hd.length + 1) cp6], .int .i64 0]) ((results_row_tmp (fn := Tryd.f13) (p := 6) (u := 7) (ty := 26) (by rfl) _ _ (w.heap.size + 1 + 1) 26 _ (0, 0) _ (by rfl) HA1.out Tryd.underlying26 rfl info26).trans (by rfl)) rfl ⟨_, rfl, HA2.out, HA3.out⟩
          · have hde : hd = insF f pp (name, x) := by rw [hhd, HNF.out, List.take_length]
            clear hhd
            have HFIN := RD.fin N.out.rd ⟨HK.out.1, HK.out.2.1, HK.out.2.2.1⟩ (by have := HHL.out; unfold maxLen; omega)
            rw [hde, ← HTN.out] at HFIN
            obtain ⟨hR, hZ, hB, hrep⟩ := HFIN
            obtain ⟨uk, ub, un, us, ua, ul, uc', va, vl, vc', hu⟩ := repA_form hrep
            simp only [Value.agg.injEq, Array.mk.injEq, List.cons.injEq, and_true] at hu
            obtain ⟨_, _, _, _, _, rfl⟩ := hu
            obtain ⟨r0, r1, r2, r3, r4, r5⟩ := N.out.rd.out.cells
            have fzo := N.out.rd.out.free
            have lto := N.out.rd.out.1
            obtain ⟨wf, hwf⟩ : ∃ wf, wf = wr.setCell ⟨G, 5, none⟩ (.slice va vl vc') := ⟨_, rfl⟩
            rw [← hwf] at hR hZ hB hrep
            have HWF : Hid (wf = wr.setCell ⟨G, 5, none⟩ (.slice va vl vc')) := hwf
            have HRW : Hid (Row6 wf G (.int .u8 6) (.bool b) (.int .i64 n) (.string s) (.slice ao l.length lc) (.slice va vl vc')) := hR
            have HZW : Hid (Z6 wf (w.heap.size + 1 + 1)) := hZ
            obtain ⟨a1, a2, a3⟩ := answer_at (by omega) hZ hB hrep
            rw [← HLL.out] at a1 a2 a3
            have HA1 : Hid _ := a1
            have HA2 : Hid _ := a2
            have HA3 : Hid _ := a3
            clear hwf hR hZ hB hrep a1 a2 a3 N hde
            go_upto_region 24 with fail
            rw [← HWF.out]
            obtain ⟨s0, s1, s2, s3, s4, s5⟩ := HRW.out.cells
            rw [← HLL.out] at s4
            obtain ⟨q0, q1, q2, q3, q4, q5⟩ := Row6.cells HZW.out
            have fz := Row6.free HZW.out
            have hl1 := HRW.out.1
            have hl2 := HZW.out.1
            clear r0 r1 r2 r3 r4 r5 fzo lto HRW HZW HWF
            go_wp2
            rw [sets6]
            exact bodyPost_ret (v := .tuple #[.agg #[.int .u8 6, .bool b, .int .i64 n, .string s, .slice ao ll lc, .slice va vl vc'], .int .i64 0]) ((results_row_tmp (fn := Tryd.f13) (p := 6) (u := 7) (ty := 26) (by rfl) _ _ (w.heap.size + 1 + 1) 26 _ (0, 0) _ (by rfl) HA1.out Tryd.underlying26 rfl info26).trans (by rfl)) rfl ⟨_, rfl, HA2.out, HA3.out⟩
set_option maxHeartbeats 4000000 in
set_option maxRecDepth 100000 in
theorem rput13_none (name : ByteArray) (k : Nat) (hk : k ≠ 6) (b : Bool) (n : Int) (s : ByteArray) (ao : Option Addr) (ll lc : Nat) (fo : Option Addr) (fl fc : Nat) (xk : Nat) (xb : Bool) (xn : Int) (xs : ByteArray) (xa : Option Addr) (xl xc : Nat) (xf : Option Addr) (xm xq : Nat) (w : World) :
    Calls Tryd.prog 13 #[.agg #[.int .u8 (k : Int), .bool b, .int .i64 n, .string s, .slice ao ll lc, .slice fo fl fc], .string name, .agg #[.int .u8 (xk : Int), .bool xb, .int .i64 xn, .string xs, .slice xa xl xc, .slice xf xm xq]] w fun e w' => e = .returned (.tuple #[.agg #[.int .u8 0, .bool false, .int .i64 0, .string ⟨#[]⟩, .slice none 0 0, .slice none 0 0], .int .i64 5]) ∧ Below w.heap.size w w' := by
  have j6 : ((k : Int) == 6) = false := by simp; omega
  obtain ⟨w1, hw1, hb1, _, _, hz1, _⟩ := three_new w (.int .u8 (k : Int)) (.bool b) (.int .i64 n) (.string s) (.slice ao ll lc) (.slice fo fl fc) (.int .u8 (xk : Int)) (.bool xb) (.int .i64 xn) (.string xs) (.slice xa xl xc) (.slice xf xm xq)
  have HW1 : Hid (w1 = _) := hw1
  have HB1 : Hid (Below w.heap.size w w1) := hb1
  have HZ1 : Hid (Z6 w1 (w.heap.size + 1 + 1)) := hz1
  clear hw1 hb1 hz1
  go_enter Tryd.func13, Tryd.ntmps13
  go_wp2
  rw [← HW1.out]
  exact bodyPost_ret (v := .tuple #[.agg #[.int .u8 0, .bool false, .int .i64 0, .string ⟨#[]⟩, .slice none 0 0, .slice none 0 0], .int .i64 5]) ((results_row_tmp (fn := Tryd.f13) (p := 6) (u := 7) (ty := 26) (by rfl) _ _ (w.heap.size + 1 + 1) 26 #[.int .u8 0, .bool false, .int .i64 0, .string ⟨#[]⟩, .slice none 0 0, .slice none 0 0] (0, 0) _ (by rfl) HZ1.out.2 Tryd.underlying26 rfl info26).trans (by rfl)) rfl ⟨rfl, HB1.out⟩
end Go.Proofs.YtbogggnnmbjlfaaDoor
