/- Fields in a row of their own, one put among them: what lies there then. -/
import Derived.Test.YtbogggnnmbjlfaaDoorInsert
import Derived.Test.YtbogggnnmbjlfaaDoorPut0
namespace Go.Proofs.YtbogggnnmbjlfaaDoor
open Go.RowKit
open Vl (V)
/-- fields in a row F of their own, all that is behind them in blocks from F up to G -/
def DF (W : World) (F G : Nat) (f : List (ByteArray × V)) : Prop := F < W.heap.size ∧ ∃ C, W.heap[F]? = some (.cells C 39 (0, 0)) ∧ C.size = f.length * 7 ∧
  ∀ (i : Nat) (m : ByteArray) (x : V), f[i]? = some (m, x) → W.cell? ⟨F, i * 7, none⟩ = some (.string m) ∧ ∃ c0 c1 c2 c3 c4 c5, Six W F (i * 7 + 1) c0 c1 c2 c3 c4 c5 ∧ RepA W (fun g => F < g ∧ g < G) x (.agg #[c0, c1, c2, c3, c4, c5])
theorem DF.agree {W W' : World} {F G : Nat} {f : List (ByteArray × V)} (h : DF W F G f) (hFG : F < G) (hb : ∀ g, F ≤ g → g < G → W'.heap[g]? = W.heap[g]?) (hs : W.heap.size ≤ W'.heap.size) : DF W' F G f := by
  obtain ⟨h1, C, h2, h3, h4⟩ := h
  refine ⟨Nat.lt_of_lt_of_le h1 hs, C, (hb _ (Nat.le_refl _) hFG).trans h2, h3, fun i m x hx => ?_⟩
  obtain ⟨a0, c0, c1, c2, c3, c4, c5, a1, a2⟩ := h4 i m x hx
  exact ⟨(cell_block (hb _ (Nat.le_refl _) hFG)).trans a0, c0, c1, c2, c3, c4, c5, a1.block (hb _ (Nat.le_refl _) hFG), repA_stays (fun g hg => hb g (by omega) hg.2) (fun g hg => hg) x _ a2⟩
/-- .. or none -/
def LF (W : World) (M G : Nat) (fo : Option Addr) (fc : Nat) (f : List (ByteArray × V)) : Prop := (f = [] ∧ fo = none ∧ fc = 0) ∨ (0 < f.length ∧ ∃ F, fo = some ⟨F, 0, none⟩ ∧ fc = f.length ∧ M ≤ F ∧ F < G ∧ DF W F G f)
theorem LF.of {W : World} {M : Nat} {fo : Option Addr} {fc : Nat} {f : List (ByteArray × V)} (h : LiesFA W M fo fc f) : LF W M W.heap.size fo fc f := by
  rcases h with h | ⟨h0, F, h1, h2, h3, h4, C, h5, h6, h7⟩
  · exact Or.inl h
  · exact Or.inr ⟨h0, F, h1, h2, h3, h4, h4, C, h5, h6, fun i m x hx => h7 i m x (List.getElem?_eq_some_iff.1 hx).1 hx⟩
theorem LF.agree {W W' : World} {M G : Nat} {fo : Option Addr} {fc : Nat} {f : List (ByteArray × V)} (h : LF W M G fo fc f) (hb : ∀ g, M ≤ g → g < G → W'.heap[g]? = W.heap[g]?) (hs : W.heap.size ≤ W'.heap.size) : LF W' M G fo fc f := by
  rcases h with h | ⟨h0, F, h1, h2, h3, h4, h5⟩
  · exact Or.inl h
  · exact Or.inr ⟨h0, F, h1, h2, h3, h4, h5.agree h4 (fun g hg => hb g (by omega)) hs⟩
theorem DF.repFA {W : World} {F G : Nat} {f : List (ByteArray × V)} (h : DF W F G f) (hm : ∀ a ∈ f, a.1.size ≤ maxLen) : RepFA W (fun g => F < g ∧ g < G) F 0 f := by
  obtain ⟨h1, C, h2, h3, h4⟩ := h
  refine repFA_mk f 0 fun j m x hx => ?_
  obtain ⟨a0, c0, c1, c2, c3, c4, c5, a1, a2⟩ := h4 j m x hx
  rw [Nat.zero_add]
  exact ⟨a0, hm (m, x) (List.mem_of_getElem? hx), c0, c1, c2, c3, c4, c5, a1, a2⟩
theorem LF.lies {W : World} {M G : Nat} {fo : Option Addr} {fc : Nat} {f : List (ByteArray × V)} (h : LF W M G fo fc f) (hl : f.length ≤ maxLen) (hm : ∀ a ∈ f, a.1.size ≤ maxLen) : LiesF W G fo f := by
  refine ⟨hl, fun hp => ?_⟩
  rcases h with ⟨e, _⟩ | ⟨h0, F, h1, h2, h3, h4, h5⟩
  · rw [e] at hp; simp at hp
  · exact ⟨F, 0, h1, h4, repFA_rep (fun g hg => hg.2) f 0 (h5.repFA hm)⟩
/-- the cells of fields, one put among them -/
theorem DF.cells {W : World} {F G : Nat} {f : List (ByteArray × V)} (h : DF W F G f) : ∃ cs : List Value, cs.length = f.length * 7 ∧ (∀ j v, cs[j]? = some v → W.cell? ⟨F, j, none⟩ = some v) ∧ (∀ j v, W.cell? ⟨F, j, none⟩ = some v → cs[j]? = some v) ∧ ∀ v ∈ cs, v.oneCell' = true := by
  obtain ⟨h1, C, h2, h3, h4⟩ := h
  have hc : ∀ j, W.cell? ⟨F, j, none⟩ = C.toList[j]? := fun j => by rw [cell_of_row _ _ _ _ _ _ h2, Array.getElem?_toList]
  refine ⟨C.toList, by simpa using h3, fun j v hv => by rw [hc]; exact hv, fun j v hv => by rw [hc] at hv; exact hv, fun v hv => ?_⟩
  obtain ⟨q, hq⟩ := List.getElem?_of_mem hv
  have hql : q < f.length * 7 := by have := (List.getElem?_eq_some_iff.1 hq).1; simp at this; omega
  obtain ⟨⟨m, x⟩, hx⟩ : ∃ a, f[q / 7]? = some a := ⟨_, List.getElem?_eq_getElem (by omega)⟩
  obtain ⟨a0, c0, c1, c2, c3, c4, c5, ⟨d0, d1, d2, d3, d4, d5⟩, a2⟩ := h4 _ m x hx
  obtain ⟨xk, xb, xn, xs, xa, xl, xc, ya, yl, yc, hf⟩ := repA_form a2
  simp only [Value.agg.injEq, Array.mk.injEq, List.cons.injEq, and_true] at hf
  obtain ⟨rfl, rfl, rfl, rfl, rfl, rfl⟩ := hf
  rw [← hc] at hq
  have hm : q % 7 = 0 ∨ q % 7 = 1 ∨ q % 7 = 2 ∨ q % 7 = 3 ∨ q % 7 = 4 ∨ q % 7 = 5 ∨ q % 7 = 6 := by omega
  have key : ∀ (r : Nat) (u : Value), W.cell? ⟨F, r, none⟩ = some u → r = q → u.oneCell' = true → v.oneCell' = true := fun r u hr e ho => by
    subst e; rw [hr] at hq; cases hq; exact ho
  rcases hm with e | e | e | e | e | e | e
  · exact key _ _ a0 (by omega) rfl
  · exact key _ _ d0 (by omega) rfl
  · exact key _ _ d1 (by omega) rfl
  · exact key _ _ d2 (by omega) rfl
  · exact key _ _ d3 (by omega) rfl
  · exact key _ _ d4 (by omega) rfl
  · exact key _ _ d5 (by omega) rfl
set_option maxHeartbeats 4000000 in
set_option maxRecDepth 100000 in
theorem insert39_end (F n g : Nat) (cs vs : List Value) (w : World) (hn : 0 < n) (hbig : (n + 1) * 96 ≤ 140737488355328) (hcl : cs.length = n * 7) (hvl : vs.length = 7)
    (hcs : ∀ j v, cs[j]? = some v → w.cell? ⟨F, j, none⟩ = some v)
    (hvs : ∀ j v, vs[j]? = some v → w.cell? ⟨g, j, none⟩ = some v) (h1v : ∀ v ∈ vs, v.oneCell' = true) :
    Calls Tryd.prog 37 #[.slice (some ⟨F, 0, none⟩) n n, .int .i64 (n : Int), .slice (some ⟨g, 0, none⟩) 1 1] w fun e w' => ∃ v', e = .returned v' ∧ w'.ownsRow w.heap.size 39 7 v' (n + 1) (cs ++ vs) ∧ w.grownBy w' none := by
  obtain ⟨i0, hi, hz0, hz1, hz2⟩ := info_parts info44'
  have hadd : Hid (∀ (j : Nat) (u : Value), vs[j]? = some u → w.cell? ((⟨g, 0, none⟩ : Addr).add j) = some u) := fun j u hu => by rw [Addr.add_lit, Nat.zero_add]; exact hvs j u hu
  have hold : Hid (∀ (b : Addr), some ⟨F, 0, none⟩ = some b → ∀ (j : Nat) (u : Value), cs[j]? = some u → w.cell? (b.add j) = some u) := fun b hb j u hu => by cases hb; rw [Addr.add_lit, Nat.zero_add]; exact hcs j u hu
  have H1V : Hid (∀ v ∈ vs, v.oneCell' = true) := h1v
  have hn9 : n ≤ 9223372036854775807 := by omega
  have HBG : Hid ((n + 1) * 96 ≤ 140737488355328) := hbig
  have HCL : Hid (cs.length = n * 7) := hcl
  have HVL : Hid (vs.length = 7) := hvl
  clear hcs hvs h1v hbig hcl hvl
  go_enter Tryd.func37, Tryd.ntmps37
  go_wp2_with (first | (at_builtin; refine wpList_append_grows _ rfl _ _ 24 rfl 39 i0 _ 7 96 Tryd.underlying24 hi hz0 hz1 hz2 rfl (by decide) (some ⟨F, 0, none⟩) n n cs rfl (fun h => by cases h) HCL.out hold.out ⟨g, 0, none⟩ 1 1 vs rfl (by rw [HVL.out]) hadd.out H1V.out (by omega) ?c2 HBG.out ?_))
  case c2 => have h1 := HBG.out; unfold maxLen; omega
  · intro v' w1 hown hgrow
    have HO : Hid (w1.ownsRow w.heap.size 39 7 v' (n + 1) (cs ++ vs)) := hown
    have HG : Hid (w.grownBy w1 none) := hgrow
    clear hown hgrow
    go_wp2
    exact ⟨rfl, _, results_tmp (by rfl) _ _ _, v', rfl, HO.out, HG.out⟩
/-- a row that was laid, its cells known -/
theorem own_cells {w : World} {B n : Nat} {v : Value} {L : List Value} (hn : 0 < n) (hL : L.length = n * 7) (h : w.ownsRow B 39 7 v n L) : ∃ g cap, v = .slice (some ⟨g, 0, none⟩) n cap ∧ B ≤ g ∧ g < w.heap.size ∧ ∀ (j : Nat) (u : Value), L[j]? = some u → w.cell? ⟨g, j, none⟩ = some u := by
  rcases h.2 with ⟨_, h1⟩ | ⟨g, cap, cur, rfl, hb, hrow, _, _, _, htk⟩
  · omega
  · refine ⟨g, cap, rfl, hb, ?_, fun j u hu => ?_⟩
    · exact (Array.getElem?_eq_some_iff.1 hrow).1
    · rw [cell_of_row _ _ _ _ _ _ hrow]
      have hj : j < n * 7 := by have := (List.getElem?_eq_some_iff.1 hu).1; omega
      rw [← htk, List.getElem?_take_of_lt (by omega), Array.getElem?_toList] at hu
      exact hu
theorem own_free {w : World} {B n m c g : Nat} {L : List Value} (h : w.ownsRow B 39 7 (.slice (some ⟨g, 0, none⟩) m c) n L) : ∀ r, w.frozen? ⟨g, r, none⟩ = false := by
  rcases h.2 with ⟨h1, _⟩ | ⟨g', cap, cur, e, hb, hrow, _⟩
  · cases h1
  · cases e
    exact row_free hrow
/-- Insert of one field at a place among fields: a new row, the cells put among the others -/
theorem insert39 (F n i g : Nat) (cs vs : List Value) (w : World) (hn : 0 < n) (hi : i ≤ n) (hbig : (n + 1) * 96 ≤ 140737488355328)
    (hcl : cs.length = n * 7) (hvl : vs.length = 7)
    (hcs : ∀ j v, cs[j]? = some v → w.cell? ⟨F, j, none⟩ = some v)
    (hvs : ∀ j v, vs[j]? = some v → w.cell? ⟨g, j, none⟩ = some v) (h1c : ∀ v ∈ cs, v.oneCell' = true) (h1v : ∀ v ∈ vs, v.oneCell' = true) :
    Calls Tryd.prog 37 #[.slice (some ⟨F, 0, none⟩) n n, .int .i64 (i : Int), .slice (some ⟨g, 0, none⟩) 1 1] w fun e w' =>
      ∃ g' cap, e = .returned (.slice (some ⟨g', 0, none⟩) (n + 1) cap) ∧ w.heap.size ≤ g' ∧ (g' < w'.heap.size ∧ ∀ r, w'.frozen? ⟨g', r, none⟩ = false) ∧ Below w.heap.size w w' ∧
        ∀ j u, (cs.take (i * 7) ++ (vs ++ cs.drop (i * 7)))[j]? = some u → w'.cell? ⟨g', j, none⟩ = some u := by
  by_cases hin : i = n
  · subst hin
    refine (insert39_end F i g cs vs w hn hbig hcl hvl hcs hvs h1v).mono ?_
    rintro e w' ⟨v', rfl, hown, hgrow⟩
    obtain ⟨g', cap, rfl, hb, hl, hc⟩ := own_cells (by omega) (by rw [List.length_append]; omega) hown
    refine ⟨g', cap, rfl, hb, ⟨hl, own_free hown⟩, (Below.refl _ _).grown hgrow (Nat.le_refl _) (fun k hk => by cases hk), fun j u hu => hc j u ?_⟩
    rw [← hcl, List.take_length, List.drop_length, List.append_nil] at hu
    exact hu
  · refine (insert39_mid F n i g cs vs w (by omega) hbig hcl hvl hcs hvs h1c h1v).mono ?_
    rintro e w' ⟨cap, ROW, rfl, hR, hT, rfl⟩
    have hrow0 : ((w.alloc (.cells ROW 39)).drew).heap[w.heap.size]? = some (.cells ROW 39 (0, 0)) := heap_alloc_new w _
    have hrow1 := heap_setCells_put w.heap.size 39 vs (i * 7) _ ROW hrow0
    have hrow2 : (((w.alloc (.cells ROW 39)).drew.setCells w.heap.size (i * 7) vs).drew).heap[w.heap.size]? = some (.cells (putAll ROW (i * 7) vs) 39 (0, 0)) := hrow1
    have hrow3 := heap_setCells_put w.heap.size 39 (cs.drop (i * 7)) (i * 7 + 7) _ _ hrow2
    have hB0 : Below w.heap.size w ((w.alloc (.cells ROW 39)).drew) := (below_new _ _).drew
    have hB1 : Below w.heap.size w (((w.alloc (.cells ROW 39)).drew.setCells w.heap.size (i * 7) vs).drew) := (below_setCells (Nat.le_refl _) _ _ hB0).drew
    have hB2 := below_setCells (Nat.le_refl w.heap.size) (cs.drop (i * 7)) (i * 7 + 7) hB1
    refine ⟨w.heap.size, cap, rfl, Nat.le_refl _, ⟨(Array.getElem?_eq_some_iff.1 hrow3).1, row_free hrow3⟩, hB2, fun j u hu => ?_⟩
    rw [cell_of_row _ _ _ _ _ _ hrow3]
    have hdl : (cs.drop (i * 7)).length = (n - i) * 7 := by rw [List.length_drop, hcl]; omega
    have htl : (cs.take (i * 7)).length = i * 7 := by rw [List.length_take, hcl]; omega
    by_cases hj : j < i * 7
    · rw [putAll_other _ _ _ _ (Or.inl (by omega)), putAll_other _ _ _ _ (Or.inl (by omega)), hT j hj]
      rw [List.getElem?_append_left (by omega), List.getElem?_take_of_lt hj] at hu
      exact hu
    · rw [List.getElem?_append_right (by omega), htl] at hu
      by_cases hj2 : j < i * 7 + 7
      · rw [putAll_other _ _ _ _ (Or.inl (by omega))]
        rw [List.getElem?_append_left (by omega)] at hu
        have := putAll_at vs ROW (i * 7) (j - i * 7) u (by omega) hu
        rwa [show i * 7 + (j - i * 7) = j by omega] at this
      · rw [List.getElem?_append_right (by omega), hvl] at hu
        have := putAll_at (cs.drop (i * 7)) (putAll ROW (i * 7) vs) (i * 7 + 7) (j - i * 7 - 7) u (by rw [putAll_size, hdl]; omega) hu
        rwa [show i * 7 + 7 + (j - i * 7 - 7) = j by omega] at this
/-- the fields, one put among them -/
def insF (f : List (ByteArray × V)) (i : Nat) (a : ByteArray × V) : List (ByteArray × V) := f.take i ++ a :: f.drop i
theorem insF_at (f : List (ByteArray × V)) (i : Nat) (hi : i ≤ f.length) (a : ByteArray × V) (j : Nat) : (insF f i a)[j]? = if j < i then f[j]? else if j = i then some a else f[j - 1]? := by
  have ht : (f.take i).length = i := by rw [List.length_take]; omega
  rw [insF]
  by_cases h1 : j < i
  · rw [if_pos h1, List.getElem?_append_left (by omega), List.getElem?_take_of_lt h1]
  · rw [if_neg h1, List.getElem?_append_right (by omega), ht]
    by_cases h2 : j = i
    · subst h2
      rw [if_pos rfl, Nat.sub_self]
      rfl
    · rw [if_neg h2]
      obtain ⟨q, hq⟩ : ∃ q, j - i = q + 1 := ⟨j - i - 1, by omega⟩
      rw [hq, List.getElem?_cons_succ, List.getElem?_drop, show i + q = j - 1 by omega]
theorem insF_length (f : List (ByteArray × V)) (i : Nat) (a : ByteArray × V) : (insF f i a).length = f.length + 1 := by
  rw [insF, List.length_append, List.length_cons, List.length_take, List.length_drop]
  omega
/-- what the cells make of it -/
theorem insF_lies {W W' : World} {F G g' i : Nat} {f : List (ByteArray × V)} {cs : List Value} (hD : DF W F G f) (hG : G ≤ W.heap.size) (hB : Below W.heap.size W W') (hi : i ≤ f.length) (hm : ∀ a ∈ f, a.1.size ≤ maxLen)
    (hcl : cs.length = f.length * 7) (hcs : ∀ j v, W.cell? ⟨F, j, none⟩ = some v → cs[j]? = some v)
    {name : ByteArray} (hn : name.size ≤ maxLen) {x : V} {z0 z1 z2 z3 z4 z5 : Value} {A : Nat → Prop} (hA : ∀ g, A g → g < W.heap.size) (hAF : ∀ g, F < g → g < G → A g) (hx : RepA W A x (.agg #[z0, z1, z2, z3, z4, z5]))
    (hc : ∀ j u, (cs.take (i * 7) ++ ([.string name, z0, z1, z2, z3, z4, z5] ++ cs.drop (i * 7)))[j]? = some u → W'.cell? ⟨g', j, none⟩ = some u) :
    RepFA W' A g' 0 (insF f i (name, x)) := by
  have htl : (cs.take (i * 7)).length = i * 7 := by rw [List.length_take, hcl]; omega
  have lo : ∀ q u, q < i * 7 → W.cell? ⟨F, q, none⟩ = some u → W'.cell? ⟨g', q, none⟩ = some u := fun q u hq hu => hc q u (by
    rw [List.getElem?_append_left (by omega), List.getElem?_take_of_lt hq]; exact hcs q u hu)
  have mid : ∀ r u, r < 7 → [.string name, z0, z1, z2, z3, z4, z5][r]? = some u → W'.cell? ⟨g', i * 7 + r, none⟩ = some u := fun r u hr hu => hc _ u (by
    rw [List.getElem?_append_right (by omega), htl, Nat.add_sub_cancel_left, List.getElem?_append_left (by simpa using hr)]; exact hu)
  have hi' : ∀ q u, i * 7 ≤ q → W.cell? ⟨F, q, none⟩ = some u → W'.cell? ⟨g', q + 7, none⟩ = some u := fun q u hq hu => hc _ u (by
    rw [List.getElem?_append_right (by omega), htl, List.getElem?_append_right (by simp; omega), List.getElem?_drop]
    rw [show i * 7 + (q + 7 - i * 7 - [Value.string name, z0, z1, z2, z3, z4, z5].length) = q by simp; omega]
    exact hcs q u hu)
  obtain ⟨_, C, h2, h3, h4⟩ := hD
  have old : ∀ y v, RepA W (fun g => F < g ∧ g < G) y v → RepA W' A y v := fun y v hr => repA_stays (fun g hg => hB.block g (by omega)) (fun g hg => hAF g hg.1 hg.2) y v hr
  refine repFA_mk _ 0 fun j m y hj => ?_
  rw [insF_at f i hi] at hj
  rw [Nat.zero_add]
  by_cases h1 : j < i
  · rw [if_pos h1] at hj
    obtain ⟨a0, c0, c1, c2, c3, c4, c5, ⟨d0, d1, d2, d3, d4, d5⟩, a2⟩ := h4 j m y hj
    exact ⟨lo _ _ (by omega) a0, hm (m, y) (List.mem_of_getElem? hj), c0, c1, c2, c3, c4, c5, ⟨lo _ _ (by omega) d0, lo _ _ (by omega) d1, lo _ _ (by omega) d2, lo _ _ (by omega) d3, lo _ _ (by omega) d4, lo _ _ (by omega) d5⟩, old y _ a2⟩
  · rw [if_neg h1] at hj
    by_cases h5 : j = i
    · subst h5
      rw [if_pos rfl] at hj
      cases hj
      exact ⟨mid 0 _ (by omega) rfl, hn, z0, z1, z2, z3, z4, z5, ⟨mid 1 _ (by omega) rfl, mid 2 _ (by omega) rfl, mid 3 _ (by omega) rfl, mid 4 _ (by omega) rfl, mid 5 _ (by omega) rfl, mid 6 _ (by omega) rfl⟩, repA_stays (fun g hg => hB.block g (hA g hg)) (fun g hg => hg) _ _ hx⟩
    · rw [if_neg h5] at hj
      obtain ⟨a0, c0, c1, c2, c3, c4, c5, ⟨d0, d1, d2, d3, d4, d5⟩, a2⟩ := h4 (j - 1) m y hj
      have e : ∀ r, r < 7 → (j - 1) * 7 + r + 7 = j * 7 + r := fun r _ => by omega
      have k0 := hi' _ _ (by omega) a0
      have k1 := hi' _ _ (by omega) d0
      have k2 := hi' _ _ (by omega) d1
      have k3 := hi' _ _ (by omega) d2
      have k4 := hi' _ _ (by omega) d3
      have k5 := hi' _ _ (by omega) d4
      have k6 := hi' _ _ (by omega) d5
      rw [show (j - 1) * 7 + 7 = j * 7 by omega] at k0
      rw [show (j - 1) * 7 + 1 + 7 = j * 7 + 1 by omega] at k1
      rw [show (j - 1) * 7 + 1 + 1 + 7 = j * 7 + 1 + 1 by omega] at k2
      rw [show (j - 1) * 7 + 1 + 2 + 7 = j * 7 + 1 + 2 by omega] at k3
      rw [show (j - 1) * 7 + 1 + 3 + 7 = j * 7 + 1 + 3 by omega] at k4
      rw [show (j - 1) * 7 + 1 + 4 + 7 = j * 7 + 1 + 4 by omega] at k5
      rw [show (j - 1) * 7 + 1 + 5 + 7 = j * 7 + 1 + 5 by omega] at k6
      exact ⟨k0, hm (m, y) (List.mem_of_getElem? hj), c0, c1, c2, c3, c4, c5, ⟨k1, k2, k3, k4, k5, k6⟩, old y _ a2⟩
end Go.Proofs.YtbogggnnmbjlfaaDoor
