/- Put's own variables, and what it has made ahead of its answer. -/
import Derived.Test.YtbogggnnmbjlfaaDoorPutM
namespace Go.Proofs.YtbogggnnmbjlfaaDoor
open Go.RowKit
open Vl (V)
/-- where Put's own variables lie: the name, x, the answer, the clone -/
structure PG (w W : World) (M G : Nat) (name : ByteArray) (x0 x1 x2 x3 x4 x5 : Value) (b : Bool) (n : Int) (s : ByteArray) (l : List V) (f : List (ByteArray × V)) (ao : Option Addr) (lc : Nat) (fo : Option Addr) (fc : Nat) : Prop where
  below : Below w.heap.size w W
  name : W.cell? ⟨w.heap.size + 1, 0, none⟩ = some (.string name)
  x : Row6 W (w.heap.size + 1 + 1) x0 x1 x2 x3 x4 x5
  res : Z6 W (w.heap.size + 1 + 1 + 1)
  out : Row6 W G (.int .u8 6) (.bool b) (.int .i64 n) (.string s) (.slice ao l.length lc) (.slice fo f.length fc)
  late : w.heap.size + 4 ≤ M
  le : M ≤ G
  li : LiesLA W (fun g => w.heap.size + 4 ≤ g ∧ g < M) ao lc l
  fi : LF W M G fo fc f
section
variable {w W W' : World} {M G : Nat} {name : ByteArray} {x0 x1 x2 x3 x4 x5 : Value} {b : Bool} {n : Int} {s : ByteArray} {l : List V} {f : List (ByteArray × V)} {ao : Option Addr} {lc : Nat} {fo : Option Addr} {fc : Nat}
theorem PG.call (h : PG w W M G name x0 x1 x2 x3 x4 x5 b n s l f ao lc fo fc) (hb : Below W.heap.size W W') : PG w W' M G name x0 x1 x2 x3 x4 x5 b n s l f ao lc fo fc := by
  have hG := h.out.1
  have hM := h.le
  exact ⟨h.below.trans (hb.mono h.below.size), (hb.cell (p := ⟨w.heap.size + 1, 0, none⟩) (by have := h.x.1; show w.heap.size + 1 < _; omega)).trans h.name, h.x.call hb, h.res.call hb, h.out.call hb, h.late, h.le,
    h.li.stays (fun g hg => hb.block g (by omega)) (fun g hg => hg), h.fi.agree (fun g _ hg => hb.block g (by omega)) hb.size⟩
theorem PG.name_lt (h : PG w W M G name x0 x1 x2 x3 x4 x5 b n s l f ao lc fo fc) : w.heap.size + 1 < W.heap.size := by have := h.x.1; omega
/-- a slice's row may be written -/
def FreeC (W : World) (c : Value) : Prop := ∀ (a : Addr) (n k : Nat), c = .slice (some a) n k → ∀ r, W.frozen? ⟨a.block, r, none⟩ = false
/-- what was made: the struct lies whole -/
def PD (w W : World) (G : Nat) (t : V) : Prop :=
  ∃ c0 c1 c2 c3 c4 c5, (Row6 W G c0 c1 c2 c3 c4 c5 ∧ FreeC W c5) ∧ Z6 W (w.heap.size + 1 + 1 + 1) ∧ Below w.heap.size w W ∧ w.heap.size + 1 + 1 + 1 < G ∧
    RepA W (fun g => w.heap.size + 1 + 1 + 1 < g ∧ g < W.heap.size) t (.agg #[c0, c1, c2, c3, c4, c5])
/-- the field was put among the others in a new row -/
theorem PD.ins (hS : PG w W M G name x0 x1 x2 x3 x4 x5 b n s l f ao lc fo fc) (hl : l.length ≤ maxLen) (hf : f.length < maxLen) (hk : (-9223372036854775808 ≤ n ∧ n < 9223372036854775808) ∧ s.size ≤ maxLen)
    {g' cap i : Nat} {x : V} (hg1 : G < g') (hg2 : g' < W.heap.size ∧ ∀ r, W.frozen? ⟨g', r, none⟩ = false)
    (hF : RepFA W (fun g => w.heap.size + 1 + 1 + 1 < g ∧ g ≠ G ∧ g < W.heap.size) g' 0 (insF f i (name, x))) :
    PD w (W.setCell ⟨G, 5, none⟩ (.slice (some ⟨g', 0, none⟩) (f.length + 1) cap)) G ⟨6, b, n, s, l, insF f i (name, x)⟩ := by
  have h1 := hS.late
  have h2 := hS.le
  have h3 := hS.out.1
  have hsz : (W.setCell ⟨G, 5, none⟩ (.slice (some ⟨g', 0, none⟩) (f.length + 1) cap)).heap.size = W.heap.size := by simp
  have e : ∀ k, k ≠ G → (W.setCell ⟨G, 5, none⟩ (.slice (some ⟨g', 0, none⟩) (f.length + 1) cap)).heap[k]? = W.heap[k]? := fun k hk => heap_setCell_other _ _ _ _ hk
  refine ⟨_, _, _, _, _, _, ⟨hS.out.set5, fun a n k e r => by cases e; rw [World.frozen?_setCell]; exact hg2.2 r⟩, hS.res.other _ _ _ (by omega), hS.below.setCell (p := ⟨G, 5, none⟩) (by show w.heap.size ≤ G; omega) _, by omega, ?_⟩
  rw [RepA]
  refine ⟨ao, lc, some ⟨g', 0, none⟩, cap, by rw [insF_length]; rfl, by omega, hk.1, hk.2, hl, by rw [insF_length]; omega, fun hp => ?_, fun _ => ⟨g', 0, rfl, ⟨by omega, by rw [hsz]; exact hg2.1⟩, ?_⟩⟩
  · rcases hS.li with ⟨e1, _⟩ | ⟨_, q, e1, _, e3, e4⟩
    · rw [e1] at hp; simp at hp
    · exact ⟨q, 0, e1, ⟨by omega, by rw [hsz]; omega⟩, repLA_stays (fun k hk => e k (by omega)) (fun k hk => ⟨by omega, by rw [hsz]; omega⟩) (e q (by omega)) l 0 e4⟩
  · exact repFA_stays (fun k hk => e k hk.2.1) (fun k hk => ⟨hk.1, by rw [hsz]; exact hk.2.2⟩) (e g' (by omega)) _ 0 hF
/-- a field's value was laid anew -/
theorem PD.set (hS : PG w W M G name x0 x1 x2 x3 x4 x5 b n s l f ao lc fo fc) (hl : l.length ≤ maxLen) (hf : f.length ≤ maxLen) (hm : ∀ a ∈ f, a.1.size ≤ maxLen) (hk : (-9223372036854775808 ≤ n ∧ n < 9223372036854775808) ∧ s.size ≤ maxLen)
    {F i : Nat} (hfo : fo = some ⟨F, 0, none⟩) {m : ByteArray} {y x : V} (hi : f[i]? = some (m, y)) {z0 z1 z2 z3 z4 z5 : Value} (hx : RepA W (fun g => G < g ∧ g < W.heap.size) x (.agg #[z0, z1, z2, z3, z4, z5])) :
    PD w (W.setCells F (i * 7 + 1) [z0, z1, z2, z3, z4, z5]) G ⟨6, b, n, s, l, f.set i (m, x)⟩ := by
  have h1 := hS.late
  have h2 := hS.le
  have h3 := hS.out.1
  have hil : i < f.length := (List.getElem?_eq_some_iff.1 hi).1
  obtain ⟨F', hF', hfc, hMF, hFG, hD⟩ : ∃ F', fo = some ⟨F', 0, none⟩ ∧ fc = f.length ∧ M ≤ F' ∧ F' < G ∧ DF W F' G f := by
    rcases hS.fi with ⟨e, _⟩ | ⟨_, h⟩
    · rw [e] at hil; simp at hil
    · exact h
  rw [hfo] at hF'
  cases hF'
  obtain ⟨hF1, C, hC1, hC2, hC3⟩ := hD
  have hrow := heap_setCells_put F 39 [z0, z1, z2, z3, z4, z5] (i * 7 + 1) W C hC1
  have hsz : (W.setCells F (i * 7 + 1) [z0, z1, z2, z3, z4, z5]).heap.size = W.heap.size := size_setCells' _ _ _ _
  have e : ∀ k, k ≠ F → (W.setCells F (i * 7 + 1) [z0, z1, z2, z3, z4, z5]).heap[k]? = W.heap[k]? := fun k hk => heap_setCells_ne F k hk _ _ _
  have oth : ∀ q, q < i * 7 + 1 ∨ i * 7 + 7 ≤ q → (W.setCells F (i * 7 + 1) [z0, z1, z2, z3, z4, z5]).cell? ⟨F, q, none⟩ = W.cell? ⟨F, q, none⟩ := fun q hq => by
    rw [cell_of_row _ _ _ _ _ _ hrow, cell_of_row _ _ _ _ _ _ hC1]
    exact putAll_other _ _ _ _ (by simp only [List.length_cons, List.length_nil]; omega)
  have new : ∀ (r : Nat) (v : Value), [z0, z1, z2, z3, z4, z5][r]? = some v → (W.setCells F (i * 7 + 1) [z0, z1, z2, z3, z4, z5]).cell? ⟨F, i * 7 + 1 + r, none⟩ = some v := fun r v hv => by
    rw [cell_of_row _ _ _ _ _ _ hrow]
    exact putAll_at _ _ _ r v (by rw [hC2]; simp only [List.length_cons, List.length_nil]; omega) hv
  have hout : Row6 (W.setCells F (i * 7 + 1) [z0, z1, z2, z3, z4, z5]) G (.int .u8 6) (.bool b) (.int .i64 n) (.string s) (.slice ao l.length lc) (.slice (some ⟨F, 0, none⟩) f.length fc) := ⟨by rw [hsz]; exact h3, (e G (by omega)).trans (by rw [← hfo]; exact hS.out.2)⟩
  have hres : Z6 (W.setCells F (i * 7 + 1) [z0, z1, z2, z3, z4, z5]) (w.heap.size + 1 + 1 + 1) := ⟨by rw [hsz]; exact hS.res.1, (e _ (by omega)).trans hS.res.2⟩
  refine ⟨_, _, _, _, _, _, ⟨hout, fun a n k e r => by cases e; rw [World.frozen?_setCells]; exact row_free hC1 r⟩, hres, below_setCells (by omega) _ _ hS.below, by omega, ?_⟩
  rw [RepA]
  refine ⟨ao, lc, some ⟨F, 0, none⟩, fc, by rw [List.length_set]; rfl, by omega, hk.1, hk.2, hl, by rw [List.length_set]; exact hf, fun hp => ?_, fun _ => ⟨F, 0, rfl, ⟨by omega, by rw [hsz]; exact hF1⟩, ?_⟩⟩
  · rcases hS.li with ⟨e1, _⟩ | ⟨_, q, e1, _, e3, e4⟩
    · rw [e1] at hp; simp at hp
    · exact ⟨q, 0, e1, ⟨by omega, by rw [hsz]; omega⟩, repLA_stays (fun k hk => e k (by omega)) (fun k hk => ⟨by omega, by rw [hsz]; omega⟩) (e q (by omega)) l 0 e4⟩
  · refine repFA_mk _ 0 fun j p v hj => ?_
    rw [Nat.zero_add]
    by_cases hij : j = i
    · subst hij
      rw [List.getElem?_set_self hil] at hj
      cases hj
      obtain ⟨a0, _⟩ := hC3 j m y hi
      refine ⟨(oth _ (Or.inl (by omega))).trans a0, hm (m, y) (List.mem_of_getElem? hi), z0, z1, z2, z3, z4, z5, ⟨new 0 _ rfl, new 1 _ rfl, new 2 _ rfl, new 3 _ rfl, new 4 _ rfl, new 5 _ rfl⟩, ?_⟩
      exact repA_stays (fun k hk => e k (by omega)) (fun k hk => ⟨by omega, by rw [hsz]; exact hk.2⟩) _ _ hx
    · rw [List.getElem?_set_ne (fun h => hij h.symm)] at hj
      obtain ⟨a0, c0, c1, c2, c3, c4, c5, ⟨d0, d1, d2, d3, d4, d5⟩, a2⟩ := hC3 j p v hj
      refine ⟨(oth _ (by omega)).trans a0, hm (p, v) (List.mem_of_getElem? hj), c0, c1, c2, c3, c4, c5, ⟨(oth _ (by omega)).trans d0, (oth _ (by omega)).trans d1, (oth _ (by omega)).trans d2, (oth _ (by omega)).trans d3, (oth _ (by omega)).trans d4, (oth _ (by omega)).trans d5⟩, ?_⟩
      exact repA_stays (fun k hk => e k (by omega)) (fun k hk => ⟨by omega, by rw [hsz]; omega⟩) _ _ a2
/-- Insert of the field at its place -/
theorem PG.insert (hS : PG w W M G name x0 x1 x2 x3 x4 x5 b n s l f ao lc fo fc) (hbig : (f.length + 1) * 96 ≤ 140737488355328) (hm : ∀ a ∈ f, a.1.size ≤ maxLen) (hn : name.size ≤ maxLen) {i : Nat} (hi : i ≤ f.length)
    {g zk : Nat} {zb : Bool} {zn : Int} {zs : ByteArray} {za : Option Addr} {zl zc : Nat} {ta : Option Addr} {tl tc : Nat} (hR : Row7 W g (.string name) (.int .u8 (zk : Int)) (.bool zb) (.int .i64 zn) (.string zs) (.slice za zl zc) (.slice ta tl tc))
    {x : V} (hx : RepA W (fun q => w.heap.size + 1 + 1 + 1 < q ∧ q ≠ G ∧ q < W.heap.size) x (.agg #[.int .u8 (zk : Int), .bool zb, .int .i64 zn, .string zs, .slice za zl zc, .slice ta tl tc])) :
    Calls Tryd.prog 37 #[.slice fo f.length fc, .int .i64 (i : Int), .slice (some ⟨g, 0, none⟩) 1 1] W fun e w' => ∃ g' cap, e = .returned (.slice (some ⟨g', 0, none⟩) (f.length + 1) cap) ∧ Below W.heap.size W w' ∧ W.heap.size ≤ g' ∧ (g' < w'.heap.size ∧ ∀ r, w'.frozen? ⟨g', r, none⟩ = false) ∧
      RepFA w' (fun q => w.heap.size + 1 + 1 + 1 < q ∧ q ≠ G ∧ q < w'.heap.size) g' 0 (insF f i (name, x)) := by
  have h1 := hS.late
  have h2 := hS.le
  have h3 := hS.out.1
  have hvs : ∀ j v, [.string name, .int .u8 (zk : Int), .bool zb, .int .i64 zn, .string zs, .slice za zl zc, .slice ta tl tc][j]? = some v → W.cell? ⟨g, j, none⟩ = some v := fun j v hv => by
    rw [cell_of_row _ _ _ _ _ _ hR.2, ← hv]; simp
  have h1v : ∀ v ∈ [Value.string name, .int .u8 (zk : Int), .bool zb, .int .i64 zn, .string zs, .slice za zl zc, .slice ta tl tc], v.oneCell' = true := fun v hv => by
    simp only [List.mem_cons, List.not_mem_nil, or_false] at hv
    rcases hv with rfl | rfl | rfl | rfl | rfl | rfl | rfl <;> rfl
  rcases hS.fi with ⟨e1, e2, e3⟩ | ⟨h0, F, e2, e3, hMF, hFG, hD⟩
  · subst e1 e2 e3
    have hi0 : i = 0 := by simpa using hi
    subst hi0
    refine (insert39_nil name zk zb zn zs za zl zc ta tl tc g W hR).mono ?_
    rintro e w' ⟨v', rfl, hown, hgrow⟩
    obtain ⟨g', cap, rfl, hgb, hg', hcl⟩ := own_one rfl hown
    have hB : Below W.heap.size W w' := (Below.refl _ _).grown hgrow (Nat.le_refl _) (fun k hk => by cases hk)
    refine ⟨g', cap, rfl, hB, hgb, ⟨hg', own_free hown⟩, ?_⟩
    show RepFA _ _ _ _ [(name, x)]
    rw [RepFA, RepFA]
    exact ⟨⟨hcl 0 _ rfl, hn, _, _, _, _, _, _, ⟨hcl 1 _ rfl, hcl 2 _ rfl, hcl 3 _ rfl, hcl 4 _ rfl, hcl 5 _ rfl, hcl 6 _ rfl⟩, repA_stays (fun q hq => hB.block q hq.2.2) (fun q hq => ⟨hq.1, hq.2.1, Nat.lt_of_lt_of_le hq.2.2 hB.size⟩) x _ hx⟩, trivial⟩
  · subst e2 e3
    obtain ⟨cs, hcl, hc1, hc2, h1c⟩ := hD.cells
    refine (insert39 F f.length i g cs _ W h0 hi hbig hcl rfl hc1 hvs h1c h1v).mono ?_
    rintro e w' ⟨g', cap, rfl, hgb, hg', hB, hc⟩
    refine ⟨g', cap, rfl, hB, hgb, hg', ?_⟩
    have h4 := insF_lies hD (by omega) hB hi hm hcl hc2 hn (A := fun q => w.heap.size + 1 + 1 + 1 < q ∧ q ≠ G ∧ q < W.heap.size) (fun q hq => hq.2.2) (fun q hq1 hq2 => ⟨by omega, by omega, by omega⟩) hx hc
    exact repFA_stays (fun _ _ => rfl) (fun q hq => ⟨hq.1, hq.2.1, Nat.lt_of_lt_of_le hq.2.2 hB.size⟩) rfl _ 0 h4
end
/-- a struct's fields with one put among them -/
def Vl.putF (f : List (ByteArray × V)) (name : ByteArray) (x : V) : List (ByteArray × V) :=
  if Vl.place (fun m => decide (m = name)) f < f.length then f.set (Vl.place (fun m => decide (m = name)) f) (name, x) else insF f (Vl.place (fun m => decide (0 < Vl.cmpS m name)) f) (name, x)
theorem place_name (name : ByteArray) (f : List (ByteArray × V)) (h : Vl.place (fun m => decide (m = name)) f < f.length) : ∃ y, f[Vl.place (fun m => decide (m = name)) f]? = some (name, y) := by
  have h1 := List.findIdx_getElem (p := fun a : ByteArray × V => decide (a.1 = name)) (w := h)
  refine ⟨(f[Vl.place (fun m => decide (m = name)) f]'h).2, ?_⟩
  rw [List.getElem?_eq_getElem h]
  have h2 : (f[Vl.place (fun m => decide (m = name)) f]'h).1 = name := of_decide_eq_true h1
  exact congrArg some (Prod.ext h2 rfl)
end Go.Proofs.YtbogggnnmbjlfaaDoor
