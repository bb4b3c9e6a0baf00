/- The document's Drop, walked: the struct without the fields of that name. -/
import Derived.Test.YtbogggnnmbjlfaaDoorCopyA
import Derived.Test.YtbogggnnmbjlfaaDoorPutsM
import Derived.Test.YtbogggnnmbjlfaaDoorPutsF
namespace Go.Proofs.YtbogggnnmbjlfaaDoor
open Go.RowKit
open Vl (V)
/-- a row that was laid reaches up to a block -/
structure RD (w W : World) (R K G : Nat) (b : Bool) (n : Int) (s : ByteArray) (l : List V) (f : List (ByteArray × V)) (ao : Option Addr) (lc : Nat) (fo : Option Addr) (fc : Nat) (lv : Value) (hh : List (ByteArray × V)) : Prop where
  below : Below w.heap.size w W
  res : Z6 W R
  out : Row6 W G (.int .u8 6) (.bool b) (.int .i64 n) (.string s) (.slice ao l.length lc) (.slice fo f.length fc)
  first : w.heap.size ≤ R
  late : R < K
  le : K ≤ G
  li : 0 < l.length → ∃ g o, ao = some ⟨g, o, none⟩ ∧ K ≤ g ∧ g < G ∧ RepLA W (fun g => K ≤ g ∧ g < G) g o l
  fi : 0 < f.length → ∃ g o, fo = some ⟨g, o, none⟩ ∧ K ≤ g ∧ g < G ∧ RepFA W (fun g => K ≤ g ∧ g < G) g o f
  parts : ∃ cs, W.ownsRow (G + 1) 39 7 lv hh.length cs ∧ EF W (fun g => K ≤ g ∧ g ≠ G ∧ some g ≠ lv.ownBlock ∧ g < W.heap.size) hh cs
section
variable {w W W' : World} {R K G : Nat} {b : Bool} {n : Int} {s : ByteArray} {l : List V} {f : List (ByteArray × V)} {ao : Option Addr} {lc : Nat} {fo : Option Addr} {fc : Nat} {lv : Value} {hh : List (ByteArray × V)}
theorem RD.call (h : RD w W R K G b n s l f ao lc fo fc lv hh) (hb : Below W.heap.size W W') : RD w W' R K G b n s l f ao lc fo fc lv hh := by
  have hG := h.out.1
  obtain ⟨cs, h1, h2⟩ := h.parts
  refine ⟨h.below.trans (hb.mono h.below.size), h.res.call hb, h.out.call hb, h.first, h.late, h.le, fun hp => ?_, fun hp => ?_, cs, own_call h1 hb, EF.stays (fun g hg => hb.block g hg.2.2.2) (fun g hg => ⟨hg.1, hg.2.1, hg.2.2.1, Nat.lt_of_lt_of_le hg.2.2.2 hb.size⟩) _ _ h2⟩
  · obtain ⟨g, o, e, h3, h4, h5⟩ := h.li hp
    exact ⟨g, o, e, h3, h4, repLA_stays (fun k hk => hb.block k (by omega)) (fun _ hk => hk) (hb.block g (by omega)) l o h5⟩
  · obtain ⟨g, o, e, h3, h4, h5⟩ := h.fi hp
    exact ⟨g, o, e, h3, h4, repFA_stays (fun k hk => hb.block k (by omega)) (fun _ hk => hk) (hb.block g (by omega)) f o h5⟩
/-- a field more -/
theorem RD.app {w4 w5 : World} (h : RD w W R K G b n s l f ao lc fo fc lv hh) {cs : List Value} (ho : W.ownsRow (G + 1) 39 7 lv hh.length cs) (he : EF W (fun g => K ≤ g ∧ g ≠ G ∧ some g ≠ lv.ownBlock ∧ g < W.heap.size) hh cs) (h4 : Below W.heap.size W w4)
    {m : ByteArray} (hm : m.size ≤ maxLen) {x : V} {d0 d1 d2 d3 d4 d5 : Value} (hr : RepA w4 (fun g => K ≤ g ∧ g ≠ G ∧ some g ≠ lv.ownBlock ∧ g < w4.heap.size) x (.agg #[d0, d1, d2, d3, d4, d5])) (hg : w4.grownBy w5 lv.ownBlock)
    {g cap : Nat} (hn : w5.ownsRow (G + 1) 39 7 (.slice (some ⟨g, 0, none⟩) (hh.length + 1) cap) (hh.length + 1) (cs ++ [.string m, d0, d1, d2, d3, d4, d5])) (hat : lv.ownBlock = some g ∨ g = w4.heap.size) :
    RD w w5 R K G b n s l f ao lc fo fc (.slice (some ⟨g, 0, none⟩) (hh.length + 1) cap) (hh ++ [(m, x)]) := by
  have hlv : ∀ k, lv.ownBlock = some k → G + 1 ≤ k ∧ k < W.heap.size := ho.lt
  have hs4 := h4.size
  have hs5 := hg.size
  have o1 := h.res.1
  have o2 := h.out.1
  have hlate := h.late
  have hle := h.le
  have hfi := h.first
  have hng : ∀ k, k < w4.heap.size → some k ≠ lv.ownBlock → k ≠ g := fun k hk hne e => by
    rcases hat with e2 | e2
    · exact hne (by rw [e2, e])
    · omega
  have st : ∀ k, k < W.heap.size → some k ≠ lv.ownBlock → w5.heap[k]? = W.heap[k]? := fun k hk hne => (hg.block k (by omega) hne).trans (h4.block k hk)
  have nb : ∀ k, k ≤ G → some k ≠ lv.ownBlock := fun k hk e => by have := (hlv k e.symm).1; omega
  have hbel : Below w.heap.size w w5 := (h.below.trans (h4.mono h.below.size)).grown hg (by have := h.below.size; omega) (fun k hk => by have := (hlv k hk).1; omega)
  refine ⟨hbel, ⟨by omega, (st _ o1 (nb _ (by omega))).trans h.res.2⟩, ⟨by omega, (st _ o2 (nb _ (by omega))).trans h.out.2⟩, hfi, hlate, hle, fun hp => ?_, fun hp => ?_, cs ++ [.string m, d0, d1, d2, d3, d4, d5], by rw [List.length_append]; exact hn, EF.snoc hm ?_ _ _ ?_⟩
  · obtain ⟨q, o, e, h3, h4', h5⟩ := h.li hp
    exact ⟨q, o, e, h3, h4', repLA_stays (fun k hk => st k (by omega) (nb k (by omega))) (fun _ hk => hk) (st q (by omega) (nb q (by omega))) l o h5⟩
  · obtain ⟨q, o, e, h3, h4', h5⟩ := h.fi hp
    exact ⟨q, o, e, h3, h4', repFA_stays (fun k hk => st k (by omega) (nb k (by omega))) (fun _ hk => hk) (st q (by omega) (nb q (by omega))) f o h5⟩
  · refine repA_stays (fun k hk => hg.block k hk.2.2.2 hk.2.2.1) (fun k hk => ⟨hk.1, hk.2.1, fun e => hng k hk.2.2.2 hk.2.2.1 (by simpa [Value.ownBlock] using e), by omega⟩) x _ hr
  · exact EF.stays (fun k hk => st k hk.2.2.2 hk.2.2.1) (fun k hk => ⟨hk.1, hk.2.1, fun e => hng k (by omega) hk.2.2.1 (by simpa [Value.ownBlock] using e), by omega⟩) _ _ he
/-- what a field of the copy is, for a list that is laid -/
theorem RD.field (h : RD w W R K G b n s l f ao lc fo fc lv hh) {x : V} {c : Value} (hr : RepA W (fun g => K ≤ g ∧ g < G) x c) (h4 : Below W.heap.size W W') : RepA W' (fun g => K ≤ g ∧ g ≠ G ∧ some g ≠ lv.ownBlock ∧ g < W'.heap.size) x c := by
  obtain ⟨cs, h1, _⟩ := h.parts
  have hlv : ∀ k, lv.ownBlock = some k → G + 1 ≤ k ∧ k < W.heap.size := h1.lt
  have o2 := h.out.1
  have hs := h4.size
  exact repA_stays (fun k hk => h4.block k (by omega)) (fun k hk => ⟨hk.1, by omega, fun e => by have := (hlv k e.symm).1; omega, by omega⟩) x c hr
/-- the list is laid into the struct -/
theorem RD.fin (h : RD w W R K G b n s l f ao lc fo fc lv hh) (hk : (-9223372036854775808 ≤ n ∧ n < 9223372036854775808) ∧ s.size ≤ maxLen ∧ l.length ≤ maxLen) (hl : hh.length ≤ maxLen) :
    Row6 (W.setCell ⟨G, 5, none⟩ lv) G (.int .u8 6) (.bool b) (.int .i64 n) (.string s) (.slice ao l.length lc) lv ∧ Z6 (W.setCell ⟨G, 5, none⟩ lv) R ∧ Below w.heap.size w (W.setCell ⟨G, 5, none⟩ lv) ∧
    RepA (W.setCell ⟨G, 5, none⟩ lv) (fun g => R < g ∧ g < (W.setCell ⟨G, 5, none⟩ lv).heap.size) ⟨6, b, n, s, l, hh⟩ (.agg #[.int .u8 6, .bool b, .int .i64 n, .string s, .slice ao l.length lc, lv]) := by
  have o1 := h.res.1
  have o2 := h.out.1
  have hlate := h.late
  have hle := h.le
  have hfi := h.first
  have hsz : (W.setCell ⟨G, 5, none⟩ lv).heap.size = W.heap.size := by simp
  have e : ∀ k, k ≠ G → (W.setCell ⟨G, 5, none⟩ lv).heap[k]? = W.heap[k]? := fun k hk => heap_setCell_other _ _ _ _ hk
  refine ⟨h.out.set5, h.res.other _ _ _ (by omega), h.below.setCell (p := ⟨G, 5, none⟩) (by show w.heap.size ≤ G; omega) _, ?_⟩
  obtain ⟨cs, h1, h2⟩ := h.parts
  obtain ⟨fo', fc', rfl, h4⟩ : ∃ fo fc, lv = .slice fo hh.length fc ∧ (0 < hh.length → ∃ g, fo = some ⟨g, 0, none⟩ ∧ G + 1 ≤ g ∧ g < W.heap.size ∧ RepFA W (fun g => K ≤ g ∧ g ≠ G ∧ g < W.heap.size) g 0 hh) := by
    by_cases hp : 0 < hh.length
    · obtain ⟨g, cap, rfl, hb, hl, ho, hc⟩ := own_row hp h1
      exact ⟨some ⟨g, 0, none⟩, cap, rfl, fun _ => ⟨g, rfl, hb, hl, EF.lies hh cs 0 (EF.stays (fun _ _ => rfl) (fun k hk => ⟨hk.1, hk.2.1, hk.2.2.2⟩) hh cs h2) (fun j u hu => by rw [Nat.zero_add]; exact hc j u hu)⟩⟩
    · rcases h1.2 with ⟨e, _⟩ | ⟨g, cap, cur, e, _⟩
      · exact ⟨none, 0, by rw [e]; simp; omega, fun h => absurd h hp⟩
      · exact ⟨some ⟨g, 0, none⟩, cap, e, fun h => absurd h hp⟩
  rw [RepA]
  refine ⟨ao, lc, fo', fc', rfl, by omega, hk.1, hk.2.1, hk.2.2, hl, fun hp => ?_, fun hp => ?_⟩
  · obtain ⟨g, o, e2, h5, h6, h7⟩ := h.li hp
    exact ⟨g, o, e2, ⟨by omega, by rw [hsz]; omega⟩, repLA_stays (fun k hk => e k (by omega)) (fun k hk => ⟨by omega, by rw [hsz]; omega⟩) (e g (by omega)) l o h7⟩
  · obtain ⟨g, e2, h5, h6, h7⟩ := h4 hp
    exact ⟨g, 0, e2, ⟨by omega, by rw [hsz]; omega⟩, repFA_stays (fun k hk => e k hk.2.1) (fun k hk => ⟨by omega, by rw [hsz]; omega⟩) (e g (by omega)) _ 0 h7⟩
/-- behind Copy -/
theorem RD.start {w1 : World} {uo : Option Addr} {uc : Nat} {vo : Option Addr} {vc : Nat} (hb : Below w.heap.size w w1) (hr : RepA w1 (fun g => K ≤ g ∧ g < w1.heap.size) ⟨6, b, n, s, l, f⟩ (.agg #[.int .u8 6, .bool b, .int .i64 n, .string s, .slice uo l.length uc, .slice vo f.length vc])) (hZ : Z6 w1 R) (hR : w.heap.size ≤ R) (hK : R < K) (hK2 : K ≤ w1.heap.size) :
    RD w (w1.alloc (.cells #[.int .u8 6, .bool b, .int .i64 n, .string s, .slice uo l.length uc, .slice vo f.length vc] 26)) R K w1.heap.size b n s l f uo uc vo vc (.slice none 0 0) [] := by
  rw [RepA] at hr
  obtain ⟨ao', lc', fo', fc', e, _, _, _, _, _, h7, h8⟩ := hr
  simp only [Value.agg.injEq, Array.mk.injEq, List.cons.injEq, Value.slice.injEq, and_true, true_and] at e
  obtain ⟨_, ⟨rfl, rfl⟩, rfl, rfl⟩ := e
  have hbn := below_new w1 (.cells #[.int .u8 6, .bool b, .int .i64 n, .string s, .slice uo l.length uc, .slice vo f.length vc] 26)
  refine ⟨hb.trans (hbn.mono hb.size), hZ.call hbn, ⟨by simp, heap_alloc_new w1 _⟩, hR, hK, hK2, fun hp => ?_, fun hp => ?_, [], World.ownsRow_nil _ _ _ _, rfl⟩
  · obtain ⟨g, o, e, hg, hr⟩ := h7 hp
    exact ⟨g, o, e, hg.1, hg.2, repLA_stays (fun k hk => hbn.block k hk.2) (fun _ hk => hk) (hbn.block g hg.2) l o hr⟩
  · obtain ⟨g, o, e, hg, hr⟩ := h8 hp
    exact ⟨g, o, e, hg.1, hg.2, repFA_stays (fun k hk => hbn.block k hk.2) (fun _ hk => hk) (hbn.block g hg.2) f o hr⟩
end
end Go.Proofs.YtbogggnnmbjlfaaDoor
namespace Go.Proofs.YtbogggnnmbjlfaaDoor
open Go.RowKit
open Vl (V)
theorem bytes_neq {a m : ByteArray} (h : ¬ a = m) : (a.toList == m.toList) = false := by
  rw [Go.ByteArray.toList_eq, Go.ByteArray.toList_eq, beq_eq_false_iff_ne]
  intro e
  apply h
  cases a; cases m
  exact congrArg ByteArray.mk (Array.toList_inj.1 e)
theorem drop_next (name : ByteArray) (f : List (ByteArray × V)) (j : Nat) (m : ByteArray) (x : V) (h : f[j]? = some (m, x)) : Vl.dropF (f.take (j + 1)) name = if m = name then Vl.dropF (f.take j) name else Vl.dropF (f.take j) name ++ [(m, x)] := by
  rw [List.take_add_one, h, Vl.dropF, Vl.dropF, List.filter_append]
  by_cases hm : m = name
  · rw [if_pos hm]; simp [hm]
  · rw [if_neg hm]; simp [hm]
set_option maxHeartbeats 8000000 in
set_option maxRecDepth 100000 in
theorem rdrop15 (name : ByteArray) (b : Bool) (n : Int) (s : ByteArray) (l : List V) (f : List (ByteArray × V)) (ht : Vl.small ⟨6, b, n, s, l, f⟩) (w : World) (H : Nat) (vt : Value) (hH : H ≤ w.heap.size) (hr : Rep w H ⟨6, b, n, s, l, f⟩ vt) :
    Calls Tryd.prog 15 #[vt, .string name] w fun e w' => ∃ v', e = .returned (.tuple #[v', .int .i64 0]) ∧ Below w.heap.size w w' ∧ Rep w' w'.heap.size ⟨6, b, n, s, l, Vl.dropF f name⟩ v' := by
  have hr' := hr
  rw [Rep] at hr'
  obtain ⟨vo, vc, uo, uc, rfl, _, k2, k3, k4, k5, _, _⟩ := hr'
  have hms : ∀ a ∈ f, a.1.size ≤ maxLen := fun a ha => by
    rw [Vl.small] at ht
    have := (Vl.smallF_mem f a ht.2.2.2.2 ha).1
    unfold maxLen; omega
  have hfs : f.length ≤ 1466015503668 := by rw [Vl.small] at ht; exact ht.2.2.1
  obtain ⟨w1, hw1, hb1, hr1, hz1⟩ := two_new w (.int .u8 6) (.bool b) (.int .i64 n) (.string s) (.slice vo l.length vc) (.slice uo f.length uc)
  have C9 : Hid (Calls Tryd.prog 9 #[.agg #[.int .u8 6, .bool b, .int .i64 n, .string s, .slice vo l.length vc, .slice uo f.length uc]] w1 fun e w' => ∃ (ao : Option Addr) (lc : Nat) (fo : Option Addr) (fc : Nat), e = .returned (.agg #[.int .u8 6, .bool b, .int .i64 n, .string s, .slice ao l.length lc, .slice fo f.length fc]) ∧ RD w (w'.alloc (.cells #[.int .u8 6, .bool b, .int .i64 n, .string s, .slice ao l.length lc, .slice fo f.length fc] 26)) (w.heap.size + 1) w1.heap.size w'.heap.size b n s l f ao lc fo fc (.slice none 0 0) []) := by
    refine (copy9 _ _ (Nat.le_refl _) ht w1 H _ (by have := hb1.size; omega) (rep_stays (hb1.mono hH) (Nat.le_refl _) _ _ hr)).mono ?_
    rintro e w' ⟨v', rfl, hb, hra⟩
    have hra' := hra
    rw [RepA] at hra'
    obtain ⟨ao, lc, fo, fc, rfl, _⟩ := hra'
    have h1 := RD.start (R := w.heap.size + 1) (hb1.trans (hb.mono hb1.size)) hra (hz1.call hb) (by omega) hz1.1 hb.size
    exact ⟨ao, lc, fo, fc, rfl, h1⟩
  have HR1 : Hid (Row6 w1 w.heap.size (.int .u8 6) (.bool b) (.int .i64 n) (.string s) (.slice vo l.length vc) (.slice uo f.length uc)) := hr1
  have HW1 : Hid (w1 = (w.alloc (.cells #[.int .u8 6, .bool b, .int .i64 n, .string s, .slice vo l.length vc, .slice uo f.length uc] 26)).alloc (.cells #[.int .u8 0, .bool false, .int .i64 0, .string ⟨#[]⟩, .slice none 0 0, .slice none 0 0] 26)) := hw1
  have HK : Hid ((-9223372036854775808 ≤ n ∧ n < 9223372036854775808) ∧ s.size ≤ maxLen ∧ l.length ≤ maxLen) := ⟨k2, k3, k4⟩
  have HFS : Hid (f.length ≤ 1466015503668) := hfs
  have HMS : Hid (∀ a ∈ f, a.1.size ≤ maxLen) := hms
  obtain ⟨K, hK⟩ : ∃ K, K = w1.heap.size := ⟨_, rfl⟩
  obtain ⟨ll, hll⟩ : ∃ n, n = l.length := ⟨_, rfl⟩
  obtain ⟨nf, hnf⟩ : ∃ n, n = f.length := ⟨_, rfl⟩
  have HNF : Hid (nf = f.length) := hnf
  have HLL : Hid (ll = l.length) := hll
  obtain ⟨t', ht'⟩ : ∃ t' : V, t' = ⟨6, b, n, s, l, Vl.dropF f name⟩ := ⟨_, rfl⟩
  have HT : Hid (t' = ⟨6, b, n, s, l, Vl.dropF f name⟩) := ht'
  rw [← ht']
  rw [← hll, ← hnf] at HW1 HR1 ⊢
  rw [← hnf] at hfs
  rw [← hK, ← hll, ← hnf] at C9
  obtain ⟨i0, hi, hz0, hzz1, hzz2⟩ := info_parts info44'
  clear hr hms k2 k3 k4 k5 hll ht ht' hb1 hr1 hz1 hw1 hH hK hnf
  go_enter Tryd.func15, Tryd.ntmps15
  go_upto_region 3 with fail
  rw [← HW1.out]
  obtain ⟨p0, p1, p2, p3, p4, p5⟩ := HR1.out.cells
  go_wp2_with fail
  refine C9.out.mono ?_
  rintro e w2 ⟨ao, lc, fo, fc, rfl, hS⟩
  have S2 : Hid (RD w (w2.alloc (.cells #[.int .u8 6, .bool b, .int .i64 n, .string s, .slice ao ll lc, .slice fo nf fc] 26)) (w.heap.size + 1) K w2.heap.size b n s l f ao lc fo fc (.slice none 0 0) []) := hS
  clear hS C9 p0 p1 p2 p3 p4 p5 HR1
  go_upto_region 4 with fail
  obtain ⟨w3, hw3⟩ : ∃ w3, w3 = w2.alloc (.cells #[.int .u8 6, .bool b, .int .i64 n, .string s, .slice ao ll lc, .slice fo nf fc] 26) := ⟨_, rfl⟩
  obtain ⟨G, hG⟩ : ∃ G, G = w2.heap.size := ⟨_, rfl⟩
  rw [← hw3, ← hG] at S2 ⊢
  clear hw3 hG
  obtain ⟨p0, p1, p2, p3, p4, p5⟩ := S2.out.out.cells
  rw [← HNF.out] at p5
  go_wp2
  clear p0 p1 p2 p3 p4 p5
  have hf9 : nf ≤ 9223372036854775807 := by omega
  go_loopw [7, 19] (fun v i wr => ∃ (q : Nat) (lv : Value), q ≤ nf ∧ i = .int .i64 q ∧ lv = v ∧ RD w wr (w.heap.size + 1) K G b n s l f ao lc fo fc lv (Vl.dropF (f.take q) name)) (fun _ i _ => nf - (intOf i).toNat)
  case atStart => exact ⟨0, _, Nat.zero_le _, rfl, rfl, by rw [List.take_zero]; exact S2.out⟩
  case round =>
    obtain ⟨q, lv, hq, rfl, rfl, hN⟩ := hrel
    obtain ⟨hd, hhd⟩ : ∃ h, h = Vl.dropF (f.take q) name := ⟨_, rfl⟩
    rw [← hhd] at hN
    have HHD : Hid (hd = Vl.dropF (f.take q) name) := hhd
    have N : Hid (RD w wr (w.heap.size + 1) K G b n s l f ao lc fo fc lv hd) := hN
    clear hN S2 hhd
    by_cases hlt2 : q < nf
    · have ha : q < f.length := by rw [← HNF.out]; exact hlt2
      obtain ⟨gf, of, rfl, hg1, hg2, hrf⟩ := N.out.fi (by omega)
      obtain ⟨⟨a, x⟩, hx⟩ : ∃ x, f[q]? = some x := ⟨_, List.getElem?_eq_getElem ha⟩
      obtain ⟨dm, has, c0, c1, c2, c3, c4, c5, ⟨d0, d1, d2, d3, d4, d5⟩, hrx⟩ := repFA_at f of hrf q a x hx
      rw [show of + q * 7 + 1 + 1 = of + q * 7 + 2 by omega] at d1
      rw [show of + q * 7 + 1 + 2 = of + q * 7 + 3 by omega] at d2
      rw [show of + q * 7 + 1 + 3 = of + q * 7 + 4 by omega] at d3
      rw [show of + q * 7 + 1 + 4 = of + q * 7 + 5 by omega] at d4
      rw [show of + q * 7 + 1 + 5 = of + q * 7 + 6 by omega] at d5
      obtain ⟨yk, yb, yn, ys, yfa, yfl, yfc, yga, ygl, ygc, hyf⟩ := repA_form hrx
      simp only [Value.agg.injEq, Array.mk.injEq, List.cons.injEq, and_true] at hyf
      obtain ⟨rfl, rfl, rfl, rfl, rfl, rfl⟩ := hyf
      have HDN : Hid (Vl.dropF (f.take (q + 1)) name = if a = name then Vl.dropF (f.take q) name else Vl.dropF (f.take q) name ++ [(a, x)]) := drop_next name f q a x hx
      have HAS : Hid (a.size ≤ maxLen) := has
      have HRX : Hid (RepA wr (fun g => K ≤ g ∧ g < G) x (.agg #[.int .u8 (yk : Int), .bool yb, .int .i64 yn, .string ys, .slice yfa yfl yfc, .slice yga ygl ygc])) := hrx
      have HDL : Hid (hd.length ≤ q) := by
        show _ ≤ _
        rw [HHD.out]
        refine Nat.le_trans (Vl.dropF_len _ _) ?_
        rw [List.length_take]; omega
      clear hrf hx hrx ha hg1 hg2 has
      go_upto_region 8 with fail
      obtain ⟨w4, hw4⟩ : ∃ w4, w4 = wr.alloc (.cells #[.string a, .int .u8 (yk : Int), .bool yb, .int .i64 yn, .string ys, .slice yfa yfl yfc, .slice yga ygl ygc] 39) := ⟨_, rfl⟩
      obtain ⟨B3, hB3⟩ : ∃ B, B = wr.heap.size := ⟨_, rfl⟩
      have hb4 : Below wr.heap.size wr w4 := by rw [hw4]; exact below_new _ _
      have HBX : Hid (Row7 w4 B3 (.string a) (.int .u8 (yk : Int)) (.bool yb) (.int .i64 yn) (.string ys) (.slice yfa yfl yfc) (.slice yga ygl ygc)) := by
        show Row7 _ _ _ _ _ _ _ _ _
        rw [hw4, hB3]; exact ⟨by simp, heap_alloc_new wr _⟩
      have N4 : Hid (RD w w4 (w.heap.size + 1) K G b n s l f ao lc (some ⟨gf, of, none⟩) fc lv hd) := N.out.call hb4
      have HRX4 : Hid (RepA w4 (fun g => K ≤ g ∧ g < G) x (.agg #[.int .u8 (yk : Int), .bool yb, .int .i64 yn, .string ys, .slice yfa yfl yfc, .slice yga ygl ygc])) := repA_stays (fun g hg => hb4.block g (by have := N.out.out.1; omega)) (fun _ hg => hg) x _ HRX.out
      rw [← hw4, ← hB3]
      clear hw4 hB3 hb4 dm d0 d1 d2 d3 d4 d5 N HRX
      obtain ⟨y0, y1, y2, y3, y4, y5, y6⟩ := HBX.out.cells
      by_cases ham : a = name
      · subst ham
        have N5 : Hid (RD w w4 (w.heap.size + 1) K G b n s l f ao lc (some ⟨gf, of, none⟩) fc lv (Vl.dropF (f.take (q + 1)) a)) := by
          show RD _ _ _ _ _ _ _ _ _ _ _ _ _ _ _ _
          rw [HDN.out, if_pos rfl, ← HHD.out]; exact N4.out
        go_wp2
        go_roundw
        case rel => first | exact ⟨q + 1, lv, by omega, by go_num, rfl, N5.out⟩ | ((repeat apply Exists.intro); exact ⟨⟨q + 1, lv, by omega, by go_num, rfl, N5.out⟩, rfl⟩)
        case measure => simp [intOf]; omega
      · have hane := bytes_neq ham
        obtain ⟨cs, hown, hel⟩ := N4.out.parts
        have HOWN : Hid (w4.ownsRow (G + 1) 39 7 lv hd.length cs) := hown
        have HEL : Hid (EF w4 (fun g => K ≤ g ∧ g ≠ G ∧ some g ≠ lv.ownBlock ∧ g < w4.heap.size) hd cs) := hel
        clear hown hel
        have fit63 : Hid (hd.length + 1 ≤ maxLen) := by have := HDL.out; show _ ≤ _; unfold maxLen; omega
        have fit47 : Hid ((hd.length + 1) * 96 ≤ 140737488355328) := by have := HDL.out; show _ ≤ _; omega
        have HGL : Hid (G + 1 ≤ w4.heap.size) := N4.out.out.1
        have HDE : Hid (Vl.dropF (f.take (q + 1)) name = hd ++ [(a, x)]) := by
          show _ = _
          rw [HDN.out, if_neg ham, ← HHD.out]
        clear HDN
        go_wp2_with (first | (at_builtin; refine wpList_append_lies _ rfl _ _ 24 rfl (G + 1) 39 i0 _ 7 96 Tryd.underlying24 hi hz0 hzz1 hzz2 rfl (by decide) lv hd.length cs (by rfl) (HOWN.out.alloc _) ⟨w4.heap.size, 0, none⟩ 1 1 [.string a, .int .u8 (yk : Int), .bool yb, .int .i64 yn, .string ys, .slice yfa yfl yfc, .slice yga ygl ygc] (by rfl) (by rfl) (World.news_of_block (heap_alloc_new w4 _)) (by simp [Value.oneCell']) (by omega) fit63.out fit47.out (by have := HGL.out; simp; omega) (w4.heap.size + 1) (by simp) ?_))
        intro gg cap w5 hown5 hgrow hat hglt
        have N5 : Hid (RD w w5 (w.heap.size + 1) K G b n s l f ao lc (some ⟨gf, of, none⟩) fc (.slice (some ⟨gg, 0, none⟩) (hd.length + 1) cap) (Vl.dropF (f.take (q + 1)) name)) := by
          show RD _ _ _ _ _ _ _ _ _ _ _ _ _ _ _ _
          rw [HDE.out]
          exact RD.app N4.out HOWN.out HEL.out (below_new _ _) HAS.out (N4.out.field HRX4.out (below_new _ _)) hgrow hown5 (by simpa using hat)
        clear hown5 hgrow hat hglt HOWN HEL N4
        go_wp2
        go_roundw
        case rel => first | exact ⟨q + 1, _, by omega, by go_num, rfl, N5.out⟩ | ((repeat apply Exists.intro); exact ⟨⟨q + 1, _, by omega, by go_num, rfl, N5.out⟩, rfl⟩)
        case measure => simp [intOf]; omega
    · have hqn : q = nf := by omega
      have hde : hd = Vl.dropF f name := by rw [HHD.out, hqn, HNF.out, List.take_length]
      subst hqn
      have HFIN := RD.fin N.out HK.out (by have := HFS.out; have h1 := Vl.dropF_len f name; rw [← hde] at h1; unfold maxLen; omega)
      rw [hde, ← HT.out] at HFIN
      obtain ⟨hR, hZ, hB, hrep⟩ := HFIN
      obtain ⟨uk, ub, un, us, ua, ul, uc', va, vl, vc', hu⟩ := repA_form hrep
      simp only [Value.agg.injEq, Array.mk.injEq, List.cons.injEq, and_true] at hu
      obtain ⟨_, _, _, _, _, rfl⟩ := hu
      obtain ⟨r0, r1, r2, r3, r4, r5⟩ := N.out.out.cells
      have fzo := N.out.out.free
      have lto := N.out.out.1
      obtain ⟨wf, hwf⟩ : ∃ wf, wf = wr.setCell ⟨G, 5, none⟩ (.slice va vl vc') := ⟨_, rfl⟩
      rw [← hwf] at hR hZ hB hrep
      have HWF : Hid (wf = wr.setCell ⟨G, 5, none⟩ (.slice va vl vc')) := hwf
      have HRW : Hid (Row6 wf G (.int .u8 6) (.bool b) (.int .i64 n) (.string s) (.slice ao l.length lc) (.slice va vl vc')) := hR
      have HZW : Hid (Z6 wf (w.heap.size + 1)) := hZ
      obtain ⟨a1, a2, a3⟩ := answer_own hZ hB hrep
      rw [← HLL.out] at a1 a2 a3
      have HA1 : Hid _ := a1
      have HA2 : Hid _ := a2
      have HA3 : Hid _ := a3
      clear hwf hR hZ hB hrep a1 a2 a3 N hde
      go_upto_region 12 with fail
      rw [← HWF.out]
      obtain ⟨s0, s1, s2, s3, s4, s5⟩ := HRW.out.cells
      rw [← HLL.out] at s4
      obtain ⟨q0, q1, q2, q3, q4, q5⟩ := Row6.cells HZW.out
      have fz := Row6.free HZW.out
      have hl1 := HRW.out.1
      have hl2 := HZW.out.1
      clear r0 r1 r2 r3 r4 r5 fzo lto HRW HZW HWF
      go_wp2
      rw [sets6]
      exact bodyPost_ret (v := .tuple #[.agg #[.int .u8 6, .bool b, .int .i64 n, .string s, .slice ao ll lc, .slice va vl vc'], .int .i64 0]) ((results_row_tmp (fn := Tryd.f15) (p := 4) (u := 5) (ty := 26) (by rfl) _ _ (w.heap.size + 1) 26 _ (0, 0) _ (by rfl) HA1.out Tryd.underlying26 rfl info26).trans (by rfl)) rfl ⟨_, rfl, HA2.out, repA_rep (fun g hg => hg.2) _ _ HA3.out⟩
set_option maxHeartbeats 4000000 in
set_option maxRecDepth 100000 in
theorem rdrop15_none (name : ByteArray) (k : Nat) (hk : k ≠ 6) (b : Bool) (n : Int) (s : ByteArray) (ao : Option Addr) (ll lc : Nat) (fo : Option Addr) (fl fc : Nat) (w : World) :
    Calls Tryd.prog 15 #[.agg #[.int .u8 (k : Int), .bool b, .int .i64 n, .string s, .slice ao ll lc, .slice fo fl fc], .string name] w fun e w' => e = .returned (.tuple #[.agg #[.int .u8 0, .bool false, .int .i64 0, .string ⟨#[]⟩, .slice none 0 0, .slice none 0 0], .int .i64 5]) ∧ Below w.heap.size w w' := by
  have j6 : ((k : Int) == 6) = false := by simp; omega
  go_enter Tryd.func15, Tryd.ntmps15
  go_wp2
  refine bodyPost_ret (v := .tuple #[.agg #[.int .u8 0, .bool false, .int .i64 0, .string ⟨#[]⟩, .slice none 0 0, .slice none 0 0], .int .i64 5]) ((results_row_tmp (fn := Tryd.f15) (p := 4) (u := 5) (ty := 26) (by rfl) _ _ (w.heap.size + 1) 26 #[.int .u8 0, .bool false, .int .i64 0, .string ⟨#[]⟩, .slice none 0 0, .slice none 0 0] (0, 0) _ (by rfl) ?_ Tryd.underlying26 rfl info26).trans (by rfl)) rfl ⟨rfl, below_new2 _ _ _⟩
  have := heap_alloc_new (w.alloc (.cells #[.int .u8 (k : Int), .bool b, .int .i64 n, .string s, .slice ao ll lc, .slice fo fl fc] 26)) (.cells #[.int .u8 0, .bool false, .int .i64 0, .string ⟨#[]⟩, .slice none 0 0, .slice none 0 0] 26)
  simpa using this
set_option maxHeartbeats 4000000 in
set_option maxRecDepth 100000 in
theorem drop14_none (name : ByteArray) (k : Nat) (hk : k ≠ 6) (b : Bool) (n : Int) (s : ByteArray) (ao : Option Addr) (ll lc : Nat) (fo : Option Addr) (fl fc : Nat) (w : World) :
    Calls Tryd.prog 14 #[.agg #[.int .u8 (k : Int), .bool b, .int .i64 n, .string s, .slice ao ll lc, .slice fo fl fc], .string name] w fun e w' => e = .returned (.tuple #[.agg #[.int .u8 0, .bool false, .int .i64 0, .string ⟨#[]⟩, .slice none 0 0, .slice none 0 0], .int .i64 5]) ∧ Below w.heap.size w w' := by
  have j6 : ((k : Int) == 6) = false := by simp; omega
  go_enter Tryd.func14, Tryd.ntmps14
  go_wp2
  refine bodyPost_ret (v := .tuple #[.agg #[.int .u8 0, .bool false, .int .i64 0, .string ⟨#[]⟩, .slice none 0 0, .slice none 0 0], .int .i64 5]) ((results_row_tmp (fn := Tryd.f14) (p := 4) (u := 5) (ty := 26) (by rfl) _ _ (w.heap.size + 1) 26 #[.int .u8 0, .bool false, .int .i64 0, .string ⟨#[]⟩, .slice none 0 0, .slice none 0 0] (0, 0) _ (by rfl) ?_ Tryd.underlying26 rfl info26).trans (by rfl)) rfl ⟨rfl, below_new2 _ _ _⟩
  have := heap_alloc_new (w.alloc (.cells #[.int .u8 (k : Int), .bool b, .int .i64 n, .string s, .slice ao ll lc, .slice fo fl fc] 26)) (.cells #[.int .u8 0, .bool false, .int .i64 0, .string ⟨#[]⟩, .slice none 0 0, .slice none 0 0] 26)
  simpa using this
end Go.Proofs.YtbogggnnmbjlfaaDoor
