/- What the reference's all makes of a state and a text: the words behind all whole blocks, and the rest. -/
import Derived.Test.YthheebnmdfggnaaDoorShBlock
import Derived.Test.YthheebnmdfggnaaDoorShPieces
namespace Go.Proofs.YthheebnmdfggnaaDoor
open Go.RowKit
attribute [local go_sem ↓] Go.wp_at_zero Go.wp_at_succ
theorem put10_0 {W : World} {B : Nat} {x0 x1 x2 x3 x4 x5 x6 x7 x8 x9 : Value} (h : W.heap[B]? = some (.cells #[x0, x1, x2, x3, x4, x5, x6, x7, x8, x9] 87 (0, 0))) (y : Value) : (W.setCell ⟨B, 0, none⟩ y).heap[B]? = some (.cells #[y, x1, x2, x3, x4, x5, x6, x7, x8, x9] 87 (0, 0)) := heap_setCell_same W B 0 _ 87 y h
theorem put10_1 {W : World} {B : Nat} {x0 x1 x2 x3 x4 x5 x6 x7 x8 x9 : Value} (h : W.heap[B]? = some (.cells #[x0, x1, x2, x3, x4, x5, x6, x7, x8, x9] 87 (0, 0))) (y : Value) : (W.setCell ⟨B, 1, none⟩ y).heap[B]? = some (.cells #[x0, y, x2, x3, x4, x5, x6, x7, x8, x9] 87 (0, 0)) := heap_setCell_same W B 1 _ 87 y h
theorem put10_2 {W : World} {B : Nat} {x0 x1 x2 x3 x4 x5 x6 x7 x8 x9 : Value} (h : W.heap[B]? = some (.cells #[x0, x1, x2, x3, x4, x5, x6, x7, x8, x9] 87 (0, 0))) (y : Value) : (W.setCell ⟨B, 2, none⟩ y).heap[B]? = some (.cells #[x0, x1, y, x3, x4, x5, x6, x7, x8, x9] 87 (0, 0)) := heap_setCell_same W B 2 _ 87 y h
theorem put10_3 {W : World} {B : Nat} {x0 x1 x2 x3 x4 x5 x6 x7 x8 x9 : Value} (h : W.heap[B]? = some (.cells #[x0, x1, x2, x3, x4, x5, x6, x7, x8, x9] 87 (0, 0))) (y : Value) : (W.setCell ⟨B, 3, none⟩ y).heap[B]? = some (.cells #[x0, x1, x2, y, x4, x5, x6, x7, x8, x9] 87 (0, 0)) := heap_setCell_same W B 3 _ 87 y h
theorem put10_4 {W : World} {B : Nat} {x0 x1 x2 x3 x4 x5 x6 x7 x8 x9 : Value} (h : W.heap[B]? = some (.cells #[x0, x1, x2, x3, x4, x5, x6, x7, x8, x9] 87 (0, 0))) (y : Value) : (W.setCell ⟨B, 4, none⟩ y).heap[B]? = some (.cells #[x0, x1, x2, x3, y, x5, x6, x7, x8, x9] 87 (0, 0)) := heap_setCell_same W B 4 _ 87 y h
theorem put10_5 {W : World} {B : Nat} {x0 x1 x2 x3 x4 x5 x6 x7 x8 x9 : Value} (h : W.heap[B]? = some (.cells #[x0, x1, x2, x3, x4, x5, x6, x7, x8, x9] 87 (0, 0))) (y : Value) : (W.setCell ⟨B, 5, none⟩ y).heap[B]? = some (.cells #[x0, x1, x2, x3, x4, y, x6, x7, x8, x9] 87 (0, 0)) := heap_setCell_same W B 5 _ 87 y h
theorem put10_6 {W : World} {B : Nat} {x0 x1 x2 x3 x4 x5 x6 x7 x8 x9 : Value} (h : W.heap[B]? = some (.cells #[x0, x1, x2, x3, x4, x5, x6, x7, x8, x9] 87 (0, 0))) (y : Value) : (W.setCell ⟨B, 6, none⟩ y).heap[B]? = some (.cells #[x0, x1, x2, x3, x4, x5, y, x7, x8, x9] 87 (0, 0)) := heap_setCell_same W B 6 _ 87 y h
theorem put10_7 {W : World} {B : Nat} {x0 x1 x2 x3 x4 x5 x6 x7 x8 x9 : Value} (h : W.heap[B]? = some (.cells #[x0, x1, x2, x3, x4, x5, x6, x7, x8, x9] 87 (0, 0))) (y : Value) : (W.setCell ⟨B, 7, none⟩ y).heap[B]? = some (.cells #[x0, x1, x2, x3, x4, x5, x6, y, x8, x9] 87 (0, 0)) := heap_setCell_same W B 7 _ 87 y h
theorem put10_8 {W : World} {B : Nat} {x0 x1 x2 x3 x4 x5 x6 x7 x8 x9 : Value} (h : W.heap[B]? = some (.cells #[x0, x1, x2, x3, x4, x5, x6, x7, x8, x9] 87 (0, 0))) (y : Value) : (W.setCell ⟨B, 8, none⟩ y).heap[B]? = some (.cells #[x0, x1, x2, x3, x4, x5, x6, x7, y, x9] 87 (0, 0)) := heap_setCell_same W B 8 _ 87 y h
theorem put10_9 {W : World} {B : Nat} {x0 x1 x2 x3 x4 x5 x6 x7 x8 x9 : Value} (h : W.heap[B]? = some (.cells #[x0, x1, x2, x3, x4, x5, x6, x7, x8, x9] 87 (0, 0))) (y : Value) : (W.setCell ⟨B, 9, none⟩ y).heap[B]? = some (.cells #[x0, x1, x2, x3, x4, x5, x6, x7, x8, y] 87 (0, 0)) := heap_setCell_same W B 9 _ 87 y h
theorem AI.other {w W : World} {s : Sh.S8} {c : Nat} {r : ByteArray} (h : AI w W s c r) (j : Nat) (v : Value) (C : Array Value) (hC : (W.setCell ⟨w.heap.size, j, none⟩ v).heap[w.heap.size]? = some (.cells C 87 (0, 0))) :
    (W.setCell ⟨w.heap.size, j, none⟩ v).heap[w.heap.size]? = some (.cells C 87 (0, 0)) ∧ (W.setCell ⟨w.heap.size, j, none⟩ v).heap[w.heap.size + 1]? = some (.cells #[.int .u32 0, .int .u32 0, .int .u32 0, .int .u32 0, .int .u32 0, .int .u32 0, .int .u32 0, .int .u32 0, .int .u64 0, .string ⟨#[]⟩] 87 (0, 0)) ∧ w.heap.size + 2 ≤ (W.setCell ⟨w.heap.size, j, none⟩ v).heap.size ∧ Below w.heap.size w (W.setCell ⟨w.heap.size, j, none⟩ v) :=
  ⟨hC, (heap_setCell_other _ _ _ _ (by show w.heap.size + 1 ≠ w.heap.size; omega)).trans h.2.1, by simpa using h.2.2, h.1.2.2.setCell (p := ⟨w.heap.size, j, none⟩) (by simp) _⟩
theorem AI.words {w wr : World} {s : Sh.S8} {c : Nat} {r : ByteArray} (h : AI w wr s c r) (m : Sh.S8) : AI w ((((((((wr.setCell ⟨w.heap.size, 0, none⟩ (.int .u32 (m.a : Int))).setCell ⟨w.heap.size, 1, none⟩ (.int .u32 (m.b : Int))).setCell ⟨w.heap.size, 2, none⟩ (.int .u32 (m.c : Int))).setCell ⟨w.heap.size, 3, none⟩ (.int .u32 (m.d : Int))).setCell ⟨w.heap.size, 4, none⟩ (.int .u32 (m.e : Int))).setCell ⟨w.heap.size, 5, none⟩ (.int .u32 (m.f : Int))).setCell ⟨w.heap.size, 6, none⟩ (.int .u32 (m.g : Int))).setCell ⟨w.heap.size, 7, none⟩ (.int .u32 (m.h : Int))) m c r := by
  obtain ⟨⟨h1, h2, h3⟩, h4, h5⟩ := h
  have hl : ∀ j : Nat, w.heap.size ≤ (⟨w.heap.size, j, none⟩ : Addr).block := fun _ => Nat.le_refl _
  have hn : ∀ (W : World) (j : Nat) (v : Value), (W.setCell ⟨w.heap.size, j, none⟩ v).heap[w.heap.size + 1]? = W.heap[w.heap.size + 1]? := fun W j v => heap_setCell_other _ _ _ _ (by show w.heap.size + 1 ≠ w.heap.size; omega)
  refine ⟨⟨put10_7 (put10_6 (put10_5 (put10_4 (put10_3 (put10_2 (put10_1 (put10_0 (h1) _) _) _) _) _) _) _) _, by simpa using h2, (((((((h3.setCell (hl 0) _).setCell (hl 1) _).setCell (hl 2) _).setCell (hl 3) _).setCell (hl 4) _).setCell (hl 5) _).setCell (hl 6) _).setCell (hl 7) _⟩, ?_, by simpa using h5⟩
  rw [hn, hn, hn, hn, hn, hn, hn, hn]
  exact h4
theorem AI.count {w wr : World} {s : Sh.S8} {c : Nat} {r : ByteArray} (h : AI w wr s c r) (n : Nat) : AI w (wr.setCell ⟨w.heap.size, 8, none⟩ (.int .u64 (n : Int))) s n r := by
  have k := h.other 8 (.int .u64 (n : Int)) _ (put10_8 h.1.1 _)
  exact ⟨⟨k.1, by have := k.2.2.1; omega, k.2.2.2⟩, k.2.1, k.2.2.1⟩
theorem AI.rest {w wr : World} {s : Sh.S8} {c : Nat} {r : ByteArray} (h : AI w wr s c r) (q : ByteArray) : AI w (wr.setCell ⟨w.heap.size, 9, none⟩ (.string q)) s c q := by
  have k := h.other 9 (.string q) _ (put10_9 h.1.1 _)
  exact ⟨⟨k.1, by have := k.2.2.1; omega, k.2.2.2⟩, k.2.1, k.2.2.1⟩
theorem AI.drew {w wr : World} {s : Sh.S8} {c : Nat} {r : ByteArray} (h : AI w wr s c r) : AI w wr.drew s c r := ⟨⟨h.1.1, h.1.2.1, h.1.2.2.drew⟩, h.2.1, h.2.2⟩
theorem block29' (v m : Sh.S8) (hv : v.ok) (b : ByteArray) (hb : b.size = 64) (hm : Hid (m = Sh.chg1 v b.data.toList)) (w : World) :
    Calls Tryd.prog 76 #[.agg #[.int .u32 v.a, .int .u32 v.b, .int .u32 v.c, .int .u32 v.d, .int .u32 v.e, .int .u32 v.f, .int .u32 v.g, .int .u32 v.h], .string b] w
      fun e w' => e = .returned (.agg #[.int .u32 m.a, .int .u32 m.b, .int .u32 m.c, .int .u32 m.d, .int .u32 m.e, .int .u32 m.f, .int .u32 m.g, .int .u32 m.h]) ∧ Below w.heap.size w w' := by
  have := block29 v hv b hb w
  rw [← hm.out] at this
  exact this
def strLen : Value → Nat
  | .string s => s.size
  | _ => 0
theorem AI.shape {w : World} {W : World} {s : Sh.S8} {c : Nat} {r : ByteArray} (h : AI w W s c r) : ∀ j, W.frozen? ⟨w.heap.size, j, none⟩ = false := row_free h.1.1
set_option maxHeartbeats 4000000 in
set_option maxRecDepth 20000 in
theorem all21 (s m : Sh.S8) (hs : s.ok) (c n : Nat) (r t q : ByteArray) (hc : c ≤ 1152921504606846976) (hr : r.size ≤ 64) (ht : t.size ≤ 1125899906840000) (hn : Hid (n = c + t.size))
    (hm : Hid (m = Sh.chgAll s (r.data.toList ++ t.data.toList))) (hq : Hid (q = ⟨(Sh.restOf (r.data.toList ++ t.data.toList)).toArray⟩)) (w : World) :
    Calls Tryd.prog 52 #[.agg #[.int .u32 s.a, .int .u32 s.b, .int .u32 s.c, .int .u32 s.d, .int .u32 s.e, .int .u32 s.f, .int .u32 s.g, .int .u32 s.h, .int .u64 c, .string r], .string t] w fun e w' => e = .returned (.agg #[.int .u32 m.a, .int .u32 m.b, .int .u32 m.c, .int .u32 m.d, .int .u32 m.e, .int .u32 m.f, .int .u32 m.g, .int .u32 m.h, .int .u64 n, .string q]) ∧ Below w.heap.size w w' := by
  have hcs : (c : Int) + (t.size : Int) = (n : Int) := by have := hn.out; omega
  obtain ⟨rt, hrt⟩ : ∃ rt, rt = r ++ t := ⟨_, rfl⟩
  have hrl : rt.data.toList = r.data.toList ++ t.data.toList := by rw [hrt]; simp
  have hrs : rt.size = r.size + t.size := by rw [Lib.size_eq, hrl, List.length_append, ← Lib.size_eq, ← Lib.size_eq]
  have hrs' : rt.size ≤ 1125899906842000 := by omega
  have hadd : ∀ W, (Op.stringOp .add r t).run Tryd.prog W = .ok (.string rt) W := fun W => by rw [hrt]; exact run_string_add_sum W r t (by omega)
  have HRL : Hid (rt.data.toList = r.data.toList ++ t.data.toList) := hrl
  have HS : Hid s.ok := hs
  have A0 : Hid (AI w ((w.alloc (.cells #[.int .u32 s.a, .int .u32 s.b, .int .u32 s.c, .int .u32 s.d, .int .u32 s.e, .int .u32 s.f, .int .u32 s.g, .int .u32 s.h, .int .u64 c, .string r] 87)).alloc (.cells #[.int .u32 0, .int .u32 0, .int .u32 0, .int .u32 0, .int .u32 0, .int .u32 0, .int .u32 0, .int .u32 0, .int .u64 0, .string ⟨#[]⟩] 87)) s c r) := AI.start w s c r
  clear hs hrt hrl hrs hn
  go_enter Tryd.func52, Tryd.ntmps52
  go_wp2
  go_loopw [1] (fun v wr => ∃ (k : Nat) (tk : ByteArray), 64 * k ≤ rt.size ∧ v = .string tk ∧ tk.data.toList = rt.data.toList.drop (64 * k) ∧ AI w wr (Sh.chg s rt.data.toList k) n r) (fun v _ => strLen v)
  case atStart => exact ⟨0, rt, by omega, rfl, by simp, AI.start w s n r⟩
  case round =>
    obtain ⟨k, tk, hk, rfl, htk, hA⟩ := hrel
    have hts : tk.size = rt.size - 64 * k := by rw [Lib.size_eq, htk, List.length_drop, ← Lib.size_eq]
    by_cases hlt : 64 ≤ tk.size
    · obtain ⟨v, hvv⟩ : ∃ v, v = Sh.chg s rt.data.toList k := ⟨_, rfl⟩
      rw [← hvv] at hA
      have hvo : v.ok := by rw [hvv]; exact Sh.chg_ok HS.out _ k
      obtain ⟨c0, c1, c2, c3, c4, c5, c6, c7, c8, c9⟩ := hA.1.cells
      obtain ⟨b, hb⟩ : ∃ b, b = tk.extract 0 64 := ⟨_, rfl⟩
      have hbs : b.size = 64 := by rw [hb]; exact piece_size tk 0 64 (by omega)
      have hbl : b.data.toList = Sh.blk rt.data.toList k := by rw [hb, Lib.extract_data, htk]; simp [Sh.blk]
      obtain ⟨t2, ht2⟩ : ∃ t2, t2 = tk.extract 64 tk.size := ⟨_, rfl⟩
      have ht2l : t2.data.toList = rt.data.toList.drop (64 * (k + 1)) := by
        rw [ht2, Lib.extract_data, htk, List.drop_drop, List.take_of_length_le (by rw [List.length_drop, ← Lib.size_eq]; omega)]
        congr 1
      have ht2s : t2.size < tk.size := by rw [Lib.size_eq, ht2l, List.length_drop, ← Lib.size_eq]; omega
      have hsl : ∀ wx, (Instr.slice 9 (.string tk) none (some (.int .i64 64)) none).run Tryd.prog wx = .ok (.string b) wx := fun wx => by
        rw [run_slice_string_h (P := Tryd.prog) wx 9 tk Tryd.underlying9 .i64 64 (by omega) (by omega), hb]; rfl
      have hsl2 : ∀ wx, (Instr.slice 9 (.string tk) (some (.int .i64 64)) none none).run Tryd.prog wx = .ok (.string t2) wx := fun wx => by
        rw [run_slice_string_l (P := Tryd.prog) wx 9 tk Tryd.underlying9 .i64 64 (by omega) (by omega), ht2]; rfl
      obtain ⟨m', hm'⟩ : ∃ m', m' = Sh.chg1 v b.data.toList := ⟨_, rfl⟩
      have hnext : Hid (m' = Sh.chg s rt.data.toList (k + 1)) := by
        show _ = _
        rw [hm', hvv, hbl]
        rfl
      have HM : Hid (m' = _) := hm'
      have HA : Hid (AI w wr v n r) := hA
      have HVO : Hid v.ok := hvo
      have HBS : Hid (b.size = 64) := hbs
      have HT2 : Hid (t2.data.toList = rt.data.toList.drop (64 * (k + 1))) := ht2l
      have hk1 : 64 * (k + 1) ≤ rt.size := by omega
      have hge : (64 : Int) ≤ (tk.size : Int) := by omega
      clear hm' hA hvv hb hbl hbs hvo ht2 ht2l htk
      go_wp2
      go_region_with (first | (go_at_call 76; refine (block29' v m' HVO.out b HBS.out HM _).mono ?_; rintro e w1 ⟨rfl, hb1⟩; have hI1 : Hid (AI w w1 v n r) := HA.out.drew.call (by exact hb1); have fz : ∀ j, w1.frozen? ⟨w.heap.size, j, none⟩ = false := AI.shape hI1.out; obtain ⟨d0, d1, d2, d3, d4, d5, d6, d7, d8, d9⟩ := hI1.out.1.cells))
      all_goals go_wp2
      all_goals
        go_roundw
        case rel =>
          have R := hI1.out.words m'
          first | exact ⟨k + 1, t2, hk1, rfl, HT2.out, by rw [← hnext.out]; exact R⟩ | ((repeat apply Exists.intro); exact ⟨⟨k + 1, t2, hk1, rfl, HT2.out, by rw [← hnext.out]; exact R⟩, rfl⟩)
        case measure => simp [strLen]; omega
    · have hkk : k = rt.size / 64 := by omega
      have hqt : tk = q := by
        apply ByteArray.ext
        apply Array.toList_inj.1
        rw [hq.out, htk, ← HRL.out, Sh.rest_eq, hkk, ← Lib.size_eq]
      have hmv : Sh.chg s rt.data.toList k = m := by
        rw [hm.out, ← HRL.out, Sh.chgAll, hkk, ← Lib.size_eq]
      rw [hmv] at hA
      rw [hqt] at hlt ⊢
      have HA : Hid (AI w wr m n r) := hA
      have A1 : Hid (AI w (wr.setCell ⟨w.heap.size, 9, none⟩ (.string q)) m n q) := hA.rest q
      obtain ⟨o0, o1, o2, o3, o4, o5, o6, o7, o8, o9⟩ := A1.out.out
      obtain ⟨c0, c1, c2, c3, c4, c5, c6, c7, c8, c9⟩ := A1.out.1.cells
      have fz : ∀ j, wr.frozen? ⟨w.heap.size, j, none⟩ = false := AI.shape hA
      have fz2 : ∀ j, (wr.setCell ⟨w.heap.size, 9, none⟩ (.string q)).frozen? ⟨w.heap.size + 1, j, none⟩ = false := row_free A1.out.2.1
      have hge : ¬ (64 : Int) ≤ (q.size : Int) := by omega
      have e9 := hA.1.cells.2.2.2.2.2.2.2.2.2
      clear hA hmv hqt hkk htk hts
      go_wp2_with fail
      refine bodyPost_ret (v := .agg #[.int .u32 m.a, .int .u32 m.b, .int .u32 m.c, .int .u32 m.d, .int .u32 m.e, .int .u32 m.f, .int .u32 m.g, .int .u32 m.h, .int .u64 (n : Int), .string q]) (by simp [results, Tryd.results52, go_sem, o0, o1, o2, o3, o4, o5, o6, o7, o8, o9]) rfl ⟨rfl, ?_⟩
      exact A1.out.kept _ _ _ _ _ _ _ _ _ _
end Go.Proofs.YthheebnmdfggnaaDoor
