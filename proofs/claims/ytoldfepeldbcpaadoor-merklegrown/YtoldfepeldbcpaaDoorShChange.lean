/- What sha.change makes of eight words and a text: the words behind all of its whole blocks. -/
import Derived.Test.YtoldfepeldbcpaaDoorShSpread
import Derived.Test.YtoldfepeldbcpaaDoorShMix
namespace Go.Proofs.YtoldfepeldbcpaaDoor
open Go.RowKit
attribute [local go_sem ↓] Go.wp_at_zero Go.wp_at_succ
/-- the two blocks of a call: the words and the result -/
def CI (w wr : World) (v : List Nat) : Prop :=
  wr.heap[w.heap.size]? = some (.cells (Sh.arr v) 70 (0, 0)) ∧ wr.heap[w.heap.size + 1]? = some (.cells (Sh.arr (List.replicate 8 0)) 70 (0, 0)) ∧ w.heap.size + 2 ≤ wr.heap.size ∧ Below w.heap.size w wr
theorem CI.put {w wr : World} {v : List Nat} (h : CI w wr v) (i x : Nat) : CI w (wr.setCell ⟨w.heap.size, i, none⟩ (.int .u32 (x : Int))) (v.set i x) := by
  obtain ⟨h1, h2, h3, h4⟩ := h
  refine ⟨row_put h1 i x, ?_, by simpa using h3, h4.setCell (p := ⟨w.heap.size, i, none⟩) (by simp) _⟩
  rw [heap_setCell_other _ _ _ _ (by show w.heap.size + 1 ≠ w.heap.size; omega)]; exact h2
theorem CI.drew {w wr : World} {v : List Nat} (h : CI w wr v) : CI w wr.drew v := ⟨h.1, h.2.1, h.2.2.1, h.2.2.2.drew⟩
theorem CI.call {w wr w1 : World} {v : List Nat} (h : CI w wr v) (hb : Below wr.heap.size wr w1) : CI w w1 v := by
  obtain ⟨h1, h2, h3, h4⟩ := h
  exact ⟨(hb.block _ (by omega)).trans h1, (hb.block _ (by omega)).trans h2, Nat.le_trans h3 hb.size, h4.trans (hb.mono (by omega))⟩
theorem CI.cells {w wr : World} {v : Sh.S8} (h : CI w wr v.list) :
    wr.cell? ⟨w.heap.size, 0, none⟩ = some (.int .u32 (v.a : Int)) ∧ wr.cell? ⟨w.heap.size, 1, none⟩ = some (.int .u32 (v.b : Int)) ∧ wr.cell? ⟨w.heap.size, 2, none⟩ = some (.int .u32 (v.c : Int)) ∧ wr.cell? ⟨w.heap.size, 3, none⟩ = some (.int .u32 (v.d : Int)) ∧
    wr.cell? ⟨w.heap.size, 4, none⟩ = some (.int .u32 (v.e : Int)) ∧ wr.cell? ⟨w.heap.size, 5, none⟩ = some (.int .u32 (v.f : Int)) ∧ wr.cell? ⟨w.heap.size, 6, none⟩ = some (.int .u32 (v.g : Int)) ∧ wr.cell? ⟨w.heap.size, 7, none⟩ = some (.int .u32 (v.h : Int)) :=
  ⟨row_cell h.1 0 (show 0 < 8 by decide), row_cell h.1 1 (show 1 < 8 by decide), row_cell h.1 2 (show 2 < 8 by decide), row_cell h.1 3 (show 3 < 8 by decide), row_cell h.1 4 (show 4 < 8 by decide), row_cell h.1 5 (show 5 < 8 by decide), row_cell h.1 6 (show 6 < 8 by decide), row_cell h.1 7 (show 7 < 8 by decide)⟩
theorem CI.stored {w wr : World} {v : Sh.S8} (h : CI w wr v.list) (m : Sh.S8) :
    CI w ((((((((wr.setCell ⟨w.heap.size, 0, none⟩ (.int .u32 (m.a : Int))).setCell ⟨w.heap.size, 1, none⟩ (.int .u32 (m.b : Int))).setCell ⟨w.heap.size, 2, none⟩ (.int .u32 (m.c : Int))).setCell ⟨w.heap.size, 3, none⟩ (.int .u32 (m.d : Int))).setCell ⟨w.heap.size, 4, none⟩ (.int .u32 (m.e : Int))).setCell ⟨w.heap.size, 5, none⟩ (.int .u32 (m.f : Int))).setCell ⟨w.heap.size, 6, none⟩ (.int .u32 (m.g : Int))).setCell ⟨w.heap.size, 7, none⟩ (.int .u32 (m.h : Int))) m.list :=
  (((((((h.put 0 m.a).put 1 m.b).put 2 m.c).put 3 m.d).put 4 m.e).put 5 m.f).put 6 m.g).put 7 m.h
theorem change_start (w : World) (v : List Nat) : CI w ((w.alloc (.cells (Sh.arr v) 70)).alloc (.cells (Sh.arr (List.replicate 8 0)) 70)) v := by
  refine ⟨?_, ?_, by simp, ((Below.refl _ w).alloc (Nat.le_refl _) _).alloc (by simp) _⟩
  · rw [Below.heap_alloc _ _ _ (by simp)]; exact heap_alloc_new w _
  · simpa using heap_alloc_new (w.alloc (.cells (Sh.arr v) 70)) (.cells (Sh.arr (List.replicate 8 0)) 70)
/-- the mixing, its words written out -/
theorem mix27' (v m : Sh.S8) (hv : v.ok) (b : ByteArray) (hm : Hid (m = Sh.chg1 v b.data.toList)) (w : World) (hK : HasK w) :
    Calls Tryd.prog 52 #[.agg #[.int .u32 v.a, .int .u32 v.b, .int .u32 v.c, .int .u32 v.d, .int .u32 v.e, .int .u32 v.f, .int .u32 v.g, .int .u32 v.h], .agg (Sh.arr (Sh.ws b.data.toList 64))] w
      fun e w' => e = .returned (.agg #[.int .u32 m.a, .int .u32 m.b, .int .u32 m.c, .int .u32 m.d, .int .u32 m.e, .int .u32 m.f, .int .u32 m.g, .int .u32 m.h]) ∧ Below w.heap.size w w' := by
  have := mix27 v hv (Sh.ws b.data.toList 64) (Sh.ws_length _ _) (Sh.ws_lt _ _) w hK
  rw [show Sh.mixed v (Sh.ws b.data.toList 64) = m from hm.out.symm] at this
  exact this
theorem wf_quo (n : Nat) (hn : n ≤ 9223372036854775807) : ((n : Int).tdiv 64) = ((n / 64 : Nat) : Int) := by
  rw [Int.tdiv_eq_ediv_of_nonneg (by omega)]; omega
set_option maxHeartbeats 2000000 in
set_option maxRecDepth 10000 in
theorem change20 (s : Sh.S8) (hs : s.ok) (t : ByteArray) (ht : t.size ≤ 1125899906842624) (w : World) (hK : HasK w) :
    Calls Tryd.prog 28 #[.agg (Sh.arr s.list), .string t] w fun e w' => e = .returned (.agg (Sh.arr (Sh.chg s t.data.toList (t.size / 64)).list)) ∧ Below w.heap.size w w' := by
  show Calls Tryd.prog 28 #[.agg #[.int .u32 s.a, .int .u32 s.b, .int .u32 s.c, .int .u32 s.d, .int .u32 s.e, .int .u32 s.f, .int .u32 s.g, .int .u32 s.h], .string t] w _
  have HK : Hid (HasK w) := hK
  have hs0 : Hid s.ok := hs
  have hB : 0 < w.heap.size := hK.1
  clear hK hs
  go_enter Tryd.func28, Tryd.ntmps28
  go_wp2
  go_loopw [9] (fun i wr => ∃ k : Nat, k ≤ t.size / 64 ∧ i = .int .i64 k ∧ CI w wr (Sh.chg s t.data.toList k).list) (fun i _ => t.size / 64 - (intOf i).toNat)
  case atStart => exact ⟨0, by omega, rfl, change_start w s.list⟩
  case round =>
    obtain ⟨k, hk, rfl, hI⟩ := hrel
    by_cases hlt : k < t.size / 64
    · obtain ⟨v, hvv⟩ : ∃ v, v = Sh.chg s t.data.toList k := ⟨_, rfl⟩
      rw [← hvv] at hI
      have hvo : v.ok := by rw [hvv]; exact Sh.chg_ok hs0.out _ k
      obtain ⟨c0, c1, c2, c3, c4, c5, c6, c7⟩ := hI.cells
      obtain ⟨b, hb⟩ : ∃ b, b = t.extract (64 * k) (64 * k + 64) := ⟨_, rfl⟩
      have hbs : b.size = 64 := by rw [hb]; exact piece_size t (64 * k) 64 (by omega)
      have hbl : b.data.toList = Sh.blk t.data.toList k := by rw [hb, Lib.extract_data, show 64 * k + 64 - 64 * k = 64 by omega]; rfl
      have hsl : ∀ wx, (Instr.slice 9 (.string t) (some (.int .i64 (64 * (k : Int)))) (some (.int .i64 (64 * ((k : Int) + 1)))) none).run Tryd.prog wx = .ok (.string b) wx := fun wx => by
        rw [slice_str t _ _ (by omega) (by omega) (by omega), hb, show (64 * (k : Int)).toNat = 64 * k by omega, show (64 * ((k : Int) + 1)).toNat = 64 * k + 64 by omega]
      obtain ⟨m, hm⟩ : ∃ m, m = Sh.chg1 v b.data.toList := ⟨_, rfl⟩
      have hnext : Hid (m = Sh.chg s t.data.toList (k + 1)) := by
        show _ = _
        rw [hm, hvv, hbl]
        rfl
      have HM : Hid (m = _) := hm
      have HI : Hid (CI w wr v.list) := hI
      have HVO : Hid v.ok := hvo
      have HBS : Hid (b.size = 64) := hbs
      clear hm hI hvv hb hbl hbs hvo
      have e1 : IntKind.i64.wrap (64 * (k : Int)) = 64 * (k : Int) := by rw [IntKind.wrap_i64]; omega
      have e2 : IntKind.i64.wrap ((k : Int) + 1) = (k : Int) + 1 := by rw [IntKind.wrap_i64]; omega
      have e3 : IntKind.i64.wrap (64 * ((k : Int) + 1)) = 64 * ((k : Int) + 1) := by rw [IntKind.wrap_i64]; omega
      go_wp2
      go_region_with (first | (go_at_call 53; refine (spread28 b _ HBS.out).mono ?_; rintro e w1 ⟨rfl, hb1⟩; have hI1 : Hid (CI w w1 v.list) := HI.out.drew.call (by exact hb1); obtain ⟨d0, d1, d2, d3, d4, d5, d6, d7⟩ := hI1.out.cells) | (go_at_call 52; refine (mix27' v m HVO.out b HM _ (HK.out.below hB hI1.out.2.2.2)).mono ?_; rintro e w2 ⟨rfl, hb2⟩; have hI2 : Hid (CI w w2 v.list) := hI1.out.call (by exact hb2); obtain ⟨e0, e1, e2, e3, e4, e5, e6, e7⟩ := hI2.out.cells; have fz : ∀ j, w2.frozen? ⟨w.heap.size, j, none⟩ = false := row_free hI2.out.1))
      all_goals go_wp2
      all_goals
        go_roundw
        case rel =>
          have R := hI2.out.stored m
          first | exact ⟨k + 1, by omega, by go_num, by rw [← hnext.out]; exact R⟩ | ((repeat apply Exists.intro); exact ⟨⟨k + 1, by omega, by go_num, by rw [← hnext.out]; exact R⟩, rfl⟩)
        case measure => simp [intOf]; omega
    · have hk64 : k = t.size / 64 := by omega
      subst hk64
      obtain ⟨D, hD⟩ : ∃ D, D = Sh.arr (Sh.chg s t.data.toList (t.size / 64)).list := ⟨_, rfl⟩
      have hl8 : D.size = 8 := by rw [hD]; rfl
      have h1 : D.all (·.oneCell') = true := by rw [hD]; exact arr_one _
      obtain ⟨hb, hz, _, hnx⟩ := hI
      rw [← hD] at hb
      have ht : wr.there (w.heap.size + 1) 0 D.size := row_there hz (by rw [hl8]; simp [Sh.arr])
      have hst := row_stored hz D (by rw [hl8]; simp [Sh.arr])
      have hbl := below_setCells (b := w.heap.size + 1) (by omega) D.toList 0 hnx
      have HD : Hid (D = _) := hD
      clear hD hk hnx
      go_wp2_with (first | (refine wpList_load_row rfl 70 _ rfl w.heap.size rfl 70 D (0, 0) _ hb Tryd.underlying70 rfl (by rw [hl8]; exact info26) ?_) | (refine wpList_store_mid rfl 70 _ _ rfl (w.heap.size + 1) 0 D rfl rfl ht (by rw [hl8]; exact info26) h1 ?_))
      refine bodyPost_ret (v := .agg D) (results_cell_row rfl _ _ (w.heap.size + 1) 70 D (0, 0) _ rfl hst Tryd.underlying70 rfl (by rw [hl8]; exact info26)) rfl ⟨by rw [HD.out], hbl⟩
end Go.Proofs.YtoldfepeldbcpaaDoor
