/- What sha.mix makes of eight words and a schedule. -/
import Derived.Test.YtlafdlcpelkdpaaGreatDoorJGM
import Derived.Laws.CopyOwn
namespace Go.Proofs.YtlafdlcpelkdpaaGreatDoor
open Go.RowKit
attribute [local go_sem ↓] Go.wp_at_zero Go.wp_at_succ
/-- the four blocks of a call: the words, the schedule, the result, the words in work -/
def MI (w wr : World) (s v : List Nat) (C : Array Value) : Prop :=
  wr.heap[w.heap.size]? = some (.cells (Sh.arr s) 78 (0, 0)) ∧ wr.heap[w.heap.size + 1]? = some (.cells C 105 (0, 0)) ∧ wr.heap[w.heap.size + 1 + 1]? = some (.cells (Sh.arr (List.replicate 8 0)) 78 (0, 0)) ∧
    wr.heap[w.heap.size + 1 + 1 + 1]? = some (.cells (Sh.arr v) 78 (0, 0)) ∧ wr.heap.size = w.heap.size + 4 ∧ Below w.heap.size w wr
theorem below_drewN' {B n : Nat} {a w : World} (h : Below B a w) : Below B a (w.drewN n) := ⟨h.os, h.tape, h.output, h.size, h.block⟩
theorem MI.drewN {w wr : World} {s v : List Nat} {C : Array Value} (h : MI w wr s v C) (n : Nat) : MI w (wr.drewN n) s v C := ⟨h.1, h.2.1, h.2.2.1, h.2.2.2.1, h.2.2.2.2.1, below_drewN' h.2.2.2.2.2⟩
theorem MI.drew {w wr : World} {s v : List Nat} {C : Array Value} (h : MI w wr s v C) : MI w wr.drew s v C := ⟨h.1, h.2.1, h.2.2.1, h.2.2.2.1, h.2.2.2.2.1, h.2.2.2.2.2.drew⟩
theorem MI.put {w wr : World} {s v : List Nat} {C : Array Value} (h : MI w wr s v C) (i x : Nat) : MI w (wr.setCell ⟨w.heap.size + 1 + 1 + 1, i, none⟩ (.int .u32 (x : Int))) s (v.set i x) C := by
  obtain ⟨h1, h2, h3, h4, h5, h6⟩ := h
  refine ⟨?_, ?_, ?_, row_put h4 i x, by simpa using h5, h6.setCell (p := ⟨w.heap.size + 1 + 1 + 1, i, none⟩) (by show _ ≤ _ + 1 + 1 + 1; omega) _⟩
  · rw [heap_setCell_other _ _ _ _ (by show _ ≠ _ + 1 + 1 + 1; omega)]; exact h1
  · rw [heap_setCell_other _ _ _ _ (by show _ ≠ _ + 1 + 1 + 1; omega)]; exact h2
  · rw [heap_setCell_other _ _ _ _ (by show _ ≠ _ + 1 + 1 + 1; omega)]; exact h3
theorem MI.add {w wr : World} {s v : List Nat} {C : Array Value} (h : MI w wr s v C) (i x : Nat) : MI w (wr.setCell ⟨w.heap.size, i, none⟩ (.int .u32 (x : Int))) (s.set i x) v C := by
  obtain ⟨h1, h2, h3, h4, h5, h6⟩ := h
  refine ⟨row_put h1 i x, ?_, ?_, ?_, by simpa using h5, h6.setCell (p := ⟨w.heap.size, i, none⟩) (by simp) _⟩
  · rw [heap_setCell_other _ _ _ _ (by show w.heap.size + 1 ≠ w.heap.size; omega)]; exact h2
  · rw [heap_setCell_other _ _ _ _ (by show w.heap.size + 1 + 1 ≠ w.heap.size; omega)]; exact h3
  · rw [heap_setCell_other _ _ _ _ (by show w.heap.size + 1 + 1 + 1 ≠ w.heap.size; omega)]; exact h4
theorem MI.row {w wr : World} {s v : List Nat} {C : Array Value} (h : MI w wr s v C) (D : List Nat) : MI w (wr.setRow (w.heap.size + 1 + 1 + 1) (Sh.arr D)) s D C := by
  obtain ⟨h1, h2, h3, h4, h5, h6⟩ := h
  refine ⟨?_, ?_, ?_, setRow_heap _ _ _ _ 78 (0, 0) h4, by simpa using h5, below_setRow h6 (by omega) _⟩
  · rw [setRow_other _ _ _ _ (by omega)]; exact h1
  · rw [setRow_other _ _ _ _ (by omega)]; exact h2
  · rw [setRow_other _ _ _ _ (by omega)]; exact h3
theorem info26 : (Tryz.prog.info? 78).map (·.size) = some 8 := by kernel_rfl
theorem info25 : (Tryz.prog.info? 77).map (·.size) = some 1 := by kernel_rfl
theorem copy_moves {w wr : World} {s : List Nat} {v : Sh.S8} {C : Array Value} (h : MI w wr s v.list C) (n : Nat) :
    (Builtin.copy_ #[131, 131] 3 #[.slice (some ⟨w.heap.size + 1 + 1 + 1, 1, none⟩) 7 7, .slice (some ⟨w.heap.size + 1 + 1 + 1, 0, none⟩) 7 8]).run Tryz.prog (wr.drewN n) =
      .ok (.int .i64 7) ((wr.setRow (w.heap.size + 1 + 1 + 1) (Sh.arr [v.a, v.a, v.b, v.c, v.d, v.e, v.f, v.g])).drewN n) := by
  have hv := h.2.2.2.1
  have := run_copy_row (P := Tryz.prog) (wr.drewN n) 131 131 3 77 (w.heap.size + 1 + 1 + 1) 1 7 7 ⟨w.heap.size + 1 + 1 + 1, 0, none⟩ 7 8 (Sh.arr v.list) 78 (Sh.arr [v.a, v.b, v.c, v.d, v.e, v.f, v.g]).toList
    Tryz.underlying131 info25 hv rfl (fun j x hx => ?_) (by simp [Sh.arr, Sh.S8.list]) (fun x hx => ?_)
  · rw [this]
    rfl
  · have e : (⟨w.heap.size + 1 + 1 + 1, 0, none⟩ : Addr).add j = ⟨w.heap.size + 1 + 1 + 1, j, none⟩ := by rw [Addr.add_mid]; simp
    rw [e, cell_of_row (wr.drewN n) _ j _ 78 (0, 0) hv]
    have hj : j < 7 := by
      have := (List.getElem?_eq_some_iff.1 hx).1
      simpa [Sh.arr] using this
    match j, hj with
    | 0, _ => exact hx
    | 1, _ => exact hx
    | 2, _ => exact hx
    | 3, _ => exact hx
    | 4, _ => exact hx
    | 5, _ => exact hx
    | 6, _ => exact hx
  · simp [Sh.arr] at hx
    rcases hx with rfl | rfl | rfl | rfl | rfl | rfl | rfl <;> rfl
/-- the constants lie where the program has them -/
def HasK (w : World) : Prop := 0 < w.heap.size ∧ ∀ i, i < 64 → w.cell? ⟨0, i, none⟩ = some (.int .u32 ((Sh.K.getD i 0 : Nat) : Int))
theorem HasK.below {w w' : World} (h : HasK w) {B : Nat} (hB : 0 < B) (hb : Below B w w') : HasK w' :=
  ⟨Nat.lt_of_lt_of_le h.1 hb.size, fun i hi => (hb.cell (p := ⟨0, i, none⟩) hB).trans (h.2 i hi)⟩
theorem mix_start (w : World) (s : List Nat) (C : Array Value) :
    MI w ((((w.alloc (.cells (Sh.arr s) 78)).alloc (.cells C 105)).alloc (.cells (Sh.arr (List.replicate 8 0)) 78)).alloc (.cells (Sh.arr s) 78)) s s C := by
  refine ⟨?_, ?_, ?_, ?_, by simp, ((((Below.refl _ w).alloc (Nat.le_refl _) _).alloc (by simp) _).alloc (by simp; omega) _).alloc (by simp; omega) _⟩
  · rw [Below.heap_alloc _ _ _ (by simp; omega), Below.heap_alloc _ _ _ (by simp; omega), Below.heap_alloc _ _ _ (by simp)]; exact heap_alloc_new w _
  · rw [Below.heap_alloc _ _ _ (by simp), Below.heap_alloc _ _ _ (by simp)]; simpa using heap_alloc_new (w.alloc (.cells (Sh.arr s) 78)) (.cells C 105)
  · rw [Below.heap_alloc _ _ _ (by simp)]; simpa using heap_alloc_new ((w.alloc (.cells (Sh.arr s) 78)).alloc (.cells C 105)) (.cells (Sh.arr (List.replicate 8 0)) 78)
  · simpa using heap_alloc_new (((w.alloc (.cells (Sh.arr s) 78)).alloc (.cells C 105)).alloc (.cells (Sh.arr (List.replicate 8 0)) 78)) (.cells (Sh.arr s) 78)
theorem MI.step {w w2 : World} {s : List Nat} {v : Sh.S8} {C : Array Value} (h : MI w w2 s [v.a, v.a, v.b, v.c, v.d, v.e, v.f, v.g] C) (n k x : Nat) :
    MI w (((w2.drewN n).setCell ⟨w.heap.size + 1 + 1 + 1, 0, none⟩ (.int .u32 (((Sh.tOf v.e v.f v.g v.h k x + Sh.uOf v.a v.b v.c) % 4294967296 : Nat) : Int))).setCell ⟨w.heap.size + 1 + 1 + 1, 4, none⟩ (.int .u32 (((v.d + Sh.tOf v.e v.f v.g v.h k x) % 4294967296 : Nat) : Int))) s (Sh.step v k x).list C :=
  ((h.drewN n).put 0 _).put 4 _
set_option maxHeartbeats 2000000 in
set_option maxRecDepth 10000 in
theorem mix27 (s : Sh.S8) (hs : s.ok) (l : List Nat) (hl : l.length = 64) (hlt : ∀ x ∈ l, x < 4294967296) (w : World) (hK : HasK w) :
    Calls Tryz.prog 50 #[.agg (Sh.arr s.list), .agg (Sh.arr l)] w fun e w' => e = .returned (.agg (Sh.arr (Sh.mixed s l).list)) ∧ Below w.heap.size w w' := by
  obtain ⟨C, hC⟩ : ∃ C, C = Sh.arr l := ⟨_, rfl⟩
  rw [← hC]
  have hCs : C.size = 64 := by rw [hC, Sh.arr_size, hl]
  show Calls Tryz.prog 50 #[.agg #[.int .u32 s.a, .int .u32 s.b, .int .u32 s.c, .int .u32 s.d, .int .u32 s.e, .int .u32 s.f, .int .u32 s.g, .int .u32 s.h], .agg C] w _
  have HK : Hid (HasK w) := hK
  have hlt0 : Hid (∀ x ∈ l, x < 4294967296) := hlt
  have hs0 : Hid s.ok := hs
  have HC : Hid (C = Sh.arr l) := hC
  have hB : 0 < w.heap.size := hK.1
  clear hK hlt hs hC
  go_enter Tryz.func50, Tryz.ntmps50
  go_wp2
  go_loopw [17] (fun i wr => ∃ k : Nat, k ≤ 64 ∧ i = .int .i64 k ∧ MI w wr s.list (Sh.rounds s l k).list C) (fun i _ => 64 - (intOf i).toNat)
  case atStart => exact ⟨0, by omega, rfl, mix_start w s.list C⟩
  case round =>
    obtain ⟨k, hk, rfl, hI⟩ := hrel
    by_cases hlt : k < 64
    · obtain ⟨v, hvv⟩ : ∃ v, v = Sh.rounds s l k := ⟨_, rfl⟩
      rw [← hvv] at hI
      have hv := hI.2.2.2.1
      have hvo : v.ok := by rw [hvv]; exact Sh.rounds_ok l hs0.out k
      obtain ⟨wk, hwk, ewk⟩ : ∃ x : Nat, wr.cell? ⟨w.heap.size + 1, k, none⟩ = some (.int .u32 x) ∧ x = l.getD k 0 := ⟨_, row_cell (L := l) (by rw [← HC.out]; exact hI.2.1) k (by omega), rfl⟩
      obtain ⟨kk, hkk, ekk⟩ : ∃ x : Nat, wr.cell? ⟨0, k, none⟩ = some (.int .u32 x) ∧ x = Sh.K.getD k 0 := ⟨_, (HK.out.below hB hI.2.2.2.2.2).2 k hlt, rfl⟩
      have hnext : Hid (Sh.step v kk wk = Sh.rounds s l (k + 1)) := by
        show _ = _
        rw [ewk, ekk, hvv]
        rfl
      have HVO : Hid v.ok := hvo
      have lk : (k : Int) < 64 := by omega
      have le : v.e < 4294967296 := hvo.2.2.2.2.1
      have la : v.a < 4294967296 := hvo.1
      have c0 : wr.cell? ⟨w.heap.size + 1 + 1 + 1, 0, none⟩ = some (.int .u32 (v.a : Int)) := row_cell hv 0 (show 0 < 8 by decide)
      have c1 : wr.cell? ⟨w.heap.size + 1 + 1 + 1, 1, none⟩ = some (.int .u32 (v.b : Int)) := row_cell hv 1 (show 1 < 8 by decide)
      have c2 : wr.cell? ⟨w.heap.size + 1 + 1 + 1, 2, none⟩ = some (.int .u32 (v.c : Int)) := row_cell hv 2 (show 2 < 8 by decide)
      have c4 : wr.cell? ⟨w.heap.size + 1 + 1 + 1, 4, none⟩ = some (.int .u32 (v.e : Int)) := row_cell hv 4 (show 4 < 8 by decide)
      have c5 : wr.cell? ⟨w.heap.size + 1 + 1 + 1, 5, none⟩ = some (.int .u32 (v.f : Int)) := row_cell hv 5 (show 5 < 8 by decide)
      have c6 : wr.cell? ⟨w.heap.size + 1 + 1 + 1, 6, none⟩ = some (.int .u32 (v.g : Int)) := row_cell hv 6 (show 6 < 8 by decide)
      have c7 : wr.cell? ⟨w.heap.size + 1 + 1 + 1, 7, none⟩ = some (.int .u32 (v.h : Int)) := row_cell hv 7 (show 7 < 8 by decide)
      obtain ⟨w2, hcp, hI2⟩ : ∃ w2, (∀ n, (Builtin.copy_ #[131, 131] 3 #[.slice (some ⟨w.heap.size + 1 + 1 + 1, 1, none⟩) 7 7, .slice (some ⟨w.heap.size + 1 + 1 + 1, 0, none⟩) 7 8]).run Tryz.prog (wr.drewN n) = .ok (.int .i64 7) (w2.drewN n)) ∧ MI w w2 s.list [v.a, v.a, v.b, v.c, v.d, v.e, v.f, v.g] C := ⟨_, copy_moves hI, hI.row _⟩
      have hv2 := hI2.2.2.2.1
      have d0 : w2.cell? ⟨w.heap.size + 1 + 1 + 1, 0, none⟩ = some (.int .u32 (v.a : Int)) := row_cell hv2 0 (show 0 < 8 by decide)
      have d4 : w2.cell? ⟨w.heap.size + 1 + 1 + 1, 4, none⟩ = some (.int .u32 (v.d : Int)) := row_cell hv2 4 (show 4 < 8 by decide)
      have fz : ∀ j, w2.frozen? ⟨w.heap.size + 1 + 1 + 1, j, none⟩ = false := row_free hv2
      have HI2 : Hid (MI w w2 _ _ _) := hI2
      clear hI hv hI2 hv2 hvv hCs hvo ewk ekk
      go_wp2
      go_quiet (fail)
      go_wp2
      go_region_held3 (fun w' => w'.cell? ⟨w.heap.size + 1 + 1 + 1, 7, none⟩ = some (.int .u32 (v.h : Int)) ∧ w'.cell? ⟨0, k, none⟩ = some (.int .u32 kk) ∧ w'.cell? ⟨w.heap.size + 1, k, none⟩ = some (.int .u32 wk)) (go_keep) (first | (go_at_call 70; refine (rot31 _ _ _ (by assumption) (by decide) (by decide)).mono ?_; rintro e w' ⟨rfl, rfl⟩))
      go_wp2_with (go_at_call 70; refine (rot31 _ _ _ (by assumption) (by decide) (by decide)).mono ?_; rintro e w' ⟨rfl, rfl⟩)
      go_region
      go_wp2
      go_roundw
      case rel =>
        rw [Sh.first_eq v kk wk HVO.out, Sh.fifth_eq v kk wk HVO.out]
        have R := HI2.out.step (nq + 1 + 1) kk wk
        rw [hnext.out] at R
        first | exact ⟨k + 1, by omega, by go_num, R⟩ | ((repeat apply Exists.intro); exact ⟨⟨k + 1, by omega, by go_num, R⟩, rfl⟩)
      case measure => simp [intOf]; omega
    · have hk64 : k = 64 := by omega
      subst hk64
      clear hk hlt
      obtain ⟨v, hvv⟩ : ∃ v, v = Sh.rounds s l 64 := ⟨_, rfl⟩
      rw [← hvv] at hI
      have HV : Hid (v = _) := hvv
      have HI : Hid (MI w wr _ _ _) := hI
      clear hvv hI
      go_wp2
      go_loopw [93] (fun i wx => ∃ k : Nat, k ≤ 8 ∧ i = .int .i64 k ∧ MI w wx (Sh.addTo s.list v.list k) v.list C) (fun i _ => 8 - (intOf i).toNat)
      case atStart => exact ⟨0, by omega, rfl, HI.out⟩
      case round =>
        clear HI
        obtain ⟨m, hm, rfl, hI⟩ := hrel
        have hal := Sh.addTo_length s.list v.list m
        have hsl : s.list.length = 8 := rfl
        have hvl : v.list.length = 8 := rfl
        by_cases hlt : m < 8
        · obtain ⟨p, hp, ep⟩ : ∃ p : Nat, wr.cell? ⟨w.heap.size, m, none⟩ = some (.int .u32 p) ∧ p = (Sh.addTo s.list v.list m).getD m 0 := ⟨_, row_cell hI.1 m (by omega), rfl⟩
          obtain ⟨q, hq, eq⟩ : ∃ p : Nat, wr.cell? ⟨w.heap.size + 1 + 1 + 1, m, none⟩ = some (.int .u32 p) ∧ p = v.list.getD m 0 := ⟨_, row_cell hI.2.2.2.1 m (by omega), rfl⟩
          have fz : wr.frozen? ⟨w.heap.size, m, none⟩ = false := row_free hI.1 m
          have R : Hid (MI w (wr.setCell ⟨w.heap.size, m, none⟩ (.int .u32 (((p + q) % 4294967296 : Nat) : Int))).drew (Sh.addTo s.list v.list (m + 1)) v.list C) := by
            show MI _ _ _ _ _
            have := (hI.add m ((p + q) % 4294967296)).drew
            rw [ep, eq] at this ⊢
            exact this
          have lm : (m : Int) < 8 := by omega
          clear hI hal hsl hvl ep eq
          go_wp2
          go_region
          all_goals go_wp2
          go_roundw
          case rel =>
            rw [show ((p : Int) + (q : Int)) % 4294967296 = (((p + q) % 4294967296 : Nat) : Int) by omega]
            first | exact ⟨m + 1, by omega, by go_num, R.out⟩ | ((repeat apply Exists.intro); exact ⟨⟨m + 1, by omega, by go_num, R.out⟩, rfl⟩)
          case measure => simp [intOf]; omega
        · have hm8 : m = 8 := by omega
          subst hm8
          rw [Sh.addTo_8] at hI
          obtain ⟨D, hD⟩ : ∃ D, D = Sh.arr (Sh.plus s v).list := ⟨_, rfl⟩
          have hl8 : D.size = 8 := by rw [hD]; rfl
          have h1 : D.all (·.oneCell') = true := by rw [hD]; exact arr_one _
          obtain ⟨hb, _, hz, _, _, hnx⟩ := hI
          rw [← hD] at hb
          have ht : wr.there (w.heap.size + 1 + 1) 0 D.size := row_there hz (by rw [hl8]; simp [Sh.arr])
          have hst := row_stored hz D (by rw [hl8]; simp [Sh.arr])
          have hbl := below_setCells (b := w.heap.size + 1 + 1) (by omega) D.toList 0 hnx
          have HD : Hid (D = _) := hD
          clear hD hm hlt hnx hal hsl hvl
          go_wp2_with (first | (refine wpList_load_row rfl 78 _ rfl w.heap.size rfl 78 D (0, 0) _ hb Tryz.underlying78 rfl (by rw [hl8]; exact info26) ?_) | (refine wpList_store_mid rfl 78 _ _ rfl (w.heap.size + 1 + 1) 0 D rfl rfl ht (by rw [hl8]; exact info26) h1 ?_))
          refine bodyPost_ret (v := .agg D) (results_cell_row rfl _ _ (w.heap.size + 1 + 1) 78 D (0, 0) _ rfl hst Tryz.underlying78 rfl (by rw [hl8]; exact info26)) rfl ⟨by rw [HD.out, HV.out]; rfl, hbl⟩
end Go.Proofs.YtlafdlcpelkdpaaGreatDoor
