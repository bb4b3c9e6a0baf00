/- What sha.spread makes of a block of 64 bytes: the 64 words of the schedule, in memory of its own. -/
import Derived.Test.YtlafdlcpelkdpaaGreatDoorJGM
import Derived.Lib.Strings
namespace Go.Proofs.YtlafdlcpelkdpaaGreatDoor
open Go.RowKit
attribute [local go_sem ↓] Go.wp_at_zero Go.wp_at_succ
theorem index_byte (b : ByteArray) (i : Int) (h0 : 0 ≤ i) (h1 : i < b.size) (wx : World) :
    (Instr.index 9 (.string b) (.int .i64 i)).run Tryz.prog wx = .ok (.int .u8 (((b.data.toList.getD i.toNat 0).toNat : Nat) : Int)) wx := by
  rw [run_index_string (P := Tryz.prog) wx 9 b .i64 i Tryz.underlying9, dif_pos ⟨h0, h1⟩]
  have h2 : i.toNat < b.size := by omega
  have h3 : i.toNat < b.data.toList.length := by rw [← Lib.size_eq]; exact h2
  have e : b[i.toNat] = b.data.toList.getD i.toNat 0 := by
    rw [List.getD_eq_getElem?_getD, List.getElem?_eq_getElem h3]
    rfl
  rw [e]
theorem slice_str (s : ByteArray) (i j : Int) (h0 : 0 ≤ i) (h1 : i ≤ j) (h2 : j ≤ s.size) (wx : World) :
    (Instr.slice 9 (.string s) (some (.int .i64 i)) (some (.int .i64 j)) none).run Tryz.prog wx = .ok (.string (s.extract i.toNat j.toNat)) wx := by
  rw [run_slice_string_if (P := Tryz.prog) wx 9 s .i64 .i64 i j Tryz.underlying9, if_pos ⟨by omega, h2⟩, if_pos ⟨h0, h1⟩]
theorem piece_byte (s : ByteArray) (a n j : Nat) (hj : j < n) : (s.extract a (a + n)).data.toList.getD j 0 = s.data.toList.getD (a + j) 0 := by
  rw [Lib.extract_data, List.getD_eq_getElem?_getD, List.getD_eq_getElem?_getD, show a + n - a = n by omega, List.getElem?_take_of_lt hj, List.getElem?_drop]
theorem piece_size (s : ByteArray) (a n : Nat) (h : a + n ≤ s.size) : (s.extract a (a + n)).size = n := by
  rw [Lib.size_eq, Lib.extract_data, List.length_take, List.length_drop, ← Lib.size_eq]
  omega

/-- what a round lays: a row with one word more -/
theorem spread_step {w wr : World} {l : List UInt8} {k x : Nat} (hk : k < 64) (hx : x = Sh.nextW l (Sh.ws l k))
    (hz : wr.heap[w.heap.size]? = some (.cells (Sh.arr (List.replicate 64 0)) 105 (0, 0))) (hb : wr.heap[w.heap.size + 1]? = some (.cells (Sh.arr (Sh.wz l k)) 105 (0, 0)))
    (hsz : wr.heap.size = w.heap.size + 2) (hnx : Below w.heap.size w wr) :
    (wr.setCell ⟨w.heap.size + 1, k, none⟩ (.int .u32 (x : Int))).heap[w.heap.size]? = some (.cells (Sh.arr (List.replicate 64 0)) 105 (0, 0)) ∧
    (wr.setCell ⟨w.heap.size + 1, k, none⟩ (.int .u32 (x : Int))).heap[w.heap.size + 1]? = some (.cells (Sh.arr (Sh.wz l (k + 1))) 105 (0, 0)) ∧
    (wr.setCell ⟨w.heap.size + 1, k, none⟩ (.int .u32 (x : Int))).heap.size = w.heap.size + 2 ∧ Below w.heap.size w (wr.setCell ⟨w.heap.size + 1, k, none⟩ (.int .u32 (x : Int))) := by
  refine ⟨?_, ?_, by simpa using hsz, hnx.setCell (p := ⟨w.heap.size + 1, k, none⟩) (by simp) _⟩
  · rw [heap_setCell_other _ _ _ _ (by simp)]; exact hz
  · rw [row_put hb, hx, Sh.wz_set l k hk]

theorem zeros64 : (#[Value.int IntKind.u32 0, Value.int IntKind.u32 0, Value.int IntKind.u32 0, Value.int IntKind.u32 0, Value.int IntKind.u32 0, Value.int IntKind.u32 0, Value.int IntKind.u32 0, Value.int IntKind.u32 0, Value.int IntKind.u32 0, Value.int IntKind.u32 0, Value.int IntKind.u32 0, Value.int IntKind.u32 0, Value.int IntKind.u32 0, Value.int IntKind.u32 0, Value.int IntKind.u32 0, Value.int IntKind.u32 0, Value.int IntKind.u32 0, Value.int IntKind.u32 0, Value.int IntKind.u32 0, Value.int IntKind.u32 0, Value.int IntKind.u32 0, Value.int IntKind.u32 0, Value.int IntKind.u32 0, Value.int IntKind.u32 0, Value.int IntKind.u32 0, Value.int IntKind.u32 0, Value.int IntKind.u32 0, Value.int IntKind.u32 0, Value.int IntKind.u32 0, Value.int IntKind.u32 0, Value.int IntKind.u32 0, Value.int IntKind.u32 0, Value.int IntKind.u32 0, Value.int IntKind.u32 0, Value.int IntKind.u32 0, Value.int IntKind.u32 0, Value.int IntKind.u32 0, Value.int IntKind.u32 0, Value.int IntKind.u32 0, Value.int IntKind.u32 0, Value.int IntKind.u32 0, Value.int IntKind.u32 0, Value.int IntKind.u32 0, Value.int IntKind.u32 0, Value.int IntKind.u32 0, Value.int IntKind.u32 0, Value.int IntKind.u32 0, Value.int IntKind.u32 0, Value.int IntKind.u32 0, Value.int IntKind.u32 0, Value.int IntKind.u32 0, Value.int IntKind.u32 0, Value.int IntKind.u32 0, Value.int IntKind.u32 0, Value.int IntKind.u32 0, Value.int IntKind.u32 0, Value.int IntKind.u32 0, Value.int IntKind.u32 0, Value.int IntKind.u32 0, Value.int IntKind.u32 0, Value.int IntKind.u32 0, Value.int IntKind.u32 0, Value.int IntKind.u32 0, Value.int IntKind.u32 0] : Array Value) = Sh.arr (List.replicate 64 0) := rfl
theorem spread_start (w : World) (l : List UInt8) :
    let W := (w.alloc (.cells (Sh.arr (List.replicate 64 0)) 105)).alloc (.cells (Sh.arr (List.replicate 64 0)) 105)
    W.heap[w.heap.size]? = some (.cells (Sh.arr (List.replicate 64 0)) 105 (0, 0)) ∧ W.heap[w.heap.size + 1]? = some (.cells (Sh.arr (Sh.wz l 0)) 105 (0, 0)) ∧ W.heap.size = w.heap.size + 2 ∧ Below w.heap.size w W := by
  refine ⟨?_, ?_, by simp, ((Below.refl _ w).alloc (Nat.le_refl _) _).alloc (by simp) _⟩
  · rw [Below.heap_alloc _ _ _ (by simp)]; exact heap_alloc_new w _
  · rw [Sh.wz_0]
    have := heap_alloc_new (w.alloc (.cells (Sh.arr (List.replicate 64 0)) 105)) (.cells (Sh.arr (List.replicate 64 0)) 105)
    simpa using this
theorem info50 : (Tryz.prog.info? 105).map (·.size) = some 64 := by kernel_rfl

set_option maxHeartbeats 2000000 in
set_option maxRecDepth 10000 in
theorem spread28 (s : ByteArray) (w : World) (hs : s.size = 64) :
    Calls Tryz.prog 51 #[.string s] w fun e w' => e = .returned (.agg (Sh.arr (Sh.ws s.data.toList 64))) ∧ Below w.heap.size w w' := by
  go_enter Tryz.func51, Tryz.ntmps51
  go_wp2
  go_loopw [9] (fun i wr => ∃ k : Nat, k ≤ 16 ∧ i = .int .i64 k ∧ wr.heap[w.heap.size]? = some (.cells (Sh.arr (List.replicate 64 0)) 105 (0, 0)) ∧ wr.heap[w.heap.size + 1]? = some (.cells (Sh.arr (Sh.wz s.data.toList k)) 105 (0, 0)) ∧ wr.heap.size = w.heap.size + 2 ∧ Below w.heap.size w wr) (fun i _ => 16 - (intOf i).toNat)
  case atStart =>
    have := spread_start w s.data.toList
    exact ⟨0, by omega, rfl, this⟩
  case round =>
    obtain ⟨k, hk, rfl, hz, hb, hsz, hnx⟩ := hrel
    by_cases hlt : k < 16
    · have hf : wr.frozen? ⟨w.heap.size + 1, k, none⟩ = false := row_free hb k
      have hc := row_cell hb k (by rw [Sh.wz_length _ _ (by omega)]; omega)
      have ST := fun x hx => spread_step (x := x) (k := k) (by omega) hx hz hb hsz hnx
      have HST : Hid (∀ x, _ → _) := ST
      clear hz hb hsz hnx ST
      obtain ⟨b, hb⟩ : ∃ b, b = s.extract (4 * k) (4 * k + 4) := ⟨_, rfl⟩
      have hbs : b.size = 4 := by rw [hb]; exact piece_size s (4 * k) 4 (by omega)
      have hsl : ∀ wx, (Instr.slice 9 (.string s) (some (.int .i64 (4 * (k : Int)))) (some (.int .i64 (4 * (k : Int) + 4))) none).run Tryz.prog wx = .ok (.string b) wx := fun wx => by
        rw [slice_str s _ _ (by omega) (by omega) (by omega), hb, show (4 * (k : Int)).toNat = 4 * k by omega, show (4 * (k : Int) + 4).toNat = 4 * k + 4 by omega]
      obtain ⟨b0, h0, i0, q0⟩ : ∃ b0 : Nat, b0 < 256 ∧ (∀ wx, (Instr.index 9 (.string b) (.int .i64 0)).run Tryz.prog wx = .ok (.int .u8 b0) wx) ∧ b0 = (s.data.toList.getD (4 * k) 0).toNat :=
        ⟨_, UInt8.toNat_lt _, fun wx => index_byte b 0 (by omega) (by omega) wx, by rw [hb]; exact congrArg _ (piece_byte s (4 * k) 4 0 (by omega))⟩
      obtain ⟨b1, h1, i1, q1⟩ : ∃ b0 : Nat, b0 < 256 ∧ (∀ wx, (Instr.index 9 (.string b) (.int .i64 1)).run Tryz.prog wx = .ok (.int .u8 b0) wx) ∧ b0 = (s.data.toList.getD (4 * k + 1) 0).toNat :=
        ⟨_, UInt8.toNat_lt _, fun wx => index_byte b 1 (by omega) (by omega) wx, by rw [hb]; exact congrArg _ (piece_byte s (4 * k) 4 1 (by omega))⟩
      obtain ⟨b2, h2, i2, q2⟩ : ∃ b0 : Nat, b0 < 256 ∧ (∀ wx, (Instr.index 9 (.string b) (.int .i64 2)).run Tryz.prog wx = .ok (.int .u8 b0) wx) ∧ b0 = (s.data.toList.getD (4 * k + 2) 0).toNat :=
        ⟨_, UInt8.toNat_lt _, fun wx => index_byte b 2 (by omega) (by omega) wx, by rw [hb]; exact congrArg _ (piece_byte s (4 * k) 4 2 (by omega))⟩
      obtain ⟨b3, h3, i3, q3⟩ : ∃ b0 : Nat, b0 < 256 ∧ (∀ wx, (Instr.index 9 (.string b) (.int .i64 3)).run Tryz.prog wx = .ok (.int .u8 b0) wx) ∧ b0 = (s.data.toList.getD (4 * k + 3) 0).toNat :=
        ⟨_, UInt8.toNat_lt _, fun wx => index_byte b 3 (by omega) (by omega) wx, by rw [hb]; exact congrArg _ (piece_byte s (4 * k) 4 3 (by omega))⟩
      have hx : Hid ((((b0 * 256 + b1) * 256 + b2) * 256 + b3) = Sh.nextW s.data.toList (Sh.ws s.data.toList k)) := by
        show _ = _
        unfold Sh.nextW
        rw [Sh.ws_length, if_pos hlt, q0, q1, q2, q3]
        rfl
      clear hb q0 q1 q2 q3 hbs
      have r0 : (0 : Int) ≤ (k : Int) := by omega
      have r1 : (k : Int) < 64 := by omega
      go_wp2
      go_region
      all_goals go_wp2
      go_roundw
      case rel =>
        rw [Sh.or4 b0 b1 b2 b3 h0 h1 h2 h3]
        obtain ⟨g1, g2, g3, g4⟩ := HST.out _ hx.out
        exact ⟨k + 1, by omega, by go_num, g1, g2, g3, g4.drew⟩
      case measure => simp [intOf]; omega
    · have hk16 : k = 16 := by omega
      subst hk16
      clear hk hlt
      go_wp2
      go_loopw [6] (fun i wx => ∃ k : Nat, 16 ≤ k ∧ k ≤ 64 ∧ i = .int .i64 k ∧ wx.heap[w.heap.size]? = some (.cells (Sh.arr (List.replicate 64 0)) 105 (0, 0)) ∧ wx.heap[w.heap.size + 1]? = some (.cells (Sh.arr (Sh.wz s.data.toList k)) 105 (0, 0)) ∧ wx.heap.size = w.heap.size + 2 ∧ Below w.heap.size w wx) (fun i _ => 64 - (intOf i).toNat)
      case atStart => exact ⟨16, by omega, by omega, rfl, hz, hb, hsz, hnx⟩
      case round =>
        clear hz hb hsz hnx
        obtain ⟨m, hm0, hm, rfl, hz, hb, hsz, hnx⟩ := hrel
        by_cases hlt : m < 64
        · have hlen := Sh.wz_length s.data.toList m hm
          obtain ⟨p2, l2, c2, q2⟩ : ∃ p : Nat, p < 4294967296 ∧ wr.cell? ⟨w.heap.size + 1, m - 2, none⟩ = some (.int .u32 p) ∧ p = (Sh.ws s.data.toList m).getD (m - 2) 0 := ⟨_, Sh.wz_lt _ m (m - 2), row_cell hb (m - 2) (by omega), Sh.wz_getD _ _ _ (by omega)⟩
          obtain ⟨p15, l15, c15, q15⟩ : ∃ p : Nat, p < 4294967296 ∧ wr.cell? ⟨w.heap.size + 1, m - 15, none⟩ = some (.int .u32 p) ∧ p = (Sh.ws s.data.toList m).getD (m - 15) 0 := ⟨_, Sh.wz_lt _ m (m - 15), row_cell hb (m - 15) (by omega), Sh.wz_getD _ _ _ (by omega)⟩
          obtain ⟨p16, l16, c16, q16⟩ : ∃ p : Nat, p < 4294967296 ∧ wr.cell? ⟨w.heap.size + 1, m - 16, none⟩ = some (.int .u32 p) ∧ p = (Sh.ws s.data.toList m).getD (m - 16) 0 := ⟨_, Sh.wz_lt _ m (m - 16), row_cell hb (m - 16) (by omega), Sh.wz_getD _ _ _ (by omega)⟩
          obtain ⟨p7, l7, c7, q7⟩ : ∃ p : Nat, p < 4294967296 ∧ wr.cell? ⟨w.heap.size + 1, m - 7, none⟩ = some (.int .u32 p) ∧ p = (Sh.ws s.data.toList m).getD (m - 7) 0 := ⟨_, Sh.wz_lt _ m (m - 7), row_cell hb (m - 7) (by omega), Sh.wz_getD _ _ _ (by omega)⟩
          have c0 := row_cell hb m (by omega)
          have hf : wr.frozen? ⟨w.heap.size + 1, m, none⟩ = false := row_free hb m
          have hx : Hid (Sh.grow p16 p15 p7 p2 = Sh.nextW s.data.toList (Sh.ws s.data.toList m)) := by
            show _ = _
            unfold Sh.nextW
            rw [Sh.ws_length, if_neg (by omega), q2, q15, q16, q7]
          have ST := fun x hx => spread_step (x := x) (k := m) (by omega) hx hz hb hsz hnx
          have HST : Hid (∀ x, _ → _) := ST
          clear hz hb hsz hnx ST q2 q15 q16 q7 hlen
          go_wp2
          go_region
          go_wp2
          obtain ⟨j16, e16, r16, b16⟩ : ∃ j : Nat, IntKind.i64.wrap ((m : Int) - 16) = (j : Int) ∧ j = m - 16 ∧ (j : Int) < 64 := ⟨m - 16, by rw [IntKind.wrap_i64]; omega, rfl, by omega⟩
          obtain ⟨j7, e7, r7, b7⟩ : ∃ j : Nat, IntKind.i64.wrap ((m : Int) - 7) = (j : Int) ∧ j = m - 7 ∧ (j : Int) < 64 := ⟨m - 7, by rw [IntKind.wrap_i64]; omega, rfl, by omega⟩
          rw [← r16] at c16
          rw [← r7] at c7
          have b0 : (m : Int) < 64 := by omega
          have n16 : ∀ v, (wr.setCell ⟨w.heap.size + 1, m, none⟩ v).cell? ⟨w.heap.size + 1, j16, none⟩ = some (.int .u32 p16) := fun v => by rw [cell_other (by omega)]; exact c16
          have n7 : ∀ v, (wr.setCell ⟨w.heap.size + 1, m, none⟩ v).cell? ⟨w.heap.size + 1, j7, none⟩ = some (.int .u32 p7) := fun v => by rw [cell_other (by omega)]; exact c7
          clear c2 c15 r16 r7
          go_region_held3 (fun w' => w'.cell? ⟨w.heap.size + 1, j16, none⟩ = some (.int .u32 p16) ∧ w'.cell? ⟨w.heap.size + 1, j7, none⟩ = some (.int .u32 p7)) (go_keep) (first | (go_at_call 70; refine (rot31 _ _ _ (by assumption) (by decide) (by decide)).mono ?_; rintro e w' ⟨rfl, rfl⟩))
          all_goals go_wp2
          go_roundw
          case rel =>
            rw [Sh.grow_eq p16 p15 p7 p2 l15 l2]
            obtain ⟨g1, g2, g3, g4⟩ := HST.out _ hx.out
            first | exact ⟨m + 1, by omega, by omega, by go_num, g1, g2, g3, g4.drew.drew⟩ | ((repeat apply Exists.intro); exact ⟨⟨m + 1, by omega, by omega, by go_num, g1, g2, g3, g4.drew.drew⟩, rfl⟩)
          case measure => simp [intOf]; omega
        · have hm64 : m = 64 := by omega
          subst hm64
          rw [Sh.wz_64] at hb
          have hl : (Sh.arr (Sh.ws s.data.toList 64)).size = 64 := by rw [Sh.arr_size, Sh.ws_length]
          obtain ⟨C, hC⟩ : ∃ C, C = Sh.arr (Sh.ws s.data.toList 64) := ⟨_, rfl⟩
          have h1 : C.all (·.oneCell') = true := by rw [hC]; exact arr_one _
          rw [← hC] at hb hl
          have ht : wr.there w.heap.size 0 C.size := row_there hz (by rw [hl]; simp [Sh.arr])
          have hst := row_stored hz C (by rw [hl]; simp [Sh.arr])
          have hbl := below_setCells (Nat.le_refl w.heap.size) C.toList 0 hnx
          have HC : Hid (C = _) := hC
          clear hC hm0 hm hlt hsz hnx
          go_wp2_with (first | (refine wpList_load_row rfl 105 _ rfl (w.heap.size + 1) rfl 105 C (0, 0) _ hb Tryz.underlying105 rfl (by rw [hl]; exact info50) ?_) | (refine wpList_store_mid rfl 105 _ _ rfl w.heap.size 0 C rfl rfl ht (by rw [hl]; exact info50) h1 ?_))
          refine bodyPost_ret (v := .agg C) (results_cell_row rfl _ _ w.heap.size 105 C (0, 0) _ rfl hst Tryz.underlying105 rfl (by rw [hl]; exact info50)) rfl ⟨by rw [HC.out], hbl⟩
end Go.Proofs.YtlafdlcpelkdpaaGreatDoor
