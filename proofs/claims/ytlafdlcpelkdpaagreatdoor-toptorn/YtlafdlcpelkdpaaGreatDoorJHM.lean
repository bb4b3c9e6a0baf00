/- Several texts, joined: ShChange, ShAppend, ShPad, ShFinish -/
import Derived.Test.YtlafdlcpelkdpaaGreatDoorShSpreadM
import Derived.Test.YtlafdlcpelkdpaaGreatDoorShMixM
import Derived.OwnWalk
import Derived.Laws.IdiomStrings
import Derived.Laws.OwnMore
/- What sha.change makes of eight words and a text: the words behind all of its whole blocks. -/
namespace Go.Proofs.YtlafdlcpelkdpaaGreatDoor
open Go.RowKit
attribute [local go_sem ↓] Go.wp_at_zero Go.wp_at_succ
/-- the two blocks of a call: the words and the result -/
def CI (w wr : World) (v : List Nat) : Prop :=
  wr.heap[w.heap.size]? = some (.cells (Sh.arr v) 78 (0, 0)) ∧ wr.heap[w.heap.size + 1]? = some (.cells (Sh.arr (List.replicate 8 0)) 78 (0, 0)) ∧ w.heap.size + 2 ≤ wr.heap.size ∧ Below w.heap.size w wr
theorem CI.put {w wr : World} {v : List Nat} (h : CI w wr v) (i x : Nat) : CI w (wr.setCell ⟨w.heap.size, i, none⟩ (.int .u32 (x : Int))) (v.set i x) := by
  obtain ⟨h1, h2, h3, h4⟩ := h
  refine ⟨row_put h1 i x, ?_, by simpa using h3, h4.setCell (p := ⟨w.heap.size, i, none⟩) (by simp) _⟩
  rw [heap_setCell_other _ _ _ _ (by show w.heap.size + 1 ≠ w.heap.size; omega)]; exact h2
theorem CI.drew {w wr : World} {v : List Nat} (h : CI w wr v) : CI w wr.drew v := ⟨h.1, h.2.1, h.2.2.1, h.2.2.2.drew⟩
theorem CI.call {w wr w1 : World} {v : List Nat} (h : CI w wr v) (hb : Below wr.heap.size wr w1) : CI w w1 v := by
  obtain ⟨h1, h2, h3, h4⟩ := h
  exact ⟨(hb.block _ (by omega)).trans h1, (hb.block _ (by omega)).trans h2, Nat.le_trans h3 hb.size, h4.trans (hb.mono (by omega))⟩
theorem CI.cells {w wr : World} {v : Sh.S8} (h : CI w wr v.list) :
    wr.cell? ⟨w.heap.size, 0, none⟩ = some (.int .u32 (v.a : Int)) ∧ wr.cell? ⟨w.heap.size, 1, none⟩ = some (.int .u32 (v.b : Int)) ∧ wr.cell? ⟨w.heap.size, 2, none⟩ = some (.int .u32 (v.c : Int)) ∧ wr.cell? ⟨w.heap.size, 3, none⟩ = some (.int .u32 (v.d : Int)) ∧
    wr.cell? ⟨w.heap.size, 4, none⟩ = some (.int .u32 (v.e : Int)) ∧ wr.cell? ⟨w.heap.size, 5, none⟩ = some (.int .u32 (v.f : Int)) ∧ wr.cell? ⟨w.heap.size, 6, none⟩ = some (.int .u32 (v.g : Int)) ∧ wr.cell? ⟨w.heap.size, 7, none⟩ = some (.int .u32 (v.h : Int)) :=
  ⟨row_cell h.1 0 (show 0 < 8 by decide), row_cell h.1 1 (show 1 < 8 by decide), row_cell h.1 2 (show 2 < 8 by decide), row_cell h.1 3 (show 3 < 8 by decide), row_cell h.1 4 (show 4 < 8 by decide), row_cell h.1 5 (show 5 < 8 by decide), row_cell h.1 6 (show 6 < 8 by decide), row_cell h.1 7 (show 7 < 8 by decide)⟩
theorem CI.stored {w wr : World} {v : Sh.S8} (h : CI w wr v.list) (m : Sh.S8) :
    CI w ((((((((wr.setCell ⟨w.heap.size, 0, none⟩ (.int .u32 (m.a : Int))).setCell ⟨w.heap.size, 1, none⟩ (.int .u32 (m.b : Int))).setCell ⟨w.heap.size, 2, none⟩ (.int .u32 (m.c : Int))).setCell ⟨w.heap.size, 3, none⟩ (.int .u32 (m.d : Int))).setCell ⟨w.heap.size, 4, none⟩ (.int .u32 (m.e : Int))).setCell ⟨w.heap.size, 5, none⟩ (.int .u32 (m.f : Int))).setCell ⟨w.heap.size, 6, none⟩ (.int .u32 (m.g : Int))).setCell ⟨w.heap.size, 7, none⟩ (.int .u32 (m.h : Int))) m.list :=
  (((((((h.put 0 m.a).put 1 m.b).put 2 m.c).put 3 m.d).put 4 m.e).put 5 m.f).put 6 m.g).put 7 m.h
theorem change_start (w : World) (v : List Nat) : CI w ((w.alloc (.cells (Sh.arr v) 78)).alloc (.cells (Sh.arr (List.replicate 8 0)) 78)) v := by
  refine ⟨?_, ?_, by simp, ((Below.refl _ w).alloc (Nat.le_refl _) _).alloc (by simp) _⟩
  · rw [Below.heap_alloc _ _ _ (by simp)]; exact heap_alloc_new w _
  · simpa using heap_alloc_new (w.alloc (.cells (Sh.arr v) 78)) (.cells (Sh.arr (List.replicate 8 0)) 78)
/-- the mixing, its words written out -/
theorem mix27' (v m : Sh.S8) (hv : v.ok) (b : ByteArray) (hm : Hid (m = Sh.chg1 v b.data.toList)) (w : World) (hK : HasK w) :
    Calls Tryz.prog 50 #[.agg #[.int .u32 v.a, .int .u32 v.b, .int .u32 v.c, .int .u32 v.d, .int .u32 v.e, .int .u32 v.f, .int .u32 v.g, .int .u32 v.h], .agg (Sh.arr (Sh.ws b.data.toList 64))] w
      fun e w' => e = .returned (.agg #[.int .u32 m.a, .int .u32 m.b, .int .u32 m.c, .int .u32 m.d, .int .u32 m.e, .int .u32 m.f, .int .u32 m.g, .int .u32 m.h]) ∧ Below w.heap.size w w' := by
  have := mix27 v hv (Sh.ws b.data.toList 64) (Sh.ws_length _ _) (Sh.ws_lt _ _) w hK
  rw [show Sh.mixed v (Sh.ws b.data.toList 64) = m from hm.out.symm] at this
  exact this
theorem wf_quo (n : Nat) (hn : n ≤ 9223372036854775807) : ((n : Int).tdiv 64) = ((n / 64 : Nat) : Int) := by
  rw [Int.tdiv_eq_ediv_of_nonneg (by omega)]; omega
set_option maxHeartbeats 2000000 in
set_option maxRecDepth 10000 in
theorem change20 (s : Sh.S8) (hs : s.ok) (t : ByteArray) (ht : t.size ≤ 1125899906842624) (w : World) (hK : HasK w) :
    Calls Tryz.prog 31 #[.agg (Sh.arr s.list), .string t] w fun e w' => e = .returned (.agg (Sh.arr (Sh.chg s t.data.toList (t.size / 64)).list)) ∧ Below w.heap.size w w' := by
  show Calls Tryz.prog 31 #[.agg #[.int .u32 s.a, .int .u32 s.b, .int .u32 s.c, .int .u32 s.d, .int .u32 s.e, .int .u32 s.f, .int .u32 s.g, .int .u32 s.h], .string t] w _
  have HK : Hid (HasK w) := hK
  have hs0 : Hid s.ok := hs
  have hB : 0 < w.heap.size := hK.1
  clear hK hs
  go_enter Tryz.func31, Tryz.ntmps31
  go_wp2
  go_loopw [9] (fun i wr => ∃ k : Nat, k ≤ t.size / 64 ∧ i = .int .i64 k ∧ CI w wr (Sh.chg s t.data.toList k).list) (fun i _ => t.size / 64 - (intOf i).toNat)
  case atStart => exact ⟨0, by omega, rfl, change_start w s.list⟩
  case round =>
    obtain ⟨k, hk, rfl, hI⟩ := hrel
    by_cases hlt : k < t.size / 64
    · obtain ⟨v, hvv⟩ : ∃ v, v = Sh.chg s t.data.toList k := ⟨_, rfl⟩
      rw [← hvv] at hI
      have hvo : v.ok := by rw [hvv]; exact Sh.chg_ok hs0.out _ k
      obtain ⟨c0, c1, c2, c3, c4, c5, c6, c7⟩ := hI.cells
      obtain ⟨b, hb⟩ : ∃ b, b = t.extract (64 * k) (64 * k + 64) := ⟨_, rfl⟩
      have hbs : b.size = 64 := by rw [hb]; exact piece_size t (64 * k) 64 (by omega)
      have hbl : b.data.toList = Sh.blk t.data.toList k := by rw [hb, Lib.extract_data, show 64 * k + 64 - 64 * k = 64 by omega]; rfl
      have hsl : ∀ wx, (Instr.slice 9 (.string t) (some (.int .i64 (64 * (k : Int)))) (some (.int .i64 (64 * ((k : Int) + 1)))) none).run Tryz.prog wx = .ok (.string b) wx := fun wx => by
        rw [slice_str t _ _ (by omega) (by omega) (by omega), hb, show (64 * (k : Int)).toNat = 64 * k by omega, show (64 * ((k : Int) + 1)).toNat = 64 * k + 64 by omega]
      obtain ⟨m, hm⟩ : ∃ m, m = Sh.chg1 v b.data.toList := ⟨_, rfl⟩
      have hnext : Hid (m = Sh.chg s t.data.toList (k + 1)) := by
        show _ = _
        rw [hm, hvv, hbl]
        rfl
      have HM : Hid (m = _) := hm
      have HI : Hid (CI w wr v.list) := hI
      have HVO : Hid v.ok := hvo
      have HBS : Hid (b.size = 64) := hbs
      clear hm hI hvv hb hbl hbs hvo
      have e1 : IntKind.i64.wrap (64 * (k : Int)) = 64 * (k : Int) := by rw [IntKind.wrap_i64]; omega
      have e2 : IntKind.i64.wrap ((k : Int) + 1) = (k : Int) + 1 := by rw [IntKind.wrap_i64]; omega
      have e3 : IntKind.i64.wrap (64 * ((k : Int) + 1)) = 64 * ((k : Int) + 1) := by rw [IntKind.wrap_i64]; omega
      go_wp2
      go_region_with (first | (go_at_call 51; refine (spread28 b _ HBS.out).mono ?_; rintro e w1 ⟨rfl, hb1⟩; have hI1 : Hid (CI w w1 v.list) := HI.out.drew.call (by exact hb1); obtain ⟨d0, d1, d2, d3, d4, d5, d6, d7⟩ := hI1.out.cells) | (go_at_call 50; refine (mix27' v m HVO.out b HM _ (HK.out.below hB hI1.out.2.2.2)).mono ?_; rintro e w2 ⟨rfl, hb2⟩; have hI2 : Hid (CI w w2 v.list) := hI1.out.call (by exact hb2); obtain ⟨e0, e1, e2, e3, e4, e5, e6, e7⟩ := hI2.out.cells; have fz : ∀ j, w2.frozen? ⟨w.heap.size, j, none⟩ = false := row_free hI2.out.1))
      all_goals go_wp2
      all_goals
        go_roundw
        case rel =>
          have R := hI2.out.stored m
          first | exact ⟨k + 1, by omega, by go_num, by rw [← hnext.out]; exact R⟩ | ((repeat apply Exists.intro); exact ⟨⟨k + 1, by omega, by go_num, by rw [← hnext.out]; exact R⟩, rfl⟩)
        case measure => simp [intOf]; omega
    · have hk64 : k = t.size / 64 := by omega
      subst hk64
      obtain ⟨D, hD⟩ : ∃ D, D = Sh.arr (Sh.chg s t.data.toList (t.size / 64)).list := ⟨_, rfl⟩
      have hl8 : D.size = 8 := by rw [hD]; rfl
      have h1 : D.all (·.oneCell') = true := by rw [hD]; exact arr_one _
      obtain ⟨hb, hz, _, hnx⟩ := hI
      rw [← hD] at hb
      have ht : wr.there (w.heap.size + 1) 0 D.size := row_there hz (by rw [hl8]; simp [Sh.arr])
      have hst := row_stored hz D (by rw [hl8]; simp [Sh.arr])
      have hbl := below_setCells (b := w.heap.size + 1) (by omega) D.toList 0 hnx
      have HD : Hid (D = _) := hD
      clear hD hk hnx
      go_wp2_with (first | (refine wpList_load_row rfl 78 _ rfl w.heap.size rfl 78 D (0, 0) _ hb Tryz.underlying78 rfl (by rw [hl8]; exact info26) ?_) | (refine wpList_store_mid rfl 78 _ _ rfl (w.heap.size + 1) 0 D rfl rfl ht (by rw [hl8]; exact info26) h1 ?_))
      refine bodyPost_ret (v := .agg D) (results_cell_row rfl _ _ (w.heap.size + 1) 78 D (0, 0) _ rfl hst Tryz.underlying78 rfl (by rw [hl8]; exact info26)) rfl ⟨by rw [HD.out], hbl⟩
end Go.Proofs.YtlafdlcpelkdpaaGreatDoor
/- What sha.appendNumber lays behind a slice that the caller owns: the lowest bytes of a number, the highest one first. -/
namespace Go.Proofs.YtlafdlcpelkdpaaGreatDoor
open Go.RowKit
theorem info5 : (Tryz.prog.info? 5).map (fun i => (i.zero, i.size, i.bytes)) = some (some (.int .u8 0), 1, 1) := by kernel_rfl
theorem own_block_le {w : World} {base n : Nat} {v : Value} {xs : List Value} (h : w.ownsRow base 5 1 v n xs) : ∀ k, v.ownBlock = some k → base ≤ k := by
  intro k hk
  rcases h.2 with ⟨rfl, _⟩ | ⟨g, cap, cur, rfl, hg, _⟩
  · simp [Value.ownBlock] at hk
  · simp [Value.ownBlock] at hk; omega
theorem cell_new (w : World) (u : Value) (t : TypeId) (j : Nat) (x : Value) (hj : [u][j]? = some x) : (w.alloc (.cells #[u] t)).cell? ((⟨w.heap.size, 0, none⟩ : Addr).add j) = some x := by
  match j, hj with
  | 0, hj => simp at hj; subst hj; simp [Addr.add]
set_option maxHeartbeats 1000000 in
theorem append26 (base : Nat) (v : Value) (l : List UInt8) (n many : Nat) (hm : many ≤ 8) (_hn : n < 18446744073709551616) (hl : l.length ≤ 4294967296) (w : World) (hB : base ≤ w.heap.size)
    (ho : w.ownsRow base 5 1 v l.length (Lib.byteCells l)) :
    Calls Tryz.prog 49 #[v, .int .u64 n, .int .i64 many] w fun e w' => ∃ v', e = .returned v' ∧ w'.ownsRow base 5 1 v' (l ++ Sh.bytesOf n many).length (Lib.byteCells (l ++ Sh.bytesOf n many)) ∧ Below base w w' := by
  obtain ⟨i0, hi, hz0, hz1, hz2⟩ := info_parts info5
  go_enter Tryz.func49, Tryz.ntmps49
  go_wp2
  go_loopw [0, 9] (fun v i wr => ∃ k : Nat, k ≤ many ∧ i = .int .i64 k ∧ wr.ownsRow base 5 1 v (l.length + k) (Lib.byteCells (l ++ (List.range k).map (Sh.nb n many))) ∧ Below base w wr) (fun _ i _ => many - (intOf i).toNat)
  case atStart => exact ⟨0, by omega, rfl, by simpa using ho, Below.refl _ _⟩
  case round =>
    obtain ⟨k, hk, rfl, hown, hnx⟩ := hrel
    by_cases hlt : k < many
    · have q1 : (0 : Int) ≤ (many : Int) - 1 - k := by omega
      have q2 : (k : Int) < (many : Int) := by omega
      have hbs := own_block_le hown
      have hsz := hnx.size
      have HO : Hid (wr.ownsRow _ _ _ _ _ _) := hown
      have HBS : Hid (∀ k, _ → _) := hbs
      clear ho hown hbs
      go_wp2_with (first | (at_builtin; refine wpList_append_own _ rfl _ _ 74 rfl base 5 i0 (.int .u8 0) 1 1 Tryz.underlying74 hi hz0 hz1 hz2 rfl (by decide) _ _ _ rfl (HO.out.alloc _) ⟨wr.heap.size, 0, none⟩ 1 1 [.int .u8 ((n : Int) / 2 ^ (8 * (many - 1 - k)) % 256)] rfl rfl (cell_new _ _ _) ?c2 ?c3 ?c4 ?c5 ?_))
      case c2 => intro u hu; simp at hu; subst hu; rfl
      case c3 => unfold maxLen; omega
      case c4 => omega
      case c5 => simp; omega
      · intro v' w1 hown' hgrow _
        have R1 : w1.ownsRow base 5 1 v' (l.length + (k + 1)) (Lib.byteCells (l ++ (List.range (k + 1)).map (Sh.nb n many))) := by
          have e : Lib.byteCells (l ++ (List.range (k + 1)).map (Sh.nb n many)) = Lib.byteCells (l ++ (List.range k).map (Sh.nb n many)) ++ [.int .u8 ((n : Int) / 2 ^ (8 * (many - 1 - k)) % 256)] := by
            rw [List.range_succ, List.map_append, ← List.append_assoc, ← Sh.nb_eq]
            simp [Lib.byteCells]
          rw [e]
          exact hown'
        have R2 : Below base w w1 := (hnx.alloc (by omega) _).grown hgrow (by simp; omega) HBS.out
        have H1 : Hid (w1.ownsRow _ _ _ _ _ _) := R1
        have H2 : Hid (Below base w w1) := R2
        clear hown' hgrow R1 R2 hnx
        go_wp2
        go_roundw
        case rel => exact ⟨k + 1, by omega, by go_num, H1.out, H2.out⟩
        case measure => simp [intOf]; omega
    · have hk8 : k = many := by omega
      subst hk8
      go_wp2
      go_ret
      refine ⟨_, rfl, ?_, hnx⟩
      have e : (l ++ Sh.bytesOf n k).length = l.length + k := by simp [Sh.bytesOf]
      rw [e]
      exact hown
end Go.Proofs.YtlafdlcpelkdpaaGreatDoor
/- What sha.padding lays behind a text of so many bytes. -/
namespace Go.Proofs.YtlafdlcpelkdpaaGreatDoor
open Go.RowKit
namespace Sh
/-- how many noughts -/
def nz (c : Nat) : Nat := (119 - c % 64) % 64
/-- the bytes behind a text of c bytes -/
def pad (c : Nat) : List UInt8 := ([128] ++ List.replicate (nz c) 0) ++ bytesOf (8 * c) 8
end Sh
theorem ret_str {a b : ByteArray} (h : a = b) : Ending.returned (.string a) = .returned (.string b) := by rw [h]
/-- a row of bytes that is owned, as a text -/
theorem own_string {w : World} {base : Nat} {v : Value} {l : List UInt8} (h : w.ownsRow base 5 1 v l.length (Lib.byteCells l)) (hl : l ≠ []) :
    ∃ g n cap str, v = .slice (some ⟨g, 0, none⟩) n cap ∧ (Go.convert 74 9 (.slice (some ⟨g, 0, none⟩) n cap)).run Tryz.prog w = .ok (.string str) w ∧ Hid (str = ⟨l.toArray⟩) := by
  have h0 : l.length ≠ 0 := fun e => hl (List.eq_nil_of_length_eq_zero e)
  rcases h.2 with ⟨_, h'⟩ | ⟨g, cap, cur, rfl, _⟩
  · exact absurd h' h0
  · refine ⟨g, l.length, cap, _, rfl, run_convert_bytes_back w 74 9 5 ⟨g, 0, none⟩ cap l Tryz.underlying74 Tryz.underlying5 Tryz.underlying9 (fun j hj => ?_), rfl⟩
    have e : (⟨g, 0, none⟩ : Addr).add j = ⟨g, j, none⟩ := by rw [Addr.add_mid]; simp
    rw [e, h.cellAt j (by omega)]
    simp [Lib.byteCells, hj]
theorem append26_8 (base : Nat) (v : Value) (l : List UInt8) (n : Nat) (N : Int) (hN : N = (n : Int)) (hn : n < 18446744073709551616) (hl : l.length ≤ 4294967296) (w : World) (hB : base ≤ w.heap.size)
    (ho : w.ownsRow base 5 1 v l.length (Lib.byteCells l)) :
    Calls Tryz.prog 49 #[v, .int .u64 N, .int .i64 8] w fun e w' => ∃ v', e = .returned v' ∧ w'.ownsRow base 5 1 v' (l ++ Sh.bytesOf n 8).length (Lib.byteCells (l ++ Sh.bytesOf n 8)) ∧ Below base w w' := by
  subst hN
  exact append26 base v l n 8 (by omega) hn hl w hB ho
theorem append26_4 (base : Nat) (v : Value) (l : List UInt8) (n : Nat) (N : Int) (hN : N = (n : Int)) (hn : n < 18446744073709551616) (hl : l.length ≤ 4294967296) (w : World) (hB : base ≤ w.heap.size)
    (ho : w.ownsRow base 5 1 v l.length (Lib.byteCells l)) :
    Calls Tryz.prog 49 #[v, .int .u64 N, .int .i64 4] w fun e w' => ∃ v', e = .returned v' ∧ w'.ownsRow base 5 1 v' (l ++ Sh.bytesOf n 4).length (Lib.byteCells (l ++ Sh.bytesOf n 4)) ∧ Below base w w' := by
  subst hN
  exact append26 base v l n 4 (by omega) hn hl w hB ho
theorem pad_own (w : World) (z : Nat) (hz : z < 64) (M : Array Value) (hM : M.toList = List.replicate (9 + z) (.int .u8 0)) :
    (w.alloc (.cells (M.setIfInBounds 0 (.int .u8 128)) 5)).ownsRow w.heap.size 5 1 (.slice (some ⟨w.heap.size, 0, none⟩) (1 + z) (9 + z)) ([(128 : UInt8)] ++ List.replicate z 0).length (Lib.byteCells ([128] ++ List.replicate z 0)) := by
  have hs : M.size = 9 + z := by rw [← Array.length_toList, hM]; simp
  have hln : ([(128 : UInt8)] ++ List.replicate z 0 : List UInt8).length = z + 1 := by simp
  refine ⟨by simp [Lib.byteCells], Or.inr ⟨w.heap.size, 9 + z, M.setIfInBounds 0 (.int .u8 128), ?_, Nat.le_refl _, heap_alloc_new w _, by simp; omega, ?_, by simp [hs], ?_⟩⟩
  · rw [hln, Nat.add_comm]
  · unfold maxLen; omega
  · rw [Array.toList_setIfInBounds, hM, show 9 + z = (z + 8) + 1 by omega, List.replicate_succ, List.set_cons_zero, hln, Nat.mul_one, List.take_succ_cons, List.take_replicate, show min z (z + 8) = z by omega]
    simp [Lib.byteCells]
set_option maxHeartbeats 1000000 in
theorem padding25 (c : Nat) (hc : c < 1152921504606846976) (w : World) :
    Calls Tryz.prog 48 #[.int .u64 c] w fun e w' => e = .returned (.string ⟨(Sh.pad c).toArray⟩) ∧ Below w.heap.size w w' := by
  obtain ⟨i0, hi, hz0, hz1, hz2⟩ := info_parts info5
  obtain ⟨z, hz⟩ : ∃ z, z = Sh.nz c := ⟨_, rfl⟩
  have hzz : (119 - (c : Int)) % 64 = z := by rw [hz]; unfold Sh.nz; omega
  have hz64 : z < 64 := by rw [hz]; unfold Sh.nz; omega
  obtain ⟨M, hM⟩ : ∃ M, M = madeCells (Value.int .u8 0).cells ((1 + (119 - (c : Int)) % 64 + 8).toNat * i0.size) := ⟨_, rfl⟩
  have hMl : M.toList = List.replicate (9 + z) (.int .u8 0) := by
    rw [hM, hz1, hzz, show (1 + (z : Int) + 8).toNat * 1 = 9 + z by omega]
    exact toList_madeCells_one (.int .u8 0) (9 + z)
  have hmk : ∀ u : World, (Instr.makeSlice 74 (.int .u64 (1 + (119 - (c : Int)) % 64)) (.int .u64 (1 + (119 - (c : Int)) % 64 + 8))).run Tryz.prog u = .ok (.slice (some ⟨u.heap.size, 0, none⟩) (1 + z) (9 + z)) (u.alloc (.cells M 5)) := fun u => by
    have h := run_make (P := Tryz.prog) u 74 5 i0 (.int .u8 0) Tryz.underlying74 hi hz0 .u64 .u64 (1 + (119 - (c : Int)) % 64) (1 + (119 - (c : Int)) % 64 + 8) (by omega) (by omega) (by rw [hz2]; omega) (by omega)
    rw [← hM, show (1 + (119 - (c : Int)) % 64).toNat = 1 + z by omega, show (1 + (119 - (c : Int)) % 64 + 8).toNat = 9 + z by omega] at h
    exact h
  have hMs : M.size = 9 + z := by rw [← Array.length_toList, hMl]; simp
  have hM0 : M[0]? = some (.int .u8 0) := by rw [← Array.getElem?_toList, hMl, List.getElem?_replicate]; simp
  have HO : Hid ((w.alloc (.cells (M.setIfInBounds 0 (.int .u8 128)) 5)).ownsRow w.heap.size 5 1 (.slice (some ⟨w.heap.size, 0, none⟩) (1 + z) (9 + z)) ([(128 : UInt8)] ++ List.replicate z 0).length (Lib.byteCells ([128] ++ List.replicate z 0))) := pad_own w z hz64 M hMl
  have HZ : Hid (z = Sh.nz c) := hz
  have hlen : Hid (([(128 : UInt8)] ++ List.replicate z 0).length ≤ 4294967296) := by show _ ≤ _; simp; omega
  clear hz hM hMl hzz hi hz0 hz1 hz2
  have q1 : (0 : Int) < 1 + (z : Int) := by omega
  go_enter Tryz.func48, Tryz.ntmps48
  go_wp2_with fail
  refine (append26_8 w.heap.size _ ([(128 : UInt8)] ++ List.replicate z 0) (8 * c) _ (by omega) (by omega) hlen.out _ (by simp) HO.out).mono ?_
  rintro e w1 ⟨v', rfl, ho', hb'⟩
  obtain ⟨g, n, cap, str, hv, hconv, hstr⟩ := own_string ho' (by simp)
  rw [hv]
  have hB1 : Below w.heap.size w w1 := (((Below.refl _ w).alloc (Nat.le_refl _) _)).trans hb'
  have HB : Hid (Below w.heap.size w w1) := hB1
  clear ho' hb' hB1 hv
  go_wp2
  go_ret
  exact ⟨ret_str (by rw [hstr.out, Sh.pad, ← HZ.out]), HB.out⟩
end Go.Proofs.YtlafdlcpelkdpaaGreatDoor
/- What sha.finish makes of words, of the rest behind them and of a count: the digest's 32 bytes. -/
namespace Go.Proofs.YtlafdlcpelkdpaaGreatDoor
open Go.RowKit
attribute [local go_sem ↓] Go.wp_at_zero Go.wp_at_succ
namespace Sh
/-- the bytes of words -/
def dig (l : List Nat) : List UInt8 := l.flatMap fun x => bytesOf x 4
/-- the words behind a text's whole blocks -/
def chgAll (s : S8) (t : List UInt8) : S8 := chg s t (t.length / 64)
/-- the digest of words that all whole blocks have changed, and of the rest behind them -/
def fin (s : S8) (rest : List UInt8) (c : Nat) : List UInt8 := dig (chgAll s (rest ++ pad c)).list
theorem pad_length (c : Nat) : (pad c).length = nz c + 9 := by simp [pad, bytesOf]
theorem nz_lt (c : Nat) : nz c < 64 := Nat.mod_lt _ (by decide)
theorem bytesOf_length (n m : Nat) : (bytesOf n m).length = m := by simp [bytesOf]
theorem dig_length (l : List Nat) : (dig l).length = 4 * l.length := by
  induction l with
  | nil => rfl
  | cons x r ih => simp only [dig, List.flatMap_cons, List.length_append, bytesOf_length, List.length_cons] at *; omega
theorem dig_take (l : List Nat) (k : Nat) (h : k < l.length) : dig (l.take (k + 1)) = dig (l.take k) ++ bytesOf (l.getD k 0) 4 := by
  have e : l.getD k 0 = l[k] := by rw [List.getD_eq_getElem?_getD, List.getElem?_eq_getElem h]; rfl
  unfold dig
  rw [List.take_succ_eq_append_getElem h, List.flatMap_append, e]
  simp
end Sh
/-- the one block of a call -/
def BI (w wr : World) (v : List Nat) : Prop := wr.heap[w.heap.size]? = some (.cells (Sh.arr v) 78 (0, 0)) ∧ w.heap.size + 1 ≤ wr.heap.size ∧ Below w.heap.size w wr
theorem BI.put {w wr : World} {v : List Nat} (h : BI w wr v) (i x : Nat) : BI w (wr.setCell ⟨w.heap.size, i, none⟩ (.int .u32 (x : Int))) (v.set i x) := by
  obtain ⟨h1, h3, h4⟩ := h
  exact ⟨row_put h1 i x, by simpa using h3, h4.setCell (p := ⟨w.heap.size, i, none⟩) (by simp) _⟩
theorem BI.drew {w wr : World} {v : List Nat} (h : BI w wr v) : BI w wr.drew v := ⟨h.1, h.2.1, h.2.2.drew⟩
theorem BI.call {w wr w1 : World} {v : List Nat} (h : BI w wr v) (hb : Below wr.heap.size wr w1) : BI w w1 v := by
  obtain ⟨h1, h3, h4⟩ := h
  exact ⟨(hb.block _ (by omega)).trans h1, Nat.le_trans h3 hb.size, h4.trans (hb.mono (by omega))⟩
theorem BI.cells {w wr : World} {v : Sh.S8} (h : BI w wr v.list) :
    wr.cell? ⟨w.heap.size, 0, none⟩ = some (.int .u32 (v.a : Int)) ∧ wr.cell? ⟨w.heap.size, 1, none⟩ = some (.int .u32 (v.b : Int)) ∧ wr.cell? ⟨w.heap.size, 2, none⟩ = some (.int .u32 (v.c : Int)) ∧ wr.cell? ⟨w.heap.size, 3, none⟩ = some (.int .u32 (v.d : Int)) ∧
    wr.cell? ⟨w.heap.size, 4, none⟩ = some (.int .u32 (v.e : Int)) ∧ wr.cell? ⟨w.heap.size, 5, none⟩ = some (.int .u32 (v.f : Int)) ∧ wr.cell? ⟨w.heap.size, 6, none⟩ = some (.int .u32 (v.g : Int)) ∧ wr.cell? ⟨w.heap.size, 7, none⟩ = some (.int .u32 (v.h : Int)) :=
  ⟨row_cell h.1 0 (show 0 < 8 by decide), row_cell h.1 1 (show 1 < 8 by decide), row_cell h.1 2 (show 2 < 8 by decide), row_cell h.1 3 (show 3 < 8 by decide), row_cell h.1 4 (show 4 < 8 by decide), row_cell h.1 5 (show 5 < 8 by decide), row_cell h.1 6 (show 6 < 8 by decide), row_cell h.1 7 (show 7 < 8 by decide)⟩
theorem BI.stored {w wr : World} {v : Sh.S8} (h : BI w wr v.list) (m : Sh.S8) :
    BI w ((((((((wr.setCell ⟨w.heap.size, 0, none⟩ (.int .u32 (m.a : Int))).setCell ⟨w.heap.size, 1, none⟩ (.int .u32 (m.b : Int))).setCell ⟨w.heap.size, 2, none⟩ (.int .u32 (m.c : Int))).setCell ⟨w.heap.size, 3, none⟩ (.int .u32 (m.d : Int))).setCell ⟨w.heap.size, 4, none⟩ (.int .u32 (m.e : Int))).setCell ⟨w.heap.size, 5, none⟩ (.int .u32 (m.f : Int))).setCell ⟨w.heap.size, 6, none⟩ (.int .u32 (m.g : Int))).setCell ⟨w.heap.size, 7, none⟩ (.int .u32 (m.h : Int))) m.list :=
  (((((((h.put 0 m.a).put 1 m.b).put 2 m.c).put 3 m.d).put 4 m.e).put 5 m.f).put 6 m.g).put 7 m.h
theorem box_start (w : World) (v : List Nat) : BI w (w.alloc (.cells (Sh.arr v) 78)) v := ⟨heap_alloc_new w _, by simp, (Below.refl _ w).alloc (Nat.le_refl _) _⟩
/-- the change, its words written out -/
theorem change20' (v m : Sh.S8) (hv : v.ok) (t : ByteArray) (ht : t.size ≤ 1125899906842624) (hm : Hid (m = Sh.chgAll v t.data.toList)) (w : World) (hK : HasK w) :
    Calls Tryz.prog 31 #[.agg #[.int .u32 v.a, .int .u32 v.b, .int .u32 v.c, .int .u32 v.d, .int .u32 v.e, .int .u32 v.f, .int .u32 v.g, .int .u32 v.h], .string t] w
      fun e w' => e = .returned (.agg #[.int .u32 m.a, .int .u32 m.b, .int .u32 m.c, .int .u32 m.d, .int .u32 m.e, .int .u32 m.f, .int .u32 m.g, .int .u32 m.h]) ∧ Below w.heap.size w w' := by
  have := change20 v hv t ht w hK
  rw [show Sh.chg v t.data.toList (t.size / 64) = m from (by rw [hm.out, Sh.chgAll, ← Lib.size_eq])] at this
  exact this
theorem index_words (m : Sh.S8) (k : Nat) (hk : k < 8) (wx : World) : (Instr.index 78 (.agg (Sh.arr m.list)) (.int .i64 (k : Int))).run Tryz.prog wx = .ok (.int .u32 ((m.list.getD k 0 : Nat) : Int)) wx := by
  match k, hk with
  | 0, _ => show _ = _; kernel_rfl
  | 1, _ => show _ = _; kernel_rfl
  | 2, _ => show _ = _; kernel_rfl
  | 3, _ => show _ = _; kernel_rfl
  | 4, _ => show _ = _; kernel_rfl
  | 5, _ => show _ = _; kernel_rfl
  | 6, _ => show _ = _; kernel_rfl
  | 7, _ => show _ = _; kernel_rfl
theorem made_own (w : World) (M : Array Value) (n : Nat) (hM : M.size = n) (hn : n ≤ 4294967296) : (w.alloc (.cells M 5)).ownsRow w.heap.size 5 1 (.slice (some ⟨w.heap.size, 0, none⟩) 0 n) 0 [] :=
  ⟨rfl, Or.inr ⟨w.heap.size, n, M, rfl, Nat.le_refl _, heap_alloc_new w _, Nat.zero_le _, by unfold maxLen; omega, by omega, by simp⟩⟩
theorem S8.getD_lt {m : Sh.S8} (h : m.ok) (k : Nat) : m.list.getD k 0 < 4294967296 := by
  apply Sh.getD_lt
  intro x hx
  simp only [Sh.S8.list, List.mem_cons, List.mem_nil_iff, or_false] at hx
  obtain ⟨ha, hb, hc, hd, he, hf, hg, hh⟩ := h
  rcases hx with rfl | rfl | rfl | rfl | rfl | rfl | rfl | rfl <;> assumption
set_option maxHeartbeats 2000000 in
set_option maxRecDepth 10000 in
theorem finish19 (s : Sh.S8) (hs : s.ok) (t : ByteArray) (ht : t.size ≤ 1125899906842000) (c : Nat) (hc : c < 1152921504606846976) (w : World) (hK : HasK w) :
    Calls Tryz.prog 30 #[.agg (Sh.arr s.list), .string t, .int .u64 c] w fun e w' => e = .returned (.string ⟨(Sh.fin s t.data.toList c).toArray⟩) ∧ Below w.heap.size w w' := by
  show Calls Tryz.prog 30 #[.agg #[.int .u32 s.a, .int .u32 s.b, .int .u32 s.c, .int .u32 s.d, .int .u32 s.e, .int .u32 s.f, .int .u32 s.g, .int .u32 s.h], .string t, .int .u64 c] w _
  obtain ⟨i0, hi, hz0, hz1, hz2⟩ := info_parts info5
  obtain ⟨p, hp⟩ : ∃ p : ByteArray, p = ⟨(Sh.pad c).toArray⟩ := ⟨_, rfl⟩
  have hps : p.size ≤ 100 := by
    rw [Lib.size_eq, hp]
    have := Sh.pad_length c
    have := Sh.nz_lt c
    show (Sh.pad c).length ≤ 100
    omega
  obtain ⟨tp, htp⟩ : ∃ tp, tp = t ++ p := ⟨_, rfl⟩
  have htl : tp.data.toList = t.data.toList ++ Sh.pad c := by rw [htp, hp]; simp
  have hts : tp.size ≤ 1125899906842624 := by rw [htp]; simp; omega
  obtain ⟨m, hm⟩ : ∃ m, m = Sh.chgAll s tp.data.toList := ⟨_, rfl⟩
  have hp25 : ∀ W, Calls Tryz.prog 48 #[.int .u64 c] W fun e w' => e = .returned (.string p) ∧ Below W.heap.size W w' := fun W => by rw [hp]; exact padding25 c hc W
  have HP : Hid (∀ W, _) := hp25
  have hadd : ∀ W, (Op.stringOp .add t p).run Tryz.prog W = .ok (.string tp) W := fun W => by rw [htp]; exact run_string_add_sum W t p (by omega)
  have HK : Hid (HasK w) := hK
  have hs0 : Hid s.ok := hs
  have HM : Hid (m = _) := hm
  have hB : 0 < w.heap.size := hK.1
  obtain ⟨M, hM⟩ : ∃ M, M = madeCells (Value.int .u8 0).cells (32 * i0.size) := ⟨_, rfl⟩
  have hmk : ∀ u : World, (Instr.makeSlice 74 (.int .i64 0) (.int .i64 32)).run Tryz.prog u = .ok (.slice (some ⟨u.heap.size, 0, none⟩) 0 32) (u.alloc (.cells M 5)) := fun u => by
    have h := run_make (P := Tryz.prog) u 74 5 i0 (.int .u8 0) Tryz.underlying74 hi hz0 .i64 .i64 0 32 (by omega) (by omega) (by rw [hz2]; omega) (by omega)
    rw [show (32 : Int).toNat = 32 from rfl, ← hM] at h
    exact h
  have hMs : M.size = 32 := by rw [hM, size_madeCells, hz1]
  have HMO : Hid m.ok := by show m.ok; rw [hm]; exact Sh.chg_ok hs _ _
  have HTL : Hid (tp.data.toList = t.data.toList ++ Sh.pad c) := htl
  clear hK hs hm htl hp htp hp25 hM
  go_enter Tryz.func30, Tryz.ntmps30
  go_wp2
  have HI : Hid (BI w (w.alloc (.cells #[.int .u32 s.a, .int .u32 s.b, .int .u32 s.c, .int .u32 s.d, .int .u32 s.e, .int .u32 s.f, .int .u32 s.g, .int .u32 s.h] 78)) s.list) := box_start w s.list
  go_region_with (first | (go_at_call 48; refine (HP.out _).mono ?_; rintro e w1 ⟨rfl, hb1⟩; have hI1 : Hid (BI w w1 s.list) := HI.out.drew.call (by exact hb1); obtain ⟨d0, d1, d2, d3, d4, d5, d6, d7⟩ := hI1.out.cells) | (go_at_call 31; refine (change20' s m hs0.out tp hts HM _ (HK.out.below hB hI1.out.2.2)).mono ?_; rintro e w2 ⟨rfl, hb2⟩; have hI2 : Hid (BI w w2 s.list) := hI1.out.call (by exact hb2); obtain ⟨e0, e1, e2, e3, e4, e5, e6, e7⟩ := hI2.out.cells; have fz : ∀ j, w2.frozen? ⟨w.heap.size, j, none⟩ = false := row_free hI2.out.1))
  all_goals
    obtain ⟨W3, hW3⟩ : ∃ W3, ((((((((w2.setCell ⟨w.heap.size, 0, none⟩ (.int .u32 (m.a : Int))).setCell ⟨w.heap.size, 1, none⟩ (.int .u32 (m.b : Int))).setCell ⟨w.heap.size, 2, none⟩ (.int .u32 (m.c : Int))).setCell ⟨w.heap.size, 3, none⟩ (.int .u32 (m.d : Int))).setCell ⟨w.heap.size, 4, none⟩ (.int .u32 (m.e : Int))).setCell ⟨w.heap.size, 5, none⟩ (.int .u32 (m.f : Int))).setCell ⟨w.heap.size, 6, none⟩ (.int .u32 (m.g : Int))).setCell ⟨w.heap.size, 7, none⟩ (.int .u32 (m.h : Int))) = W3 := ⟨_, rfl⟩
    have hI3 : BI w W3 m.list := by rw [← hW3]; exact hI2.out.stored m
    rw [hW3]
    clear hW3 hI2 hI1 HI d0 d1 d2 d3 d4 d5 d6 d7 e0 e1 e2 e3 e4 e5 e6 e7 fz hb1 hb2
    have hz3 : W3.heap.size < W3.heap.size + 1 := by omega
    obtain ⟨D, hD⟩ : ∃ D, D = Sh.arr m.list := ⟨_, rfl⟩
    have hl8 : D.size = 8 := by rw [hD]; rfl
    have hb : (W3.alloc (.cells M 5)).heap[w.heap.size]? = some (.cells D 78 (0, 0)) := by
      rw [Below.heap_alloc _ _ _ (by have := hI3.2.1; omega), hD]; exact hI3.1
    have hidx : ∀ k : Nat, k < 8 → ∀ wx, (Instr.index 78 (.agg D) (.int .i64 (k : Int))).run Tryz.prog wx = .ok (.int .u32 ((m.list.getD k 0 : Nat) : Int)) wx := by rw [hD]; exact index_words m
    have HIX : Hid (∀ k : Nat, k < 8 → ∀ wx, (Instr.index 78 (.agg D) (.int .i64 (k : Int))).run Tryz.prog wx = .ok (.int .u32 ((m.list.getD k 0 : Nat) : Int)) wx) := hidx
    have HO : Hid ((W3.alloc (.cells M 5)).ownsRow W3.heap.size 5 1 (.slice (some ⟨W3.heap.size, 0, none⟩) 0 32) 0 []) := made_own W3 M 32 hMs (by omega)
    have hBW : Hid (Below w.heap.size w (W3.alloc (.cells M 5))) := hI3.2.2.alloc (by have := hI3.2.1; omega) _
    have hWle : w.heap.size ≤ W3.heap.size := by have := hI3.2.1; omega
    clear hD hidx hI3
    go_wp2_with (first | (refine wpList_load_row rfl 78 _ rfl w.heap.size rfl 78 D (0, 0) _ hb Tryz.underlying78 rfl (by rw [hl8]; exact info26) ?_))
    go_loopw [7, 18] (fun v i wr => ∃ k : Nat, k ≤ 8 ∧ i = .int .i64 k ∧ wr.ownsRow W3.heap.size 5 1 v (Sh.dig (m.list.take k)).length (Lib.byteCells (Sh.dig (m.list.take k))) ∧ Below W3.heap.size (W3.alloc (.cells M 5)) wr ∧ W3.heap.size + 1 ≤ wr.heap.size) (fun _ i _ => 8 - (intOf i).toNat)
    case atStart => exact ⟨0, by omega, rfl, HO.out, Below.refl _ _, by simp⟩
    case round =>
      obtain ⟨k, hk, rfl, hown, hnx, hsz⟩ := hrel
      have hml : m.list.length = 8 := rfl
      by_cases hlt : k < 8
      · obtain ⟨x, hx⟩ : ∃ x, x = m.list.getD k 0 := ⟨_, rfl⟩
        have hix : ∀ wx, (Instr.index 78 (.agg D) (.int .i64 (k : Int))).run Tryz.prog wx = .ok (.int .u32 (x : Int)) wx := by rw [hx]; exact HIX.out k hlt
        have hxl : x < 4294967296 := by rw [hx]; exact S8.getD_lt HMO.out k
        have hdl : Hid ((Sh.dig (m.list.take k)).length ≤ 4294967296) := by
          show _ ≤ _
          rw [Sh.dig_length, List.length_take]; omega
        have hnext : Hid (Sh.dig (m.list.take (k + 1)) = Sh.dig (m.list.take k) ++ Sh.bytesOf x 4) := by
          show _ = _
          rw [hx]; exact Sh.dig_take _ _ (by omega)
        have HOW : Hid (wr.ownsRow _ _ _ _ _ _) := hown
        have HNX : Hid (Below _ _ wr) := hnx
        clear hown hnx hx hml
        go_wp2_with (first | (go_at_call 49; refine (append26_4 W3.heap.size _ _ x _ rfl (by omega) hdl.out _ (by omega) HOW.out).mono ?_; rintro e w4 ⟨v', rfl, ho', hb'⟩; have R1 : Hid (w4.ownsRow W3.heap.size 5 1 v' (Sh.dig (m.list.take (k + 1))).length (Lib.byteCells (Sh.dig (m.list.take (k + 1))))) := (by rw [hnext.out]; exact ho'); have R2 : Hid (Below W3.heap.size (W3.alloc (.cells M 5)) w4) := HNX.out.trans hb'; have R3 : W3.heap.size + 1 ≤ w4.heap.size := Nat.le_trans hsz hb'.size; clear ho' hb'))
        go_roundw
        case rel => exact ⟨k + 1, by omega, by go_num, R1.out, R2.out, R3⟩
        case measure => simp [intOf]; omega
      · have hk8 : k = 8 := by omega
        subst hk8
        rw [show m.list.take 8 = m.list from rfl] at hown
        obtain ⟨g, n, cap, str, hv, hconv, hstr⟩ := own_string hown (by intro h; have := congrArg List.length h; rw [Sh.dig_length, hml] at this; simp at this)
        have HBB : Hid (Below w.heap.size w wr) := hBW.out.trans (hnx.mono hWle)
        rw [hv]
        clear hown hnx hv
        go_wp2
        go_ret
        exact ⟨ret_str (by rw [hstr.out, HM.out, HTL.out]; rfl), HBB.out⟩
end Go.Proofs.YtlafdlcpelkdpaaGreatDoor
