/- What sha.finish makes of words, of the rest behind them and of a count: the digest's 32 bytes. -/
import Derived.Test.YtoldfepeldbcpaaDoorShPad
namespace Go.Proofs.YtoldfepeldbcpaaDoor
open Go.RowKit
attribute [local go_sem ↓] Go.wp_at_zero Go.wp_at_succ
namespace Sh
/-- the bytes of words -/
def dig (l : List Nat) : List UInt8 := l.flatMap fun x => bytesOf x 4
/-- the words behind a text's whole blocks -/
def chgAll (s : S8) (t : List UInt8) : S8 := chg s t (t.length / 64)
/-- the digest of words that all whole blocks have changed, and of the rest behind them -/
def fin (s : S8) (rest : List UInt8) (c : Nat) : List UInt8 := dig (chgAll s (rest ++ pad c)).list
theorem pad_length (c : Nat) : (pad c).length = nz c + 9 := by simp [pad, bytesOf]
theorem nz_lt (c : Nat) : nz c < 64 := Nat.mod_lt _ (by decide)
theorem bytesOf_length (n m : Nat) : (bytesOf n m).length = m := by simp [bytesOf]
theorem dig_length (l : List Nat) : (dig l).length = 4 * l.length := by
  induction l with
  | nil => rfl
  | cons x r ih => simp only [dig, List.flatMap_cons, List.length_append, bytesOf_length, List.length_cons] at *; omega
theorem dig_take (l : List Nat) (k : Nat) (h : k < l.length) : dig (l.take (k + 1)) = dig (l.take k) ++ bytesOf (l.getD k 0) 4 := by
  have e : l.getD k 0 = l[k] := by rw [List.getD_eq_getElem?_getD, List.getElem?_eq_getElem h]; rfl
  unfold dig
  rw [List.take_succ_eq_append_getElem h, List.flatMap_append, e]
  simp
end Sh
/-- the one block of a call -/
def BI (w wr : World) (v : List Nat) : Prop := wr.heap[w.heap.size]? = some (.cells (Sh.arr v) 70 (0, 0)) ∧ w.heap.size + 1 ≤ wr.heap.size ∧ Below w.heap.size w wr
theorem BI.put {w wr : World} {v : List Nat} (h : BI w wr v) (i x : Nat) : BI w (wr.setCell ⟨w.heap.size, i, none⟩ (.int .u32 (x : Int))) (v.set i x) := by
  obtain ⟨h1, h3, h4⟩ := h
  exact ⟨row_put h1 i x, by simpa using h3, h4.setCell (p := ⟨w.heap.size, i, none⟩) (by simp) _⟩
theorem BI.drew {w wr : World} {v : List Nat} (h : BI w wr v) : BI w wr.drew v := ⟨h.1, h.2.1, h.2.2.drew⟩
theorem BI.call {w wr w1 : World} {v : List Nat} (h : BI w wr v) (hb : Below wr.heap.size wr w1) : BI w w1 v := by
  obtain ⟨h1, h3, h4⟩ := h
  exact ⟨(hb.block _ (by omega)).trans h1, Nat.le_trans h3 hb.size, h4.trans (hb.mono (by omega))⟩
theorem BI.cells {w wr : World} {v : Sh.S8} (h : BI w wr v.list) :
    wr.cell? ⟨w.heap.size, 0, none⟩ = some (.int .u32 (v.a : Int)) ∧ wr.cell? ⟨w.heap.size, 1, none⟩ = some (.int .u32 (v.b : Int)) ∧ wr.cell? ⟨w.heap.size, 2, none⟩ = some (.int .u32 (v.c : Int)) ∧ wr.cell? ⟨w.heap.size, 3, none⟩ = some (.int .u32 (v.d : Int)) ∧
    wr.cell? ⟨w.heap.size, 4, none⟩ = some (.int .u32 (v.e : Int)) ∧ wr.cell? ⟨w.heap.size, 5, none⟩ = some (.int .u32 (v.f : Int)) ∧ wr.cell? ⟨w.heap.size, 6, none⟩ = some (.int .u32 (v.g : Int)) ∧ wr.cell? ⟨w.heap.size, 7, none⟩ = some (.int .u32 (v.h : Int)) :=
  ⟨row_cell h.1 0 (show 0 < 8 by decide), row_cell h.1 1 (show 1 < 8 by decide), row_cell h.1 2 (show 2 < 8 by decide), row_cell h.1 3 (show 3 < 8 by decide), row_cell h.1 4 (show 4 < 8 by decide), row_cell h.1 5 (show 5 < 8 by decide), row_cell h.1 6 (show 6 < 8 by decide), row_cell h.1 7 (show 7 < 8 by decide)⟩
theorem BI.stored {w wr : World} {v : Sh.S8} (h : BI w wr v.list) (m : Sh.S8) :
    BI w ((((((((wr.setCell ⟨w.heap.size, 0, none⟩ (.int .u32 (m.a : Int))).setCell ⟨w.heap.size, 1, none⟩ (.int .u32 (m.b : Int))).setCell ⟨w.heap.size, 2, none⟩ (.int .u32 (m.c : Int))).setCell ⟨w.heap.size, 3, none⟩ (.int .u32 (m.d : Int))).setCell ⟨w.heap.size, 4, none⟩ (.int .u32 (m.e : Int))).setCell ⟨w.heap.size, 5, none⟩ (.int .u32 (m.f : Int))).setCell ⟨w.heap.size, 6, none⟩ (.int .u32 (m.g : Int))).setCell ⟨w.heap.size, 7, none⟩ (.int .u32 (m.h : Int))) m.list :=
  (((((((h.put 0 m.a).put 1 m.b).put 2 m.c).put 3 m.d).put 4 m.e).put 5 m.f).put 6 m.g).put 7 m.h
theorem box_start (w : World) (v : List Nat) : BI w (w.alloc (.cells (Sh.arr v) 70)) v := ⟨heap_alloc_new w _, by simp, (Below.refl _ w).alloc (Nat.le_refl _) _⟩
/-- the change, its words written out -/
theorem change20' (v m : Sh.S8) (hv : v.ok) (t : ByteArray) (ht : t.size ≤ 1125899906842624) (hm : Hid (m = Sh.chgAll v t.data.toList)) (w : World) (hK : HasK w) :
    Calls Tryd.prog 28 #[.agg #[.int .u32 v.a, .int .u32 v.b, .int .u32 v.c, .int .u32 v.d, .int .u32 v.e, .int .u32 v.f, .int .u32 v.g, .int .u32 v.h], .string t] w
      fun e w' => e = .returned (.agg #[.int .u32 m.a, .int .u32 m.b, .int .u32 m.c, .int .u32 m.d, .int .u32 m.e, .int .u32 m.f, .int .u32 m.g, .int .u32 m.h]) ∧ Below w.heap.size w w' := by
  have := change20 v hv t ht w hK
  rw [show Sh.chg v t.data.toList (t.size / 64) = m from (by rw [hm.out, Sh.chgAll, ← Lib.size_eq])] at this
  exact this
theorem index_words (m : Sh.S8) (k : Nat) (hk : k < 8) (wx : World) : (Instr.index 70 (.agg (Sh.arr m.list)) (.int .i64 (k : Int))).run Tryd.prog wx = .ok (.int .u32 ((m.list.getD k 0 : Nat) : Int)) wx := by
  match k, hk with
  | 0, _ => show _ = _; kernel_rfl
  | 1, _ => show _ = _; kernel_rfl
  | 2, _ => show _ = _; kernel_rfl
  | 3, _ => show _ = _; kernel_rfl
  | 4, _ => show _ = _; kernel_rfl
  | 5, _ => show _ = _; kernel_rfl
  | 6, _ => show _ = _; kernel_rfl
  | 7, _ => show _ = _; kernel_rfl
theorem made_own (w : World) (M : Array Value) (n : Nat) (hM : M.size = n) (hn : n ≤ 4294967296) : (w.alloc (.cells M 5)).ownsRow w.heap.size 5 1 (.slice (some ⟨w.heap.size, 0, none⟩) 0 n) 0 [] :=
  ⟨rfl, Or.inr ⟨w.heap.size, n, M, rfl, Nat.le_refl _, heap_alloc_new w _, Nat.zero_le _, by unfold maxLen; omega, by omega, by simp⟩⟩
theorem S8.getD_lt {m : Sh.S8} (h : m.ok) (k : Nat) : m.list.getD k 0 < 4294967296 := by
  apply Sh.getD_lt
  intro x hx
  simp only [Sh.S8.list, List.mem_cons, List.mem_nil_iff, or_false] at hx
  obtain ⟨ha, hb, hc, hd, he, hf, hg, hh⟩ := h
  rcases hx with rfl | rfl | rfl | rfl | rfl | rfl | rfl | rfl <;> assumption
set_option maxHeartbeats 2000000 in
set_option maxRecDepth 10000 in
theorem finish19 (s : Sh.S8) (hs : s.ok) (t : ByteArray) (ht : t.size ≤ 1125899906842000) (c : Nat) (hc : c < 1152921504606846976) (w : World) (hK : HasK w) :
    Calls Tryd.prog 27 #[.agg (Sh.arr s.list), .string t, .int .u64 c] w fun e w' => e = .returned (.string ⟨(Sh.fin s t.data.toList c).toArray⟩) ∧ Below w.heap.size w w' := by
  show Calls Tryd.prog 27 #[.agg #[.int .u32 s.a, .int .u32 s.b, .int .u32 s.c, .int .u32 s.d, .int .u32 s.e, .int .u32 s.f, .int .u32 s.g, .int .u32 s.h], .string t, .int .u64 c] w _
  obtain ⟨i0, hi, hz0, hz1, hz2⟩ := info_parts info5
  obtain ⟨p, hp⟩ : ∃ p : ByteArray, p = ⟨(Sh.pad c).toArray⟩ := ⟨_, rfl⟩
  have hps : p.size ≤ 100 := by
    rw [Lib.size_eq, hp]
    have := Sh.pad_length c
    have := Sh.nz_lt c
    show (Sh.pad c).length ≤ 100
    omega
  obtain ⟨tp, htp⟩ : ∃ tp, tp = t ++ p := ⟨_, rfl⟩
  have htl : tp.data.toList = t.data.toList ++ Sh.pad c := by rw [htp, hp]; simp
  have hts : tp.size ≤ 1125899906842624 := by rw [htp]; simp; omega
  obtain ⟨m, hm⟩ : ∃ m, m = Sh.chgAll s tp.data.toList := ⟨_, rfl⟩
  have hp25 : ∀ W, Calls Tryd.prog 50 #[.int .u64 c] W fun e w' => e = .returned (.string p) ∧ Below W.heap.size W w' := fun W => by rw [hp]; exact padding25 c hc W
  have HP : Hid (∀ W, _) := hp25
  have hadd : ∀ W, (Op.stringOp .add t p).run Tryd.prog W = .ok (.string tp) W := fun W => by rw [htp]; exact run_string_add_sum W t p (by omega)
  have HK : Hid (HasK w) := hK
  have hs0 : Hid s.ok := hs
  have HM : Hid (m = _) := hm
  have hB : 0 < w.heap.size := hK.1
  obtain ⟨M, hM⟩ : ∃ M, M = madeCells (Value.int .u8 0).cells (32 * i0.size) := ⟨_, rfl⟩
  have hmk : ∀ u : World, (Instr.makeSlice 96 (.int .i64 0) (.int .i64 32)).run Tryd.prog u = .ok (.slice (some ⟨u.heap.size, 0, none⟩) 0 32) (u.alloc (.cells M 5)) := fun u => by
    have h := run_make (P := Tryd.prog) u 96 5 i0 (.int .u8 0) Tryd.underlying96 hi hz0 .i64 .i64 0 32 (by omega) (by omega) (by rw [hz2]; omega) (by omega)
    rw [show (32 : Int).toNat = 32 from rfl, ← hM] at h
    exact h
  have hMs : M.size = 32 := by rw [hM, size_madeCells, hz1]
  have HMO : Hid m.ok := by show m.ok; rw [hm]; exact Sh.chg_ok hs _ _
  have HTL : Hid (tp.data.toList = t.data.toList ++ Sh.pad c) := htl
  clear hK hs hm htl hp htp hp25 hM
  go_enter Tryd.func27, Tryd.ntmps27
  go_wp2
  have HI : Hid (BI w (w.alloc (.cells #[.int .u32 s.a, .int .u32 s.b, .int .u32 s.c, .int .u32 s.d, .int .u32 s.e, .int .u32 s.f, .int .u32 s.g, .int .u32 s.h] 70)) s.list) := box_start w s.list
  go_region_with (first | (go_at_call 50; refine (HP.out _).mono ?_; rintro e w1 ⟨rfl, hb1⟩; have hI1 : Hid (BI w w1 s.list) := HI.out.drew.call (by exact hb1); obtain ⟨d0, d1, d2, d3, d4, d5, d6, d7⟩ := hI1.out.cells) | (go_at_call 28; refine (change20' s m hs0.out tp hts HM _ (HK.out.below hB hI1.out.2.2)).mono ?_; rintro e w2 ⟨rfl, hb2⟩; have hI2 : Hid (BI w w2 s.list) := hI1.out.call (by exact hb2); obtain ⟨e0, e1, e2, e3, e4, e5, e6, e7⟩ := hI2.out.cells; have fz : ∀ j, w2.frozen? ⟨w.heap.size, j, none⟩ = false := row_free hI2.out.1))
  all_goals
    obtain ⟨W3, hW3⟩ : ∃ W3, ((((((((w2.setCell ⟨w.heap.size, 0, none⟩ (.int .u32 (m.a : Int))).setCell ⟨w.heap.size, 1, none⟩ (.int .u32 (m.b : Int))).setCell ⟨w.heap.size, 2, none⟩ (.int .u32 (m.c : Int))).setCell ⟨w.heap.size, 3, none⟩ (.int .u32 (m.d : Int))).setCell ⟨w.heap.size, 4, none⟩ (.int .u32 (m.e : Int))).setCell ⟨w.heap.size, 5, none⟩ (.int .u32 (m.f : Int))).setCell ⟨w.heap.size, 6, none⟩ (.int .u32 (m.g : Int))).setCell ⟨w.heap.size, 7, none⟩ (.int .u32 (m.h : Int))) = W3 := ⟨_, rfl⟩
    have hI3 : BI w W3 m.list := by rw [← hW3]; exact hI2.out.stored m
    rw [hW3]
    clear hW3 hI2 hI1 HI d0 d1 d2 d3 d4 d5 d6 d7 e0 e1 e2 e3 e4 e5 e6 e7 fz hb1 hb2
    have hz3 : W3.heap.size < W3.heap.size + 1 := by omega
    obtain ⟨D, hD⟩ : ∃ D, D = Sh.arr m.list := ⟨_, rfl⟩
    have hl8 : D.size = 8 := by rw [hD]; rfl
    have hb : (W3.alloc (.cells M 5)).heap[w.heap.size]? = some (.cells D 70 (0, 0)) := by
      rw [Below.heap_alloc _ _ _ (by have := hI3.2.1; omega), hD]; exact hI3.1
    have hidx : ∀ k : Nat, k < 8 → ∀ wx, (Instr.index 70 (.agg D) (.int .i64 (k : Int))).run Tryd.prog wx = .ok (.int .u32 ((m.list.getD k 0 : Nat) : Int)) wx := by rw [hD]; exact index_words m
    have HIX : Hid (∀ k : Nat, k < 8 → ∀ wx, (Instr.index 70 (.agg D) (.int .i64 (k : Int))).run Tryd.prog wx = .ok (.int .u32 ((m.list.getD k 0 : Nat) : Int)) wx) := hidx
    have HO : Hid ((W3.alloc (.cells M 5)).ownsRow W3.heap.size 5 1 (.slice (some ⟨W3.heap.size, 0, none⟩) 0 32) 0 []) := made_own W3 M 32 hMs (by omega)
    have hBW : Hid (Below w.heap.size w (W3.alloc (.cells M 5))) := hI3.2.2.alloc (by have := hI3.2.1; omega) _
    have hWle : w.heap.size ≤ W3.heap.size := by have := hI3.2.1; omega
    clear hD hidx hI3
    go_wp2_with (first | (refine wpList_load_row rfl 70 _ rfl w.heap.size rfl 70 D (0, 0) _ hb Tryd.underlying70 rfl (by rw [hl8]; exact info26) ?_))
    go_loopw [7, 18] (fun v i wr => ∃ k : Nat, k ≤ 8 ∧ i = .int .i64 k ∧ wr.ownsRow W3.heap.size 5 1 v (Sh.dig (m.list.take k)).length (Lib.byteCells (Sh.dig (m.list.take k))) ∧ Below W3.heap.size (W3.alloc (.cells M 5)) wr ∧ W3.heap.size + 1 ≤ wr.heap.size) (fun _ i _ => 8 - (intOf i).toNat)
    case atStart => exact ⟨0, by omega, rfl, HO.out, Below.refl _ _, by simp⟩
    case round =>
      obtain ⟨k, hk, rfl, hown, hnx, hsz⟩ := hrel
      have hml : m.list.length = 8 := rfl
      by_cases hlt : k < 8
      · obtain ⟨x, hx⟩ : ∃ x, x = m.list.getD k 0 := ⟨_, rfl⟩
        have hix : ∀ wx, (Instr.index 70 (.agg D) (.int .i64 (k : Int))).run Tryd.prog wx = .ok (.int .u32 (x : Int)) wx := by rw [hx]; exact HIX.out k hlt
        have hxl : x < 4294967296 := by rw [hx]; exact S8.getD_lt HMO.out k
        have hdl : Hid ((Sh.dig (m.list.take k)).length ≤ 4294967296) := by
          show _ ≤ _
          rw [Sh.dig_length, List.length_take]; omega
        have hnext : Hid (Sh.dig (m.list.take (k + 1)) = Sh.dig (m.list.take k) ++ Sh.bytesOf x 4) := by
          show _ = _
          rw [hx]; exact Sh.dig_take _ _ (by omega)
        have HOW : Hid (wr.ownsRow _ _ _ _ _ _) := hown
        have HNX : Hid (Below _ _ wr) := hnx
        clear hown hnx hx hml
        go_wp2_with (first | (go_at_call 51; refine (append26_4 W3.heap.size _ _ x _ rfl (by omega) hdl.out _ (by omega) HOW.out).mono ?_; rintro e w4 ⟨v', rfl, ho', hb'⟩; have R1 : Hid (w4.ownsRow W3.heap.size 5 1 v' (Sh.dig (m.list.take (k + 1))).length (Lib.byteCells (Sh.dig (m.list.take (k + 1))))) := (by rw [hnext.out]; exact ho'); have R2 : Hid (Below W3.heap.size (W3.alloc (.cells M 5)) w4) := HNX.out.trans hb'; have R3 : W3.heap.size + 1 ≤ w4.heap.size := Nat.le_trans hsz hb'.size; clear ho' hb'))
        go_roundw
        case rel => exact ⟨k + 1, by omega, by go_num, R1.out, R2.out, R3⟩
        case measure => simp [intOf]; omega
      · have hk8 : k = 8 := by omega
        subst hk8
        rw [show m.list.take 8 = m.list from rfl] at hown
        obtain ⟨g, n, cap, str, hv, hconv, hstr⟩ := own_string hown (by intro h; have := congrArg List.length h; rw [Sh.dig_length, hml] at this; simp at this)
        have HBB : Hid (Below w.heap.size w wr) := hBW.out.trans (hnx.mono hWle)
        rw [hv]
        clear hown hnx hv
        go_wp2
        go_ret
        exact ⟨ret_str (by rw [hstr.out, HM.out, HTL.out]; rfl), HBB.out⟩
end Go.Proofs.YtoldfepeldbcpaaDoor
