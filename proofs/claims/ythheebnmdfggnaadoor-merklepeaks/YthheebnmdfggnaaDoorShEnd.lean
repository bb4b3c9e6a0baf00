/- What the reference's End answers: the digest of a state that is right. -/
import Derived.Test.YthheebnmdfggnaaDoorShAll
namespace Go.Proofs.YthheebnmdfggnaaDoor
open Go.RowKit
attribute [local go_sem ↓] Go.wp_at_zero Go.wp_at_succ
theorem XI.grown {w wr w1 : World} {s : Sh.S8} {c : Nat} {r : ByteArray} {row : Option Nat} (h : XI w wr s c r) (o : Obj) (hg : (wr.alloc o).grownBy w1 row) (hr : ∀ k, row = some k → w.heap.size + 1 ≤ k) : XI w w1 s c r := by
  obtain ⟨h1, h3, h4⟩ := h
  have hne : ∀ j, j < w.heap.size + 1 → some j ≠ row := fun j hj e => by have := hr j e.symm; omega
  refine ⟨?_, ?_, (h4.alloc (by omega) o).grown hg (by simp; omega) (fun k hk => by have := hr k hk; omega)⟩
  · rw [hg.block _ (by simp; omega) (hne _ (by omega)), Below.heap_alloc _ _ _ (by omega)]; exact h1
  · have := hg.size; simp at this; omega
theorem one_own (w : World) (b : UInt8) (base : Nat) (hb : base ≤ w.heap.size) : (w.alloc (.cells #[.int .u8 (b.toNat : Int)] 5)).ownsRow base 5 1 (.slice (some ⟨w.heap.size, 0, none⟩) 1 1) [b].length (Lib.byteCells [b]) :=
  ⟨rfl, Or.inr ⟨w.heap.size, 1, #[.int .u8 (b.toNat : Int)], rfl, hb, heap_alloc_new w _, by simp, by unfold maxLen; simp, by simp, by simp [Lib.byteCells]⟩⟩
set_option maxHeartbeats 1000000 in
theorem end16_no (s : Sh.S8) (c : Nat) (r : ByteArray) (hc : c < 18446744073709551616) (hr : r.size ≤ 9223372036854775807) (hno : Sh.rightB c r.size = false) (w : World) :
    Calls Tryd.prog 51 #[.agg #[.int .u32 s.a, .int .u32 s.b, .int .u32 s.c, .int .u32 s.d, .int .u32 s.e, .int .u32 s.f, .int .u32 s.g, .int .u32 s.h, .int .u64 c, .string r]] w fun e w' => e = .returned (.tuple #[.string ⟨#[]⟩, .int .i64 6]) ∧ Below w.heap.size w w' := by
  have HN : Hid (Sh.rightB c r.size = false) := hno
  clear hno
  go_enter Tryd.func51, Tryd.ntmps51
  go_wp2_with fail
  refine (right24 s c r hc (by omega) _).mono ?_
  rw [HN.out]
  rintro e w1 ⟨rfl, hb1⟩
  have B1 : Hid (Below w.heap.size w w1) := ((Below.refl _ w).alloc (Nat.le_refl _) _).trans (hb1.mono (by simp))
  clear hb1
  go_wp2
  go_ret2
  exact ⟨rfl, B1.out⟩
def rowLen : Value → Nat
  | .slice _ n _ => n
  | _ => 0
theorem own_open8 {w : World} {base n : Nat} {v : Value} {l : List Value} (h : w.ownsRow base 5 1 v n l) (hn : 0 < n) : ∃ g cap, v = .slice (some ⟨g, 0, none⟩) n cap ∧ n ≤ cap := by
  rcases h.2 with ⟨_, h'⟩ | ⟨g, cap, cur, rfl, hb, hg, hc, _⟩
  · omega
  · exact ⟨g, cap, rfl, hc⟩
theorem XI.kept {w W : World} {s : Sh.S8} {c : Nat} {r : ByteArray} (h : XI w W s c r) (x0 x1 x2 x3 x4 x5 x6 x7 x8 x9 : Value) :
    Below w.heap.size w ((((((((((W.setCell ⟨w.heap.size, 0, none⟩ x0).setCell ⟨w.heap.size, 1, none⟩ x1).setCell ⟨w.heap.size, 2, none⟩ x2).setCell ⟨w.heap.size, 3, none⟩ x3).setCell ⟨w.heap.size, 4, none⟩ x4).setCell ⟨w.heap.size, 5, none⟩ x5).setCell ⟨w.heap.size, 6, none⟩ x6).setCell ⟨w.heap.size, 7, none⟩ x7).setCell ⟨w.heap.size, 8, none⟩ x8).setCell ⟨w.heap.size, 9, none⟩ x9) ∧ w.heap.size + 1 ≤ ((((((((((W.setCell ⟨w.heap.size, 0, none⟩ x0).setCell ⟨w.heap.size, 1, none⟩ x1).setCell ⟨w.heap.size, 2, none⟩ x2).setCell ⟨w.heap.size, 3, none⟩ x3).setCell ⟨w.heap.size, 4, none⟩ x4).setCell ⟨w.heap.size, 5, none⟩ x5).setCell ⟨w.heap.size, 6, none⟩ x6).setCell ⟨w.heap.size, 7, none⟩ x7).setCell ⟨w.heap.size, 8, none⟩ x8).setCell ⟨w.heap.size, 9, none⟩ x9).heap.size := by
  have hl : w.heap.size ≤ w.heap.size := Nat.le_refl _
  exact ⟨((((((((((h.2.2.setCell (p := ⟨w.heap.size, 0, none⟩) hl x0).setCell (p := ⟨w.heap.size, 1, none⟩) hl x1).setCell (p := ⟨w.heap.size, 2, none⟩) hl x2).setCell (p := ⟨w.heap.size, 3, none⟩) hl x3).setCell (p := ⟨w.heap.size, 4, none⟩) hl x4).setCell (p := ⟨w.heap.size, 5, none⟩) hl x5).setCell (p := ⟨w.heap.size, 6, none⟩) hl x6).setCell (p := ⟨w.heap.size, 7, none⟩) hl x7).setCell (p := ⟨w.heap.size, 8, none⟩) hl x8).setCell (p := ⟨w.heap.size, 9, none⟩) hl x9), by simpa using h.2.1⟩
theorem four_new (w : World) (u v x y : Value) (t : TypeId) (j : Nat) (z : Value) (hj : [u, v, x, y][j]? = some z) : (w.alloc (.cells #[u, v, x, y] t)).cell? ((⟨w.heap.size, 0, none⟩ : Addr).add j) = some z := by
  match j, hj with
  | 0, hj => simp at hj; subst hj; simp [Addr.add]
  | 1, hj => simp at hj; subst hj; simp [Addr.add]
  | 2, hj => simp at hj; subst hj; simp [Addr.add]
  | 3, hj => simp at hj; subst hj; simp [Addr.add]
theorem word_bytes (x : Nat) (hx : x < 4294967296) : Lib.byteCells (Sh.bytesOf x 4) = [.int .u8 ((x : Int) / 16777216), .int .u8 ((x : Int) / 65536 % 256), .int .u8 ((x : Int) / 256 % 256), .int .u8 ((x : Int) % 256)] := by
  have e0 := Sh.nb_eq x 4 0
  have e1 := Sh.nb_eq x 4 1
  have e2 := Sh.nb_eq x 4 2
  have e3 := Sh.nb_eq x 4 3
  simp only [show (2 : Int) ^ (8 * (4 - 1 - 0)) = 16777216 from rfl] at e0
  simp only [show (2 : Int) ^ (8 * (4 - 1 - 1)) = 65536 from rfl] at e1
  simp only [show (2 : Int) ^ (8 * (4 - 1 - 2)) = 256 from rfl] at e2
  simp only [show (2 : Int) ^ (8 * (4 - 1 - 3)) = 1 from rfl, Int.ediv_one] at e3
  rw [show (x : Int) / 16777216 = (x : Int) / 16777216 % 256 by omega, ← e0, ← e1, ← e2, ← e3]
  rfl
theorem nb_more (pre : List UInt8) (n k : Nat) : Lib.byteCells (pre ++ (List.range (k + 1)).map (Sh.nb n 8)) = Lib.byteCells (pre ++ (List.range k).map (Sh.nb n 8)) ++ [.int .u8 ((n : Int) / 2 ^ (8 * (7 - k)) % 256)] := by
  rw [List.range_succ, List.map_append, ← List.append_assoc, show 7 - k = 8 - 1 - k by omega, ← Sh.nb_eq]
  simp [Lib.byteCells]
theorem nz_more (L : Nat) (h : 1 ≤ L) : Lib.byteCells ([(128 : UInt8)] ++ List.replicate (L + 1 - 1) 0) = Lib.byteCells ([(128 : UInt8)] ++ List.replicate (L - 1) 0) ++ [.int .u8 0] := by
  obtain ⟨k, rfl⟩ : ∃ k, L = k + 1 := ⟨L - 1, by omega⟩
  rw [show k + 1 + 1 - 1 = k + 1 by omega, show k + 1 - 1 = k by omega, List.replicate_succ', ← List.append_assoc]
  simp [Lib.byteCells]
set_option maxRecDepth 20000 in
set_option maxHeartbeats 4000000 in
theorem end16_yes (s : Sh.S8) (hs : s.ok) (c : Nat) (r : ByteArray) (hc : c < 1152921504606846976) (hr : r.size ≤ 64) (hyes : Sh.rightB c r.size = true) (d : ByteArray) (hd : Hid (d = ⟨(Sh.fin s r.data.toList c).toArray⟩)) (w : World) :
    Calls Tryd.prog 51 #[.agg #[.int .u32 s.a, .int .u32 s.b, .int .u32 s.c, .int .u32 s.d, .int .u32 s.e, .int .u32 s.f, .int .u32 s.g, .int .u32 s.h, .int .u64 c, .string r]] w fun e w' => e = .returned (.tuple #[.string d, .int .i64 0]) ∧ Below w.heap.size w w' := by
  have HN : Hid (Sh.rightB c r.size = true) := hyes
  have hrc : r.size = c % 64 := by
    have := hyes
    simp [Sh.rightB] at this
    exact this.2
  have HRC : Hid (r.size = c % 64) := hrc
  have HS : Hid s.ok := hs
  obtain ⟨i0, hi, hz0, hz1, hz2⟩ := info_parts info5
  clear hyes hs hrc
  go_enter Tryd.func51, Tryd.ntmps51
  go_wp2_with fail
  refine (right24 s c r (by omega) (by omega) _).mono ?_
  rw [HN.out]
  rintro e w1 ⟨rfl, hb1⟩
  have X1 : Hid (XI w w1 s c r) := (XI.start w s c r).call (by exact hb1)
  obtain ⟨d0, d1, d2, d3, d4, d5, d6, d7, d8, d9⟩ := X1.out.cells
  obtain ⟨n, hn⟩ : ∃ n : Nat, n = 8 * c := ⟨_, rfl⟩
  have hn64 : IntKind.u64.wrap (8 * (c : Int)) = (n : Int) := by rw [hn, IntKind.wrap_u64]; omega
  have HNN : Hid (n = 8 * c) := hn
  have hsz1 : w.heap.size + 1 ≤ w1.heap.size := X1.out.2.1
  clear hb1 d0 d1 d2 d3 d4 d5 d6 d7 hn
  go_wp2
  go_loopw [5] (fun v wr => ∃ L : Nat, 1 ≤ L ∧ L ≤ Sh.nz c + 1 ∧ wr.ownsRow (w.heap.size + 1) 5 1 v L (Lib.byteCells ([128] ++ List.replicate (L - 1) 0)) ∧ XI w wr s c r) (fun v _ => 100 - rowLen v)
  case atStart => exact ⟨1, by omega, by omega, one_own w1 128 _ hsz1, X1.out.alloc _⟩
  case round =>
    obtain ⟨L, hL1, hL2, hown, hX⟩ := hrel
    obtain ⟨g, cap, hv, hcap⟩ := own_open8 hown (by omega)
    have HBS : Hid (∀ k, _ → _) := own_block_le hown
    rw [hv] at hown HBS ⊢
    have HX : Hid (XI w wr s c r) := hX
    have e9 := hX.cells.2.2.2.2.2.2.2.2.2
    have hsz : w.heap.size + 1 ≤ wr.heap.size := hX.2.1
    have hnz : Sh.nz c < 64 := Sh.nz_lt c
    by_cases hlt : L < Sh.nz c + 1
    · obtain ⟨z, hzz, hne⟩ : ∃ z : Nat, (r.size : Int) + (L : Int) = (z : Int) ∧ ((z : Int) % 64 != 56) = true := ⟨r.size + L, by omega, by have := HRC.out; rw [bne_iff_ne]; unfold Sh.nz at hlt; omega⟩
      have HO : Hid (wr.ownsRow (w.heap.size + 1) 5 1 (.slice (some ⟨g, 0, none⟩) L cap) L (Lib.byteCells ([128] ++ List.replicate (L - 1) 0))) := hown
      clear hown hX hv d8 d9
      go_wp2_with (first | (at_builtin; refine wpList_append_own _ rfl _ _ 107 rfl (w.heap.size + 1) 5 i0 (.int .u8 0) 1 1 Tryd.underlying107 hi hz0 hz1 hz2 rfl (by decide) _ _ _ rfl (HO.out.alloc _) ⟨wr.heap.size, 0, none⟩ 1 1 [.int .u8 0] rfl rfl (cell_new _ _ _) ?c2 ?c3 ?c4 ?c5 ?_))
      case c2 => first | rfl | (intro u hu; simp at hu; subst hu; rfl)
      case c3 => unfold maxLen; omega
      case c4 => omega
      case c5 => first | omega | (simp; omega)
      · intro v' w2 hown' hgrow _
        obtain ⟨g', cap', hv', _⟩ := own_open8 hown' (by omega)
        have R1 : Hid (w2.ownsRow (w.heap.size + 1) 5 1 v' (L + 1) (Lib.byteCells ([128] ++ List.replicate (L + 1 - 1) 0))) := by
          show World.ownsRow _ _ _ _ _ _ _
          rw [nz_more L hL1]
          exact hown'
        have R2 : Hid (XI w w2 s c r) := HX.out.grown _ hgrow HBS.out
        clear hown' hgrow HO HX HBS
        go_wp2
        go_roundw
        case rel => exact ⟨L + 1, by omega, by omega, R1.out, R2.out⟩
        case measure => rw [hv']; simp [rowLen]; omega
    · have hLe : L = Sh.nz c + 1 := by omega
      obtain ⟨z, hzz, heq⟩ : ∃ z : Nat, (r.size : Int) + (L : Int) = (z : Int) ∧ ((z : Int) % 64 != 56) = false := ⟨r.size + L, by omega, by have := HRC.out; rw [bne_eq_false_iff_eq]; unfold Sh.nz at hLe; omega⟩
      obtain ⟨pre, hpre⟩ : ∃ pre : List UInt8, pre = [128] ++ List.replicate (L - 1) 0 := ⟨_, rfl⟩
      have hpl : pre.length = L := by rw [hpre]; simp; omega
      rw [← hpre] at hown
      have HPRE : Hid (pre = [128] ++ List.replicate (Sh.nz c) 0) := by
        show _ = _
        rw [hpre, hLe]; simp
      have HO : Hid (wr.ownsRow (w.heap.size + 1) 5 1 (.slice (some ⟨g, 0, none⟩) L cap) L (Lib.byteCells pre)) := hown
      have hLs : L ≤ 64 := by omega
      clear hown hX hv d8 d9 hpre hLe
      go_wp2
      go_loopw [5, 6] (fun v i wr => ∃ k : Nat, k ≤ 8 ∧ i = .int .i64 (7 - (k : Int)) ∧ wr.ownsRow (w.heap.size + 1) 5 1 v (L + k) (Lib.byteCells (pre ++ (List.range k).map (Sh.nb n 8))) ∧ XI w wr s c r) (fun _ i _ => (intOf i + 1).toNat)
      case atStart => exact ⟨0, by omega, rfl, by simpa using HO.out, HX.out⟩
      case round =>
        clear HO HX HBS e9 hsz
        obtain ⟨k, hk, rfl, hown, hX⟩ := hrel
        have HBS : Hid (∀ k, _ → _) := own_block_le hown
        have HX : Hid (XI w wr s c r) := hX
        have hsz : w.heap.size + 1 ≤ wr.heap.size := hX.2.1
        by_cases hlt : k < 8
        · obtain ⟨m, hm⟩ : ∃ m : Nat, m = 7 - k := ⟨_, rfl⟩
          have hm7 : m ≤ 7 := by omega
          rw [show (7 : Int) - (k : Int) = (m : Int) by omega]
          have HO : Hid (wr.ownsRow _ _ _ _ _ _) := hown
          have hkm : Hid (m + k = 7) := by show _ = _; omega
          have hkL : L + k ≤ 100 := by omega
          have HMK : Hid (m = 7 - k) := hm
          clear hown hX hm
          go_wp2_with (first | (at_builtin; refine wpList_append_own _ rfl _ _ 107 rfl (w.heap.size + 1) 5 i0 (.int .u8 0) 1 1 Tryd.underlying107 hi hz0 hz1 hz2 rfl (by decide) _ _ _ rfl (HO.out.alloc _) ⟨wr.heap.size, 0, none⟩ 1 1 [.int .u8 ((n : Int) / 2 ^ (8 * m) % 256)] rfl rfl (cell_new _ _ _) ?c2 ?c3 ?c4 ?c5 ?_))
          case c2 => first | rfl | (intro u hu; simp at hu; subst hu; rfl)
          case c3 => unfold maxLen; omega
          case c4 => omega
          case c5 => first | omega | (simp; omega)
          · intro v' w2 hown' hgrow _
            have R1 : Hid (w2.ownsRow (w.heap.size + 1) 5 1 v' (L + (k + 1)) (Lib.byteCells (pre ++ (List.range (k + 1)).map (Sh.nb n 8)))) := by
              show World.ownsRow _ _ _ _ _ _ _
              rw [nb_more, ← HMK.out]
              exact hown'
            have R2 : Hid (XI w w2 s c r) := HX.out.grown _ hgrow HBS.out
            clear hown' hgrow HO HX HBS
            go_wp2
            go_roundw
            case rel =>
              have hkm' := hkm.out
              rw [show (m : Int) - 1 = 7 - ((k + 1 : Nat) : Int) by omega]
              first | exact ⟨k + 1, by omega, by go_num, R1.out, R2.out⟩ | ((repeat apply Exists.intro); exact ⟨⟨k + 1, by omega, by go_num, R1.out, R2.out⟩, rfl⟩)
            case measure => first | (simp [intOf]; done) | (simp [intOf]; omega)
        · have hk8 : k = 8 := by omega
          subst hk8
          obtain ⟨p, hp⟩ : ∃ p : ByteArray, p = ⟨(Sh.pad c).toArray⟩ := ⟨_, rfl⟩
          have hpad : pre ++ (List.range 8).map (Sh.nb n 8) = Sh.pad c := by rw [HPRE.out, HNN.out]; rfl
          have hpal : (Sh.pad c).length = L + 8 := by rw [← hpad]; simp; omega
          rw [hpad, ← hpal] at hown
          obtain ⟨g2, n2, cap2, str, hv2, hconv, hstr⟩ := own_string hown (by intro h; rw [h] at hpal; simp at hpal)
          have hpl2 : p.data.toList = Sh.pad c := by rw [hp]
          have hps : p.size ≤ 100 := by rw [Lib.size_eq, hpl2]; omega
          rw [hstr.out, ← hp] at hconv
          rw [hv2]
          obtain ⟨c0, c1, c2, c3, c4, c5, c6, c7, c8, c9⟩ := hX.cells
          obtain ⟨m, hm⟩ : ∃ m, m = Sh.chgAll s (r.data.toList ++ p.data.toList) := ⟨_, rfl⟩
          obtain ⟨q, hq⟩ : ∃ q : ByteArray, q = ⟨(Sh.restOf (r.data.toList ++ p.data.toList)).toArray⟩ := ⟨_, rfl⟩
          obtain ⟨cn, hcn⟩ : ∃ cn : Nat, cn = c + p.size := ⟨_, rfl⟩
          have HM : Hid (m = _) := hm
          have HQ : Hid (q = _) := hq
          have HCN : Hid (cn = _) := hcn
          have HD : Hid (d = ⟨(Sh.dig m.list).toArray⟩) := by
            show _ = _
            rw [hd.out, hm, hpl2]; rfl
          have HMO : Hid m.ok := by show m.ok; rw [hm]; exact Sh.chg_ok HS.out _ _
          clear hm hq hcn hp hpl2 hpad hpal hown hv2 hX HBS
          go_wp2_with fail
          refine (all21 s m HS.out c cn r p q (by omega) hr (by omega) HCN HM HQ _).mono ?_
          rintro e w2 ⟨rfl, hb2⟩
          have X2 : Hid (XI w w2 s c r) := HX.out.call hb2
          clear hb2 c0 c1 c2 c3 c4 c5 c6 c7 c8 c9 hconv HX
          have fz : ∀ j, w2.frozen? ⟨w.heap.size, j, none⟩ = false := row_free X2.out.1
          obtain ⟨c0, c1, c2, c3, c4, c5, c6, c7, c8, c9⟩ := X2.out.cells
          have K2 : Hid (∀ x0 x1 x2 x3 x4 x5 x6 x7 x8 x9 : Value, _) := X2.out.kept
          go_wp2
          go_loopw [7, 46] (fun v i wx => ∃ k : Nat, k ≤ 8 ∧ i = .int .i64 (k : Int) ∧ wx.ownsRow (w.heap.size + 1) 5 1 v (Sh.dig (m.list.take k)).length (Lib.byteCells (Sh.dig (m.list.take k))) ∧ Below w.heap.size w wx ∧ w.heap.size + 1 ≤ wx.heap.size) (fun _ i _ => 8 - (intOf i).toNat)
          case atStart => exact ⟨0, by omega, rfl, World.ownsRow_nil _ _ _ _, (K2.out _ _ _ _ _ _ _ _ _ _).1, (K2.out _ _ _ _ _ _ _ _ _ _).2⟩
          case round =>
            clear K2 X2 fz c0 c1 c2 c3 c4 c5 c6 c7 c8 c9
            obtain ⟨k, hk, rfl, hown, hBw, hsz⟩ := hrel
            have hml : m.list.length = 8 := rfl
            by_cases hlt : k < 8
            · obtain ⟨x, hx⟩ : ∃ x, x = m.list.getD k 0 := ⟨_, rfl⟩
              have hix : ∀ wx, (Instr.index 83 (.agg #[.int .u32 m.a, .int .u32 m.b, .int .u32 m.c, .int .u32 m.d, .int .u32 m.e, .int .u32 m.f, .int .u32 m.g, .int .u32 m.h]) (.int .i64 (k : Int))).run Tryd.prog wx = .ok (.int .u32 (x : Int)) wx := by rw [hx]; exact index_words m k hlt
              have hxl : x < 4294967296 := by rw [hx]; exact S8.getD_lt HMO.out k
              have hlen : (Sh.dig (m.list.take k)).length = 4 * k := by rw [Sh.dig_length, List.length_take]; omega
              have hnext : Hid (Lib.byteCells (Sh.dig (m.list.take (k + 1))) = Lib.byteCells (Sh.dig (m.list.take k)) ++ Lib.byteCells (Sh.bytesOf x 4) ∧ (Sh.dig (m.list.take (k + 1))).length = 4 * k + 4) := by
                show _ ∧ _
                rw [hx, Sh.dig_take _ _ (by omega)]
                exact ⟨by simp [Lib.byteCells], by rw [List.length_append, hlen, Sh.bytesOf_length]⟩
              rw [hlen] at hown
              have HBS : Hid (∀ k, _ → _) := own_block_le hown
              have HO : Hid (wr.ownsRow _ _ _ _ _ _) := hown
              have HB : Hid (Below w.heap.size w wr) := hBw
              have k0 : (0 : Int) ≤ (k : Int) := by omega
              have k1 : (k : Int) < 8 := by omega
              clear hown hBw hx hlen hml
              go_wp2_with (first | (at_builtin; (refine wpList_append_own _ rfl _ _ 107 rfl (w.heap.size + 1) 5 i0 (.int .u8 0) 1 1 Tryd.underlying107 hi hz0 hz1 hz2 rfl (by decide) _ _ _ rfl (HO.out.alloc _) ⟨wr.heap.size, 0, none⟩ 4 4 [.int .u8 ((x : Int) / 16777216), .int .u8 ((x : Int) / 65536 % 256), .int .u8 ((x : Int) / 256 % 256), .int .u8 ((x : Int) % 256)] rfl rfl (four_new _ _ _ _ _ _) ?c2 ?c3 ?c4 ?c5 ?_)))
              case c2 => first | rfl | (intro u hu; simp at hu; rcases hu with rfl | rfl | rfl | rfl <;> rfl)
              case c3 => unfold maxLen; omega
              case c4 => omega
              case c5 => first | omega | (simp; omega)
              · intro v' w3 hown' hgrow _
                have R1 : Hid (w3.ownsRow (w.heap.size + 1) 5 1 v' (Sh.dig (m.list.take (k + 1))).length (Lib.byteCells (Sh.dig (m.list.take (k + 1))))) := by
                  show World.ownsRow _ _ _ _ _ _ _
                  rw [hnext.out.1, hnext.out.2, word_bytes x hxl]
                  exact hown'
                have R2 : Hid (Below w.heap.size w w3) := (HB.out.alloc (by omega) _).grown hgrow (by simp; omega) (fun k hk => by have := HBS.out k hk; omega)
                have R3 : w.heap.size + 1 ≤ w3.heap.size := by have := hgrow.size; simp at this; omega
                clear hown' hgrow HO HB HBS
                go_wp2
                go_roundw
                case rel => first | exact ⟨k + 1, by omega, by go_num, R1.out, R2.out, R3⟩ | ((repeat apply Exists.intro); exact ⟨⟨k + 1, by omega, by go_num, R1.out, R2.out, R3⟩, rfl⟩)
                case measure => simp [intOf]; omega
            · have hk8 : k = 8 := by omega
              subst hk8
              rw [show m.list.take 8 = m.list from rfl] at hown
              obtain ⟨g3, n3, cap3, str, hv, hconv, hstr⟩ := own_string hown (by intro h; have := congrArg List.length h; rw [Sh.dig_length, hml] at this; simp at this)
              have HBB : Hid (Below w.heap.size w wr) := hBw
              rw [hstr.out, ← HD.out] at hconv
              rw [hv]
              clear hown hBw hv
              go_wp2
              go_ret2
              exact ⟨rfl, HBB.out⟩
end Go.Proofs.YthheebnmdfggnaaDoor
