/- The law ShaPieces, walked: it answers true whatever the texts. -/
import Derived.Test.YtojeoiiobpdccaaDoorGrowsAll
import Derived.Test.YtojeoiiobpdccaaDoorTurnsW
namespace Go.Proofs.YtojeoiiobpdccaaDoor
open Go.RowKit
/-- the state's box, wherever it lies -/
def SI (w : World) (B : Nat) (W : World) (s : Sh.S8) (c : Nat) (r : ByteArray) : Prop :=
  W.heap[B]? = some (.cells #[.int .u32 s.a, .int .u32 s.b, .int .u32 s.c, .int .u32 s.d, .int .u32 s.e, .int .u32 s.f, .int .u32 s.g, .int .u32 s.h, .int .u64 c, .string r] 29 (0, 0)) ∧ B + 1 ≤ W.heap.size ∧ w.heap.size ≤ B ∧ Below w.heap.size w W
theorem SI.call {w wr w1 : World} {B : Nat} {s : Sh.S8} {c : Nat} {r : ByteArray} (h : SI w B wr s c r) (hb : Below wr.heap.size wr w1) : SI w B w1 s c r := by
  obtain ⟨h1, h2, h3, h4⟩ := h
  exact ⟨(hb.block _ (by omega)).trans h1, Nat.le_trans h2 hb.size, h3, h4.trans (hb.mono (by omega))⟩
theorem SI.alloc {w W : World} {B : Nat} {s : Sh.S8} {c : Nat} {r : ByteArray} (h : SI w B W s c r) (o : Obj) : SI w B (W.alloc o) s c r :=
  ⟨(Below.heap_alloc _ _ _ (by have := h.2.1; omega)).trans h.1, by simp; have := h.2.1; omega, h.2.2.1, h.2.2.2.alloc (by have := h.2.1; have := h.2.2.1; omega) _⟩
theorem SI.cells {w W : World} {B : Nat} {s : Sh.S8} {c : Nat} {r : ByteArray} (h : SI w B W s c r) :
    W.cell? ⟨B, 0, none⟩ = some (.int .u32 (s.a : Int)) ∧ W.cell? ⟨B, 1, none⟩ = some (.int .u32 (s.b : Int)) ∧ W.cell? ⟨B, 2, none⟩ = some (.int .u32 (s.c : Int)) ∧ W.cell? ⟨B, 3, none⟩ = some (.int .u32 (s.d : Int)) ∧
    W.cell? ⟨B, 4, none⟩ = some (.int .u32 (s.e : Int)) ∧ W.cell? ⟨B, 5, none⟩ = some (.int .u32 (s.f : Int)) ∧ W.cell? ⟨B, 6, none⟩ = some (.int .u32 (s.g : Int)) ∧ W.cell? ⟨B, 7, none⟩ = some (.int .u32 (s.h : Int)) ∧
    W.cell? ⟨B, 8, none⟩ = some (.int .u64 (c : Int)) ∧ W.cell? ⟨B, 9, none⟩ = some (.string r) := by
  obtain ⟨h1, _, _⟩ := h
  refine ⟨?_, ?_, ?_, ?_, ?_, ?_, ?_, ?_, ?_, ?_⟩ <;> (rw [cell_of_row W _ _ _ 29 (0, 0) h1]; rfl)
theorem sets10 (W : World) (B : Nat) (v0 v1 v2 v3 v4 v5 v6 v7 v8 v9 : Value) : ((((((((((W.setCell ⟨B, 0, none⟩ v0).setCell ⟨B, 1, none⟩ v1).setCell ⟨B, 2, none⟩ v2).setCell ⟨B, 3, none⟩ v3).setCell ⟨B, 4, none⟩ v4).setCell ⟨B, 5, none⟩ v5).setCell ⟨B, 6, none⟩ v6).setCell ⟨B, 7, none⟩ v7).setCell ⟨B, 8, none⟩ v8).setCell ⟨B, 9, none⟩ v9) = W.setCells B 0 #[v0, v1, v2, v3, v4, v5, v6, v7, v8, v9].toList := rfl
theorem SI.stored {w W : World} {B : Nat} {s : Sh.S8} {c : Nat} {r : ByteArray} (h : SI w B W s c r) (m : Sh.S8) (n : Nat) (q : ByteArray) :
    SI w B ((((((((((W.setCell ⟨B, 0, none⟩ (.int .u32 (m.a : Int))).setCell ⟨B, 1, none⟩ (.int .u32 (m.b : Int))).setCell ⟨B, 2, none⟩ (.int .u32 (m.c : Int))).setCell ⟨B, 3, none⟩ (.int .u32 (m.d : Int))).setCell ⟨B, 4, none⟩ (.int .u32 (m.e : Int))).setCell ⟨B, 5, none⟩ (.int .u32 (m.f : Int))).setCell ⟨B, 6, none⟩ (.int .u32 (m.g : Int))).setCell ⟨B, 7, none⟩ (.int .u32 (m.h : Int))).setCell ⟨B, 8, none⟩ (.int .u64 (n : Int))).setCell ⟨B, 9, none⟩ (.string q)) m n q := by
  obtain ⟨h0, k2, k3, k4⟩ := h
  rw [sets10]
  exact ⟨row_stored h0 _ rfl, by rw [size_setCells']; exact k2, k3, below_setCells k3 _ _ k4⟩
/-- what is so behind k pieces -/
def PI (ss : List ByteArray) (k : Nat) (al : ByteArray) (s : Sh.S8) (c : Nat) (r : ByteArray) : Prop :=
  al.data.toList = (ss.take k).flatMap (fun x => x.data.toList) ∧ s = Sh.chgAll Sh.S0 al.data.toList ∧ c = al.size ∧ r = ⟨(Sh.restOf al.data.toList).toArray⟩
theorem PI.rest {ss : List ByteArray} {k : Nat} {al : ByteArray} {s : Sh.S8} {c : Nat} {r : ByteArray} (h : PI ss k al s c r) : r.size = c % 64 := by
  rw [h.2.2.2, size_mk, Sh.rest_length, ← Lib.size_eq, h.2.2.1]
theorem PI.next {ss : List ByteArray} {k : Nat} {al : ByteArray} {s : Sh.S8} {c : Nat} {r : ByteArray} (h : PI ss k al s c r) (hk : k < ss.length) (m : Sh.S8) (n : Nat) (q : ByteArray)
    (hm : m = Sh.chgAll s (r.data.toList ++ (ss.getD k ByteArray.empty).data.toList)) (hn : n = c + (ss.getD k ByteArray.empty).size) (hq : q = ⟨(Sh.restOf (r.data.toList ++ (ss.getD k ByteArray.empty).data.toList)).toArray⟩) :
    PI ss (k + 1) (al ++ ss.getD k ByteArray.empty) m n q := by
  obtain ⟨h1, h2, h3, h4⟩ := h
  have e : ss.getD k ByteArray.empty = ss[k] := by rw [List.getD_eq_getElem?_getD, List.getElem?_eq_getElem hk]; rfl
  refine ⟨?_, ?_, ?_, ?_⟩
  · rw [data_app, h1, List.take_succ_eq_append_getElem hk, List.flatMap_append, e]; simp
  · rw [hm, h2, h4, data_app]; exact Sh.chg_grows _ _ _
  · rw [hn, h3, size_app]
  · rw [hq, h4, data_app]
    show (⟨(Sh.restOf (Sh.restOf al.data.toList ++ _)).toArray⟩ : ByteArray) = _
    rw [Sh.rest_grows]
theorem flat_take_le (ss : List ByteArray) (k : Nat) : ((ss.take k).flatMap (fun x => x.data.toList)).length ≤ (ss.flatMap (fun x => x.data.toList)).length := by
  have h : ss.flatMap (fun x => x.data.toList) = (ss.take k).flatMap (fun x => x.data.toList) ++ (ss.drop k).flatMap (fun x => x.data.toList) := by
    rw [← List.flatMap_append, List.take_append_drop]
  rw [h, List.length_append]
  omega
theorem PI.small {ss : List ByteArray} {k : Nat} {al : ByteArray} {s : Sh.S8} {c : Nat} {r : ByteArray} (h : PI ss k al s c r) (hT : (ss.flatMap (fun x => x.data.toList)).length ≤ 1048576) : al.size ≤ 1048576 := by
  rw [Lib.size_eq, h.1]
  exact Nat.le_trans (flat_take_le ss k) hT
theorem piece_small {ss : List ByteArray} (hT : (ss.flatMap (fun x => x.data.toList)).length ≤ 1048576) (k : Nat) : (ss.getD k ByteArray.empty).size ≤ 1048576 := by
  by_cases hk : k < ss.length
  · have h1 := flat_take_le ss (k + 1)
    rw [List.take_succ_eq_append_getElem hk, List.flatMap_append, List.length_append] at h1
    have e : ss.getD k ByteArray.empty = ss[k] := by rw [List.getD_eq_getElem?_getD, List.getElem?_eq_getElem hk]; rfl
    rw [show [ss[k]].flatMap (fun x => x.data.toList) = ss[k].data.toList by simp] at h1
    rw [e, Lib.size_eq]
    omega
  · have e : ss.getD k ByteArray.empty = ByteArray.empty := by rw [List.getD_eq_getElem?_getD, List.getElem?_eq_none (by omega)]; rfl
    rw [e]; decide
set_option maxHeartbeats 4000000 in
theorem pieces5 (ao : Option Addr) (cap b off : Nat) (ss : List ByteArray) (hn63 : ss.length ≤ 1048576) (hT : (ss.flatMap (fun x => x.data.toList)).length ≤ 1048576) (w : World) (hK : HasK w) (hbw : b < w.heap.size)
    (hix : ∀ k : Nat, k < ss.length → ∀ wx, (Instr.indexAt 37 (.slice ao ss.length cap) (.int .i64 (k : Int))).run Tryd.prog wx = .ok (.pointer (some ⟨b, off + k, none⟩)) wx)
    (hcell : ∀ k : Nat, k < ss.length → w.cell? ⟨b, off + k, none⟩ = some (.string (ss.getD k ByteArray.empty))) :
    Calls Tryd.prog 5 #[.slice ao ss.length cap] w fun e w' => e = .returned (.bool true) ∧ Below w.heap.size w w' := by
  obtain ⟨s0, hs0⟩ : ∃ s, s = Sh.S0 := ⟨_, rfl⟩
  have HS0 : Hid (s0 = Sh.S0) := hs0
  have HK : Hid (HasK w) := hK
  have hB : 0 < w.heap.size := hK.1
  have HIX : Hid (∀ k : Nat, k < ss.length → ∀ wx, (Instr.indexAt 37 (.slice ao ss.length cap) (.int .i64 (k : Int))).run Tryd.prog wx = .ok (.pointer (some ⟨b, off + k, none⟩)) wx) := hix
  have HC : Hid (∀ k : Nat, k < ss.length → w.cell? ⟨b, off + k, none⟩ = some (.string (ss.getD k ByteArray.empty))) := hcell
  have HT : Hid ((ss.flatMap (fun x => x.data.toList)).length ≤ 1048576) := hT
  obtain ⟨len, hlen⟩ : ∃ len, len = ss.length := ⟨_, rfl⟩
  rw [← hlen] at hn63 ⊢
  have HL : Hid (len = ss.length) := hlen
  clear hs0 hK hix hcell hT hlen
  go_enter Tryd.func5, Tryd.ntmps5
  go_wp2_with fail
  refine (lives8 _ HK.out).mono ?_
  rintro e w1 ⟨rfl, hb1⟩
  go_wp2_with fail
  refine (start17 s0 HS0 _).mono ?_
  rintro e w2 ⟨rfl, hb2⟩
  have hb12 : Below w.heap.size w w2 := hb1.trans (hb2.mono hb1.size)
  have S2 : Hid (SI w w2.heap.size (w2.alloc (.cells #[.int .u32 s0.a, .int .u32 s0.b, .int .u32 s0.c, .int .u32 s0.d, .int .u32 s0.e, .int .u32 s0.f, .int .u32 s0.g, .int .u32 s0.h, .int .u64 0, .string ⟨#[]⟩] 29)) s0 0 ⟨#[]⟩) :=
    ⟨heap_alloc_new w2 _, by simp, hb12.size, hb12.alloc hb12.size _⟩
  have P0 : Hid (PI ss 0 ⟨#[]⟩ s0 0 ⟨#[]⟩) := ⟨rfl, HS0.out.trans rfl, rfl, rfl⟩
  obtain ⟨B, hBB⟩ : ∃ B, B = w2.heap.size := ⟨_, rfl⟩
  have HBB : Hid (B = w2.heap.size) := hBB
  clear hb1 hb2 hb12 hBB
  go_wp2
  go_loopw [4, 18] (fun v i wr => ∃ (k : Nat) (al : ByteArray) (s : Sh.S8) (c : Nat) (r : ByteArray), k ≤ len ∧ i = .int .i64 k ∧ v = .string al ∧ PI ss k al s c r ∧ SI w w2.heap.size wr s c r) (fun _ i _ => len - (intOf i).toNat)
  case atStart => exact ⟨0, ⟨#[]⟩, s0, 0, ⟨#[]⟩, Nat.zero_le _, rfl, rfl, P0.out, S2.out⟩
  case round =>
    obtain ⟨k, al, s, c, r, hk, rfl, rfl, hP, hS⟩ := hrel
    clear S2 P0
    have hso : s.ok := by rw [hP.2.1]; exact Sh.chg_ok Sh.S0_ok _ _
    have hsm := hP.small HT.out
    have hc : c ≤ 1048576 := by rw [hP.2.2.1]; exact hsm
    have hr64 := hP.rest
    have hright : Sh.rightB c r.size = true := right_mk (by omega) hr64
    by_cases hlt : k < len
    · have hlt' : k < ss.length := by rw [← HL.out]; exact hlt
      obtain ⟨p, hp⟩ : ∃ p, p = ss.getD k ByteArray.empty := ⟨_, rfl⟩
      have hps : p.size ≤ 1048576 := by rw [hp]; exact piece_small HT.out k
      have hix : ∀ wx, (Instr.indexAt 37 (.slice ao len cap) (.int .i64 (k : Int))).run Tryd.prog wx = .ok (.pointer (some ⟨b, off + k, none⟩)) wx := by rw [HL.out]; exact HIX.out k hlt'
      have hcell : wr.cell? ⟨b, off + k, none⟩ = some (.string p) := by
        rw [hp, hS.2.2.2.cell (p := ⟨b, off + k, none⟩) hbw]; exact HC.out k hlt'
      obtain ⟨m, hm⟩ : ∃ m, m = Sh.chgAll s (r.data.toList ++ p.data.toList) := ⟨_, rfl⟩
      obtain ⟨n, hn⟩ : ∃ n, n = c + p.size := ⟨_, rfl⟩
      obtain ⟨q, hq⟩ : ∃ q : ByteArray, q = ⟨(Sh.restOf (r.data.toList ++ p.data.toList)).toArray⟩ := ⟨_, rfl⟩
      obtain ⟨al', hal'⟩ : ∃ al', al' = al ++ p := ⟨_, rfl⟩
      have hadd : ∀ W, (Op.stringOp .add al p).run Tryd.prog W = .ok (.string al') W := fun W => by rw [hal']; exact run_string_add_sum W al p (by omega)
      have P1 : Hid (PI ss (k + 1) al' m n q) := by
        show PI _ _ _ _ _ _
        rw [hal', hp]; exact hP.next hlt' m n q (by rw [hm, hp]) (by rw [hn, hp]) (by rw [hq, hp])
      have C13 : Hid (∀ W, HasK W → Calls Tryd.prog 13 #[.agg #[.int .u32 s.a, .int .u32 s.b, .int .u32 s.c, .int .u32 s.d, .int .u32 s.e, .int .u32 s.f, .int .u32 s.g, .int .u32 s.h, .int .u64 c, .string r], .string p] W fun e w' => e = .returned (.tuple #[.agg #[.int .u32 m.a, .int .u32 m.b, .int .u32 m.c, .int .u32 m.d, .int .u32 m.e, .int .u32 m.f, .int .u32 m.g, .int .u32 m.h, .int .u64 n, .string q], .int .i64 0]) ∧ Below W.heap.size W w') := fun W hW =>
        add13_yes s m hso c n r p q (by omega) (by omega) (by omega) hright hn (by omega) hm hq W hW
      have hcn : (c : Int) + (p.size : Int) = (n : Int) := by omega
      have hn' : n ≤ 2097152 := by omega
      obtain ⟨d0, d1, d2, d3, d4, d5, d6, d7, d8, d9⟩ := hS.cells
      have HS : Hid (SI w w2.heap.size wr s c r) := hS
      clear hS hP hso hright hr64 hm hn hq hal' hp hlt' hsm
      go_wp2_with fail
      refine (C13.out _ (HK.out.below hB HS.out.2.2.2)).mono ?_
      rintro e w3 ⟨rfl, hb3⟩
      have S3 : Hid (SI w w2.heap.size w3 s c r) := HS.out.call hb3
      have lt3 : w2.heap.size < w3.heap.size := by have := S3.out.2.1; omega
      have fz : ∀ j, w3.frozen? ⟨w2.heap.size, j, none⟩ = false := row_free S3.out.1
      clear hb3 HS d0 d1 d2 d3 d4 d5 d6 d7 d8 d9 hcell hix
      obtain ⟨d0, d1, d2, d3, d4, d5, d6, d7, d8, d9⟩ := S3.out.cells
      go_wp2
      go_roundw
      case rel => exact ⟨k + 1, al', m, n, q, by omega, by go_num, rfl, P1.out, (S3.out.stored m n q).alloc _⟩
      case measure => simp [intOf]; omega
    · obtain ⟨d, hd⟩ : ∃ d : ByteArray, d = ⟨(Sh.fin s r.data.toList c).toArray⟩ := ⟨_, rfl⟩
      have hdl : d.size = 32 := by rw [Lib.size_eq, hd]; exact Sh.fin_length _ _ _
      have hds : (d.size : Int) = 32 := by omega
      have hd' : d = ⟨(Sh.sum al.data.toList).toArray⟩ := by
        rw [hd, hP.2.1, hP.2.2.1, hP.2.2.2, Lib.size_eq]
        rfl
      obtain ⟨xd, hxd⟩ : ∃ x : ByteArray, x = ⟨(Sh.hexOf d.data.toList).toArray⟩ := ⟨_, rfl⟩
      have hxs : (xd.size : Int) = 64 := by
        have : xd.size = 2 * d.size := by rw [Lib.size_eq, hxd, Lib.size_eq]; exact Sh.hexOf_length _
        omega
      have C15 : Hid (∀ W, HasK W → Calls Tryd.prog 15 #[.agg #[.int .u32 s.a, .int .u32 s.b, .int .u32 s.c, .int .u32 s.d, .int .u32 s.e, .int .u32 s.f, .int .u32 s.g, .int .u32 s.h, .int .u64 c, .string r]] W fun e w' => e = .returned (.tuple #[.string d, .int .i64 0]) ∧ Below W.heap.size W w') := fun W hW => by
        rw [hd]; exact end15_yes s hso c r (by omega) (by omega) hright W hW
      have C9 : Hid (∀ W, HasK W → Calls Tryd.prog 9 #[.string al] W fun e w' => e = .returned (.string d) ∧ Below W.heap.size W w') := fun W hW => by
        rw [hd']; exact sum9 al (by omega) W hW
      have HXD : Hid (xd = ⟨(Sh.hexOf d.data.toList).toArray⟩) := hxd
      obtain ⟨d0, d1, d2, d3, d4, d5, d6, d7, d8, d9⟩ := hS.cells
      have HS : Hid (SI w w2.heap.size wr s c r) := hS
      clear hS hP hso hright hr64 hd hd' hxd hsm
      go_wp2_with fail
      refine (C15.out _ (HK.out.below hB HS.out.2.2.2)).mono ?_
      rintro e w3 ⟨rfl, hb3⟩
      have S3 : Hid (SI w w2.heap.size w3 s c r) := HS.out.call hb3
      clear hb3 HS d0 d1 d2 d3 d4 d5 d6 d7 d8 d9
      obtain ⟨d0, d1, d2, d3, d4, d5, d6, d7, d8, d9⟩ := S3.out.cells
      go_wp2_with fail
      refine (C15.out _ (HK.out.below hB S3.out.2.2.2)).mono ?_
      rintro e w4 ⟨rfl, hb4⟩
      have S4 : Hid (SI w w2.heap.size w4 s c r) := S3.out.call hb4
      clear hb4 S3 d0 d1 d2 d3 d4 d5 d6 d7 d8 d9
      go_wp2_with fail
      refine (C9.out _ (HK.out.below hB S4.out.2.2.2)).mono ?_
      rintro e w5 ⟨rfl, hb5⟩
      have S5 : Hid (SI w w2.heap.size w5 s c r) := S4.out.call hb5
      clear hb5 S4
      go_wp2_with fail
      refine (hex_any d xd (by omega) HXD _).mono ?_
      rintro e w6 ⟨rfl, hb6⟩
      have S6 : Hid (SI w w2.heap.size w6 s c r) := S5.out.call hb6
      clear hb6 S5
      go_wp2
      go_ret
      exact ⟨rfl, S6.out.2.2.2⟩
end Go.Proofs.YtojeoiiobpdccaaDoor
