/- Several texts, joined: ShSum, ShHex, TpA -/
import Derived.Test.YtlafdlcpelkdpaaGreatDoorJHM
import Derived.Deep.AppendLies
import Derived.Lib.BufferRead
import Derived.Test.YtlafdlcpelkdpaaGreatDoorJAM
/- What sha.Start and sha.Sum answer. -/
namespace Go.Proofs.YtlafdlcpelkdpaaGreatDoor
open Go.RowKit
namespace Sh
/-- the words ahead of all bytes -/
def S0 : S8 := ⟨1779033703, 3144134277, 1013904242, 2773480762, 1359893119, 2600822924, 528734635, 1541459225⟩
theorem S0_ok : S0.ok := ⟨by decide, by decide, by decide, by decide, by decide, by decide, by decide, by decide⟩
/-- what stands behind the whole blocks -/
def restOf (t : List UInt8) : List UInt8 := t.drop (t.length - t.length % 64)
/-- a text's digest -/
def sum (t : List UInt8) : List UInt8 := fin (chgAll S0 t) (restOf t) t.length
theorem fin_length (s : S8) (r : List UInt8) (c : Nat) : (fin s r c).length = 32 := by rw [fin, dig_length]; rfl
end Sh
theorem start17 (s0 : Sh.S8) (h : Hid (s0 = Sh.S0)) (w : World) :
    Calls Tryz.prog 32 #[] w fun e w' => e = .returned (.agg #[.int .u32 s0.a, .int .u32 s0.b, .int .u32 s0.c, .int .u32 s0.d, .int .u32 s0.e, .int .u32 s0.f, .int .u32 s0.g, .int .u32 s0.h, .int .u64 0, .string ⟨#[]⟩]) ∧ Below w.heap.size w w' := by
  have e : (.agg #[.int .u32 s0.a, .int .u32 s0.b, .int .u32 s0.c, .int .u32 s0.d, .int .u32 s0.e, .int .u32 s0.f, .int .u32 s0.g, .int .u32 s0.h, .int .u64 0, .string ⟨#[]⟩] : Value) =
      .agg #[.int .u32 1779033703, .int .u32 3144134277, .int .u32 1013904242, .int .u32 2773480762, .int .u32 1359893119, .int .u32 2600822924, .int .u32 528734635, .int .u32 1541459225, .int .u64 0, .string ⟨#[]⟩] := by
    rw [h.out]
    rfl
  rw [e]
  clear e
  go_enter Tryz.func32, Tryz.ntmps32
  go_wp2
  exact bodyPost_ret (v := .agg #[.int .u32 1779033703, .int .u32 3144134277, .int .u32 1013904242, .int .u32 2773480762, .int .u32 1359893119, .int .u32 2600822924, .int .u32 528734635, .int .u32 1541459225, .int .u64 0, .string ⟨#[]⟩]) (by simp [results, Tryz.results32, go_sem]) rfl ⟨rfl, (Below.refl _ _).alloc (Nat.le_refl _) _⟩
theorem finish19' (m : Sh.S8) (hm : m.ok) (t : ByteArray) (ht : t.size ≤ 1125899906842000) (c : Nat) (C : Int) (hC : C = (c : Int)) (hc : c < 1152921504606846976) (d : ByteArray) (hd : Hid (d = ⟨(Sh.fin m t.data.toList c).toArray⟩)) (w : World) (hK : HasK w) :
    Calls Tryz.prog 30 #[.agg #[.int .u32 m.a, .int .u32 m.b, .int .u32 m.c, .int .u32 m.d, .int .u32 m.e, .int .u32 m.f, .int .u32 m.g, .int .u32 m.h], .string t, .int .u64 C] w fun e w' => e = .returned (.string d) ∧ Below w.heap.size w w' := by
  rw [hC, hd.out]
  exact finish19 m hm t ht c hc w hK
theorem field0 (x0 x1 x2 x3 x4 x5 x6 x7 x8 x9 : Value) (wx : World) : (Instr.field 81 (.agg #[x0, x1, x2, x3, x4, x5, x6, x7, x8, x9]) 0).run Tryz.prog wx = .ok (.agg #[x0, x1, x2, x3, x4, x5, x6, x7]) wx := by kernel_rfl
set_option maxHeartbeats 1000000 in
theorem sum9 (t : ByteArray) (ht : t.size ≤ 1125899906842000) (w : World) (hK : HasK w) :
    Calls Tryz.prog 13 #[.string t] w fun e w' => e = .returned (.string ⟨(Sh.sum t.data.toList).toArray⟩) ∧ Below w.heap.size w w' := by
  obtain ⟨s0, hs0⟩ : ∃ s, s = Sh.S0 := ⟨_, rfl⟩
  obtain ⟨m, hm⟩ : ∃ m, m = Sh.chgAll s0 t.data.toList := ⟨_, rfl⟩
  have hmo : m.ok := by rw [hm, hs0]; exact Sh.chg_ok Sh.S0_ok _ _
  have hso : s0.ok := by rw [hs0]; exact Sh.S0_ok
  obtain ⟨r, hr⟩ : ∃ r, r = t.extract (t.size - t.size % 64) t.size := ⟨_, rfl⟩
  have hrl : r.data.toList = Sh.restOf t.data.toList := by
    rw [hr, Lib.extract_data, Sh.restOf, ← Lib.size_eq]
    exact List.take_of_length_le (by rw [List.length_drop, ← Lib.size_eq]; exact Nat.le_refl _)
  have hrs : r.size ≤ 1125899906842000 := by
    rw [Lib.size_eq, hrl, Sh.restOf, List.length_drop, ← Lib.size_eq]; omega
  obtain ⟨d, hd⟩ : ∃ d : ByteArray, d = ⟨(Sh.fin m r.data.toList t.size).toArray⟩ := ⟨_, rfl⟩
  have HE : Hid (d = ⟨(Sh.sum t.data.toList).toArray⟩) := by
    show _ = _
    rw [hd, hrl, hm, hs0, Lib.size_eq]
    rfl
  have HS : Hid (s0 = Sh.S0) := hs0
  have HM : Hid (m = Sh.chgAll s0 t.data.toList) := hm
  have HD : Hid (d = ⟨(Sh.fin m r.data.toList t.size).toArray⟩) := hd
  have HR : Hid (r = t.extract (t.size - t.size % 64) t.size) := hr
  have HK : Hid (HasK w) := hK
  have HMO : Hid m.ok := hmo
  have HSO : Hid s0.ok := hso
  have hB : 0 < w.heap.size := hK.1
  clear hs0 hm hr hrl hd hK hmo hso
  have hf := fun wx => field0 (.int .u32 s0.a) (.int .u32 s0.b) (.int .u32 s0.c) (.int .u32 s0.d) (.int .u32 s0.e) (.int .u32 s0.f) (.int .u32 s0.g) (.int .u32 s0.h) (.int .u64 0) (.string ⟨#[]⟩) wx
  go_enter Tryz.func13, Tryz.ntmps13
  go_wp2_with fail
  refine (start17 s0 HS _).mono ?_
  rintro e w1 ⟨rfl, hb1⟩
  have K1 : Hid (HasK w1) := HK.out.below hB hb1
  have B1 : Hid (Below w.heap.size w w1) := hb1
  clear hb1
  go_wp2_with fail
  refine (change20' s0 m HSO.out t (by omega) HM _ K1.out).mono ?_
  rintro e w2 ⟨rfl, hb2⟩
  have K2 : Hid (HasK w2) := K1.out.below K1.out.1 hb2
  have B2 : Hid (Below w.heap.size w w2) := B1.out.trans (hb2.mono B1.out.size)
  clear hb2
  go_wp2_with fail
  rw [← HR.out]
  refine (finish19' m HMO.out r hrs t.size _ rfl (by omega) d HD _ K2.out).mono ?_
  rintro e w3 ⟨rfl, hb3⟩
  have B3 : Hid (Below w.heap.size w w3) := B2.out.trans (hb3.mono B2.out.size)
  clear hb3
  go_wp2
  go_ret
  exact ⟨ret_str HE.out, B3.out⟩
namespace Sh
/-- a state is right -/
def rightB (c n : Nat) : Bool := decide (c < 1152921504606846976) && (n == c % 64)
end Sh
end Go.Proofs.YtlafdlcpelkdpaaGreatDoor
/- What sha.Hex makes of a text: two digits for each byte. -/
namespace Go.Proofs.YtlafdlcpelkdpaaGreatDoor
open Go.RowKit
attribute [local go_sem ↓] Go.wp_at_zero Go.wp_at_succ
namespace Sh
def digits : List UInt8 := [48, 49, 50, 51, 52, 53, 54, 55, 56, 57, 97, 98, 99, 100, 101, 102]
def digit (n : Nat) : UInt8 := digits.getD n 0
/-- a text's digits -/
def hexOf (l : List UInt8) : List UInt8 := l.flatMap fun b => [digit (b.toNat / 16), digit (b.toNat % 16)]
theorem hexOf_length (l : List UInt8) : (hexOf l).length = 2 * l.length := by
  induction l with
  | nil => rfl
  | cons x r ih => simp only [hexOf, List.flatMap_cons, List.length_append, List.length_cons, List.length_nil] at *; omega
theorem hexOf_append (a b : List UInt8) : hexOf (a ++ b) = hexOf a ++ hexOf b := by simp [hexOf]
end Sh
theorem index_byte_u8 (b : ByteArray) (i : Int) (h0 : 0 ≤ i) (h1 : i < b.size) (wx : World) :
    (Instr.index 9 (.string b) (.int .u8 i)).run Tryz.prog wx = .ok (.int .u8 (((b.data.toList.getD i.toNat 0).toNat : Nat) : Int)) wx := by
  rw [run_index_string (P := Tryz.prog) wx 9 b .u8 i Tryz.underlying9, dif_pos ⟨h0, h1⟩]
  have h2 : i.toNat < b.size := by omega
  have h3 : i.toNat < b.data.toList.length := by rw [← Lib.size_eq]; exact h2
  have e : b[i.toNat] = b.data.toList.getD i.toNat 0 := by
    rw [List.getD_eq_getElem?_getD, List.getElem?_eq_getElem h3]
    rfl
  rw [e]
theorem index_digit (n : Nat) (hn : n < 16) (wx : World) :
    (Instr.index 9 (.string ⟨#[48, 49, 50, 51, 52, 53, 54, 55, 56, 57, 97, 98, 99, 100, 101, 102]⟩) (.int .u8 (n : Int))).run Tryz.prog wx = .ok (.int .u8 (((Sh.digit n).toNat : Nat) : Int)) wx := by
  rw [index_byte_u8 _ _ (by omega) (by show (n : Int) < (16 : Int); omega)]
  rfl
theorem and15 (b : Nat) (hb : b < 256) : bits .and .u8 (b : Int) 15 = ((b % 16 : Nat) : Int) := by
  rw [show (15 : Int) = ((15 : Nat) : Int) from rfl, u8_and_nat _ _ hb (by decide), nat_mask4]
theorem two_new (w : World) (u v : Value) (t : TypeId) (j : Nat) (x : Value) (hj : [u, v][j]? = some x) : (w.alloc (.cells #[u, v] t)).cell? ((⟨w.heap.size, 0, none⟩ : Addr).add j) = some x := by
  match j, hj with
  | 0, hj => simp at hj; subst hj; simp [Addr.add]
  | 1, hj => simp at hj; subst hj; simp [Addr.add]
/-- a row of bytes that is owned, as a text, an empty one too -/
theorem own_string_any {w : World} {base : Nat} {v : Value} {l : List UInt8} (h : w.ownsRow base 5 1 v l.length (Lib.byteCells l)) :
    ∃ a n cap str, v = .slice a n cap ∧ (Go.convert 74 9 (.slice a n cap)).run Tryz.prog w = .ok (.string str) w ∧ Hid (str = ⟨l.toArray⟩) := by
  by_cases hl : l = []
  · subst hl
    rcases h.2 with ⟨rfl, _⟩ | ⟨g, cap, cur, rfl, _⟩
    · exact ⟨none, 0, 0, _, rfl, Lib.run_convert_nil_bytes w 74 9 5 0 Tryz.underlying74 Tryz.underlying5 Tryz.underlying9, rfl⟩
    · exact ⟨_, _, cap, _, rfl, run_convert_bytes_back w 74 9 5 ⟨g, 0, none⟩ cap [] Tryz.underlying74 Tryz.underlying5 Tryz.underlying9 (fun j hj => absurd hj (Nat.not_lt_zero j)), rfl⟩
  · obtain ⟨g, n, cap, str, hv, hc, hs⟩ := own_string h hl
    exact ⟨_, n, cap, str, hv, hc, hs⟩
set_option maxHeartbeats 2000000 in
set_option maxRecDepth 10000 in
theorem hex11 (s : ByteArray) (hs : s.size ≤ 2147483648) (w : World) :
    Calls Tryz.prog 12 #[.string s] w fun e w' => e = .returned (.string ⟨(Sh.hexOf s.data.toList).toArray⟩) ∧ Below w.heap.size w w' := by
  obtain ⟨i0, hi, hz0, hz1, hz2⟩ := info_parts info5
  obtain ⟨M, hM⟩ : ∃ M, M = madeCells (Value.int .u8 0).cells (2 * s.size * i0.size) := ⟨_, rfl⟩
  have hmk : ∀ u : World, (Instr.makeSlice 74 (.int .i64 0) (.int .i64 (2 * (s.size : Int)))).run Tryz.prog u = .ok (.slice (some ⟨u.heap.size, 0, none⟩) 0 (2 * s.size)) (u.alloc (.cells M 5)) := fun u => by
    have h := run_make (P := Tryz.prog) u 74 5 i0 (.int .u8 0) Tryz.underlying74 hi hz0 .i64 .i64 0 (2 * (s.size : Int)) (by omega) (by omega) (by rw [hz2]; omega) (by omega)
    rw [show (2 * (s.size : Int)).toNat = 2 * s.size by omega, ← hM] at h
    exact h
  have hMs : M.size = 2 * s.size := by rw [hM, size_madeCells, hz1]; omega
  have HO : Hid ((w.alloc (.cells M 5)).ownsRow w.heap.size 5 1 (.slice (some ⟨w.heap.size, 0, none⟩) 0 (2 * s.size)) 0 []) := made_own w M _ hMs (by omega)
  clear hM hMs
  go_enter Tryz.func12, Tryz.ntmps12
  go_wp2
  go_loopw [3, 11] (fun v i wr => ∃ k : Nat, k ≤ s.size ∧ i = .int .i64 k ∧ wr.ownsRow w.heap.size 5 1 v (Sh.hexOf (s.data.toList.take k)).length (Lib.byteCells (Sh.hexOf (s.data.toList.take k))) ∧ Below w.heap.size w wr ∧ w.heap.size + 1 ≤ wr.heap.size) (fun _ i _ => s.size - (intOf i).toNat)
  case atStart => exact ⟨0, by omega, rfl, HO.out, (Below.refl _ _).alloc (Nat.le_refl _) _, by simp⟩
  case round =>
    obtain ⟨k, hk, rfl, hown, hnx, hsz⟩ := hrel
    clear HO hmk
    by_cases hlt : k < s.size
    · obtain ⟨b, hb⟩ : ∃ b, b = s.data.toList.getD k 0 := ⟨_, rfl⟩
      have hbl : b.toNat < 256 := UInt8.toNat_lt _
      have hix : ∀ wx, (Instr.index 9 (.string s) (.int .i64 (k : Int))).run Tryz.prog wx = .ok (.int .u8 (b.toNat : Int)) wx := fun wx => by rw [hb]; exact index_byte s k (by omega) (by omega) wx
      obtain ⟨q, hq⟩ : ∃ q : Nat, q = b.toNat / 16 := ⟨_, rfl⟩
      obtain ⟨r, hr⟩ : ∃ r : Nat, r = b.toNat % 16 := ⟨_, rfl⟩
      have hsh : (b.toNat : Int) / 16 = (q : Int) := by omega
      have han : bits .and .u8 (b.toNat : Int) 15 = (r : Int) := by rw [and15 _ hbl, hr]
      have d1 : ∀ wx, (Instr.index 9 (.string ⟨#[48, 49, 50, 51, 52, 53, 54, 55, 56, 57, 97, 98, 99, 100, 101, 102]⟩) (.int .u8 (q : Int))).run Tryz.prog wx = .ok (.int .u8 (((Sh.digit q).toNat : Nat) : Int)) wx := index_digit q (by omega)
      have d2 : ∀ wx, (Instr.index 9 (.string ⟨#[48, 49, 50, 51, 52, 53, 54, 55, 56, 57, 97, 98, 99, 100, 101, 102]⟩) (.int .u8 (r : Int))).run Tryz.prog wx = .ok (.int .u8 (((Sh.digit r).toNat : Nat) : Int)) wx := index_digit r (by omega)
      obtain ⟨x1, hx1⟩ : ∃ x : Nat, x = (Sh.digit q).toNat := ⟨_, rfl⟩
      obtain ⟨x2, hx2⟩ : ∃ x : Nat, x = (Sh.digit r).toNat := ⟨_, rfl⟩
      rw [← hx1] at d1
      rw [← hx2] at d2
      have hlen : (Sh.hexOf (s.data.toList.take k)).length = 2 * k := by rw [Sh.hexOf_length, List.length_take, ← Lib.size_eq]; omega
      have hnext : Hid (Lib.byteCells (Sh.hexOf (s.data.toList.take (k + 1))) = Lib.byteCells (Sh.hexOf (s.data.toList.take k)) ++ [.int .u8 (x1 : Int), .int .u8 (x2 : Int)] ∧ (Sh.hexOf (s.data.toList.take (k + 1))).length = (Sh.hexOf (s.data.toList.take k)).length + 2) := by
        show _ ∧ _
        have hkl : k < s.data.toList.length := by rw [← Lib.size_eq]; exact hlt
        have e : s.data.toList[k] = b := by rw [hb, List.getD_eq_getElem?_getD, List.getElem?_eq_getElem hkl]; rfl
        rw [List.take_succ_eq_append_getElem hkl, Sh.hexOf_append, e, hx1, hx2, hq, hr]
        exact ⟨by simp [Lib.byteCells, Sh.hexOf], by simp [Sh.hexOf]⟩
      have hbs := own_block_le hown
      have HBS : Hid (∀ k, _ → _) := hbs
      have HOW : Hid (wr.ownsRow _ _ _ _ _ _) := hown
      have hb63 : Hid ((Sh.hexOf (s.data.toList.take k)).length + 2 ≤ maxLen) := by show _ ≤ _; unfold maxLen; omega
      have hb47 : Hid (((Sh.hexOf (s.data.toList.take k)).length + 2) * 1 ≤ 140737488355328) := by show _ ≤ _; omega
      clear hown hbs hb hq hr hx1 hx2 hlen
      have k0 : (0 : Int) ≤ (k : Int) := by omega
      have k1 : (k : Int) < (s.size : Int) := by omega
      go_wp2
      go_region_held3 (fun _ => True) (trivial) ((refine step_append_lies _ (by rfl) _ _ _ (by rfl) w.heap.size 5 i0 _ 1 1 Tryz.underlying74 hi hz0 hz1 hz2 rfl (by omega) _ _ _ (by rfl) ((HOW.out.alloc _).drew) ⟨wr.heap.size, 0, none⟩ 2 2 [.int .u8 (x1 : Int), .int .u8 (x2 : Int)] (by rfl) (by rfl) (two_new _ _ _ _) (by simp [Value.oneCell']) (by omega) hb63.out hb47.out (by simp; omega) (wr.heap.size + 1) (by simp) ?_; intro gg cap w1 hown1 hgrow hat hglt))
      all_goals
        have R1 : Hid (w1.ownsRow w.heap.size 5 1 (.slice (some ⟨gg, 0, none⟩) ((Sh.hexOf (s.data.toList.take k)).length + 2) cap) (Sh.hexOf (s.data.toList.take (k + 1))).length (Lib.byteCells (Sh.hexOf (s.data.toList.take (k + 1))))) := by
          rw [hnext.out.1, hnext.out.2]
          exact hown1
        have R2 : Hid (Below w.heap.size w w1) := (hnx.alloc (by omega) _).drew.grown hgrow (by simp; omega) HBS.out
        have R3 : w.heap.size + 1 ≤ w1.heap.size := by
          have := hgrow.size
          simp at this
          omega
        clear hown1 hgrow hat hglt hnx hsz
        go_wp2
        go_roundw
        case rel => first | exact ⟨k + 1, by omega, by go_num, R1.out, R2.out, R3⟩ | ((repeat apply Exists.intro); exact ⟨⟨k + 1, by omega, by go_num, R1.out, R2.out, R3⟩, rfl⟩)
        case measure => simp [intOf]; omega
    · have hk8 : k = s.size := by omega
      subst hk8
      have hall : s.data.toList.take s.size = s.data.toList := List.take_of_length_le (by rw [← Lib.size_eq]; exact Nat.le_refl _)
      rw [hall] at hown
      obtain ⟨a, n, cap, str, hv, hconv, hstr⟩ := own_string_any hown
      rw [hv]
      clear hown hv hall
      go_wp2
      go_ret
      exact ⟨ret_str hstr.out, hnx⟩
end Go.Proofs.YtlafdlcpelkdpaaGreatDoor
/- What the theorems of the whole begin with. -/
namespace Go.Proofs.YtlafdlcpelkdpaaGreatDoor
open Go.RowKit
open Vl (V)
attribute [local go_sem ↓] Go.wp_at_zero Go.wp_at_succ
theorem none_hex : Sh.hexOf (Sh.sum []) = [101, 51, 98, 48, 99, 52, 52, 50, 57, 56, 102, 99, 49, 99, 49, 52, 57, 97, 102, 98, 102, 52, 99, 56, 57, 57, 54, 102, 98, 57, 50, 52, 50, 55, 97, 101, 52, 49, 101, 52, 54, 52, 57, 98, 57, 51, 52, 99, 97, 52, 57, 53, 57, 57, 49, 98, 55, 56, 53, 50, 98, 56, 53, 53] := by decide +kernel
theorem rep_nul (W : World) (H : Nat) : Rep W H ⟨0, false, 0, ⟨#[]⟩, [], []⟩ (.agg #[.int .u8 0, .bool false, .int .i64 0, .string ⟨#[]⟩, .slice none 0 0, .slice none 0 0]) := by
  rw [Rep]
  exact ⟨none, 0, none, 0, rfl, by omega, by omega, by decide, by simp, by simp, fun h => by simp at h, fun h => by simp at h⟩
set_option maxHeartbeats 1000000 in
theorem begins_c (w : World) (hK : HasK w) : Calls Tryz.prog 4 #[] w fun e w' => e = .returned (.bool true) ∧ Below w.heap.size w w' := by
  obtain ⟨d, hd⟩ : ∃ d : ByteArray, d = ⟨(Sh.sum []).toArray⟩ := ⟨_, rfl⟩
  obtain ⟨x, hx⟩ : ∃ x : ByteArray, x = ⟨(Sh.hexOf d.data.toList).toArray⟩ := ⟨_, rfl⟩
  have hdl : d.size ≤ 2147483648 := by rw [hd, Lib.size_eq]; show (Sh.sum []).length ≤ 2147483648; rw [Sh.sum, Sh.fin_length]; omega
  have c1 : ∀ W, HasK W → Calls Tryz.prog 13 #[.string ⟨#[]⟩] W fun e w' => e = .returned (.string d) ∧ Below W.heap.size W w' := fun W hW => by
    rw [hd]; exact sum9 ⟨#[]⟩ (by decide) W hW
  have c2 : ∀ W, Calls Tryz.prog 12 #[.string d] W fun e w' => e = .returned (.string x) ∧ Below W.heap.size W w' := fun W => by
    rw [hx]; exact hex11 d hdl W
  have c3 : ∀ W, Calls Tryz.prog 14 #[.agg #[.int .u8 0, .bool false, .int .i64 0, .string ⟨#[]⟩, .slice none 0 0, .slice none 0 0]] W fun e w' => e = .returned (.int .i64 1) ∧ Below W.heap.size W w' := fun W => by
    have := count13 1 ⟨0, false, 0, ⟨#[]⟩, [], []⟩ (by simp [Vl.count, Vl.countL, Vl.countF]) W W.heap.size _ (Nat.le_refl _) (rep_nul W _)
    simpa [Vl.count, Vl.countL, Vl.countF, wrap64] using this
  have hxe : (x.toList == [101, 51, 98, 48, 99, 52, 52, 50, 57, 56, 102, 99, 49, 99, 49, 52, 57, 97, 102, 98, 102, 52, 99, 56, 57, 57, 54, 102, 98, 57, 50, 52, 50, 55, 97, 101, 52, 49, 101, 52, 54, 52, 57, 98, 57, 51, 52, 99, 97, 52, 57, 53, 57, 57, 49, 98, 55, 56, 53, 50, 98, 56, 53, 53]) = true := by
    rw [Lib.toList_data, hx]
    have e : Sh.hexOf d.data.toList = Sh.hexOf (Sh.sum []) := by rw [hd]
    show (Sh.hexOf d.data.toList == _) = true
    rw [e, none_hex]
    rfl
  have C1 : Hid (∀ W, _) := c1
  have C2 : Hid (∀ W, _) := c2
  have C3 : Hid (∀ W, _) := c3
  have HK : Hid (HasK w) := hK
  clear c1 c2 c3 hx hd hK hdl
  go_enter Tryz.func4, Tryz.ntmps4
  go_wp2_with fail
  refine (C1.out _ HK.out).mono ?_
  rintro e w1 ⟨rfl, hb1⟩
  have B1 : Hid (Below w.heap.size w w1) := hb1
  clear hb1
  go_wp2_with fail
  refine (C2.out _).mono ?_
  rintro e w2 ⟨rfl, hb2⟩
  have B2 : Hid (Below w.heap.size w w2) := B1.out.trans (hb2.mono B1.out.size)
  clear hb2
  go_wp2_with fail
  refine (C3.out _).mono ?_
  rintro e w3 ⟨rfl, hb3⟩
  have B3 : Hid (Below w.heap.size w w3) := B2.out.trans (hb3.mono B2.out.size)
  clear hb3
  go_wp2
  go_ret
  exact ⟨rfl, B3.out⟩
end Go.Proofs.YtlafdlcpelkdpaaGreatDoor
