/- What sha.Start and sha.Sum answer. -/
import Derived.Test.YtoldfepeldbcpaaDoorShFinish
namespace Go.Proofs.YtoldfepeldbcpaaDoor
open Go.RowKit
namespace Sh
/-- the words ahead of all bytes -/
def S0 : S8 := ⟨1779033703, 3144134277, 1013904242, 2773480762, 1359893119, 2600822924, 528734635, 1541459225⟩
theorem S0_ok : S0.ok := ⟨by decide, by decide, by decide, by decide, by decide, by decide, by decide, by decide⟩
/-- what stands behind the whole blocks -/
def restOf (t : List UInt8) : List UInt8 := t.drop (t.length - t.length % 64)
/-- a text's digest -/
def sum (t : List UInt8) : List UInt8 := fin (chgAll S0 t) (restOf t) t.length
theorem fin_length (s : S8) (r : List UInt8) (c : Nat) : (fin s r c).length = 32 := by rw [fin, dig_length]; rfl
end Sh
theorem start17 (s0 : Sh.S8) (h : Hid (s0 = Sh.S0)) (w : World) :
    Calls Tryd.prog 29 #[] w fun e w' => e = .returned (.agg #[.int .u32 s0.a, .int .u32 s0.b, .int .u32 s0.c, .int .u32 s0.d, .int .u32 s0.e, .int .u32 s0.f, .int .u32 s0.g, .int .u32 s0.h, .int .u64 0, .string ⟨#[]⟩]) ∧ Below w.heap.size w w' := by
  have e : (.agg #[.int .u32 s0.a, .int .u32 s0.b, .int .u32 s0.c, .int .u32 s0.d, .int .u32 s0.e, .int .u32 s0.f, .int .u32 s0.g, .int .u32 s0.h, .int .u64 0, .string ⟨#[]⟩] : Value) =
      .agg #[.int .u32 1779033703, .int .u32 3144134277, .int .u32 1013904242, .int .u32 2773480762, .int .u32 1359893119, .int .u32 2600822924, .int .u32 528734635, .int .u32 1541459225, .int .u64 0, .string ⟨#[]⟩] := by
    rw [h.out]
    rfl
  rw [e]
  clear e
  go_enter Tryd.func29, Tryd.ntmps29
  go_wp2
  exact bodyPost_ret (v := .agg #[.int .u32 1779033703, .int .u32 3144134277, .int .u32 1013904242, .int .u32 2773480762, .int .u32 1359893119, .int .u32 2600822924, .int .u32 528734635, .int .u32 1541459225, .int .u64 0, .string ⟨#[]⟩]) (by simp [results, Tryd.results29, go_sem]) rfl ⟨rfl, (Below.refl _ _).alloc (Nat.le_refl _) _⟩
theorem finish19' (m : Sh.S8) (hm : m.ok) (t : ByteArray) (ht : t.size ≤ 1125899906842000) (c : Nat) (C : Int) (hC : C = (c : Int)) (hc : c < 1152921504606846976) (d : ByteArray) (hd : Hid (d = ⟨(Sh.fin m t.data.toList c).toArray⟩)) (w : World) (hK : HasK w) :
    Calls Tryd.prog 27 #[.agg #[.int .u32 m.a, .int .u32 m.b, .int .u32 m.c, .int .u32 m.d, .int .u32 m.e, .int .u32 m.f, .int .u32 m.g, .int .u32 m.h], .string t, .int .u64 C] w fun e w' => e = .returned (.string d) ∧ Below w.heap.size w w' := by
  rw [hC, hd.out]
  exact finish19 m hm t ht c hc w hK
theorem field0 (x0 x1 x2 x3 x4 x5 x6 x7 x8 x9 : Value) (wx : World) : (Instr.field 74 (.agg #[x0, x1, x2, x3, x4, x5, x6, x7, x8, x9]) 0).run Tryd.prog wx = .ok (.agg #[x0, x1, x2, x3, x4, x5, x6, x7]) wx := by kernel_rfl
set_option maxHeartbeats 1000000 in
theorem sum9 (t : ByteArray) (ht : t.size ≤ 1125899906842000) (w : World) (hK : HasK w) :
    Calls Tryd.prog 10 #[.string t] w fun e w' => e = .returned (.string ⟨(Sh.sum t.data.toList).toArray⟩) ∧ Below w.heap.size w w' := by
  obtain ⟨s0, hs0⟩ : ∃ s, s = Sh.S0 := ⟨_, rfl⟩
  obtain ⟨m, hm⟩ : ∃ m, m = Sh.chgAll s0 t.data.toList := ⟨_, rfl⟩
  have hmo : m.ok := by rw [hm, hs0]; exact Sh.chg_ok Sh.S0_ok _ _
  have hso : s0.ok := by rw [hs0]; exact Sh.S0_ok
  obtain ⟨r, hr⟩ : ∃ r, r = t.extract (t.size - t.size % 64) t.size := ⟨_, rfl⟩
  have hrl : r.data.toList = Sh.restOf t.data.toList := by
    rw [hr, Lib.extract_data, Sh.restOf, ← Lib.size_eq]
    exact List.take_of_length_le (by rw [List.length_drop, ← Lib.size_eq]; exact Nat.le_refl _)
  have hrs : r.size ≤ 1125899906842000 := by
    rw [Lib.size_eq, hrl, Sh.restOf, List.length_drop, ← Lib.size_eq]; omega
  obtain ⟨d, hd⟩ : ∃ d : ByteArray, d = ⟨(Sh.fin m r.data.toList t.size).toArray⟩ := ⟨_, rfl⟩
  have HE : Hid (d = ⟨(Sh.sum t.data.toList).toArray⟩) := by
    show _ = _
    rw [hd, hrl, hm, hs0, Lib.size_eq]
    rfl
  have HS : Hid (s0 = Sh.S0) := hs0
  have HM : Hid (m = Sh.chgAll s0 t.data.toList) := hm
  have HD : Hid (d = ⟨(Sh.fin m r.data.toList t.size).toArray⟩) := hd
  have HR : Hid (r = t.extract (t.size - t.size % 64) t.size) := hr
  have HK : Hid (HasK w) := hK
  have HMO : Hid m.ok := hmo
  have HSO : Hid s0.ok := hso
  have hB : 0 < w.heap.size := hK.1
  clear hs0 hm hr hrl hd hK hmo hso
  have hf := fun wx => field0 (.int .u32 s0.a) (.int .u32 s0.b) (.int .u32 s0.c) (.int .u32 s0.d) (.int .u32 s0.e) (.int .u32 s0.f) (.int .u32 s0.g) (.int .u32 s0.h) (.int .u64 0) (.string ⟨#[]⟩) wx
  go_enter Tryd.func10, Tryd.ntmps10
  go_wp2_with fail
  refine (start17 s0 HS _).mono ?_
  rintro e w1 ⟨rfl, hb1⟩
  have K1 : Hid (HasK w1) := HK.out.below hB hb1
  have B1 : Hid (Below w.heap.size w w1) := hb1
  clear hb1
  go_wp2_with fail
  refine (change20' s0 m HSO.out t (by omega) HM _ K1.out).mono ?_
  rintro e w2 ⟨rfl, hb2⟩
  have K2 : Hid (HasK w2) := K1.out.below K1.out.1 hb2
  have B2 : Hid (Below w.heap.size w w2) := B1.out.trans (hb2.mono B1.out.size)
  clear hb2
  go_wp2_with fail
  rw [← HR.out]
  refine (finish19' m HMO.out r hrs t.size _ rfl (by omega) d HD _ K2.out).mono ?_
  rintro e w3 ⟨rfl, hb3⟩
  have B3 : Hid (Below w.heap.size w w3) := B2.out.trans (hb3.mono B2.out.size)
  clear hb3
  go_wp2
  go_ret
  exact ⟨ret_str HE.out, B3.out⟩
namespace Sh
/-- a state is right -/
def rightB (c n : Nat) : Bool := decide (c < 1152921504606846976) && (n == c % 64)
end Sh
end Go.Proofs.YtoldfepeldbcpaaDoor
