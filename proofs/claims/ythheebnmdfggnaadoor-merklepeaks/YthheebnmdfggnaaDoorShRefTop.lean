/- What the reference's Sum answers. -/
import Derived.Test.YthheebnmdfggnaaDoorShEnd
namespace Go.Proofs.YthheebnmdfggnaaDoor
open Go.RowKit
attribute [local go_sem ↓] Go.wp_at_zero Go.wp_at_succ
theorem all21' (s m : Sh.S8) (hs : s.ok) (c n : Nat) (C : Int) (hC : C = (c : Int)) (r t q : ByteArray) (hc : c ≤ 1152921504606846976) (hr : r.size ≤ 64) (ht : t.size ≤ 1125899906840000) (hn : Hid (n = c + t.size))
    (hm : Hid (m = Sh.chgAll s (r.data.toList ++ t.data.toList))) (hq : Hid (q = ⟨(Sh.restOf (r.data.toList ++ t.data.toList)).toArray⟩)) (w : World) :
    Calls Tryd.prog 52 #[.agg #[.int .u32 s.a, .int .u32 s.b, .int .u32 s.c, .int .u32 s.d, .int .u32 s.e, .int .u32 s.f, .int .u32 s.g, .int .u32 s.h, .int .u64 C, .string r], .string t] w fun e w' => e = .returned (.agg #[.int .u32 m.a, .int .u32 m.b, .int .u32 m.c, .int .u32 m.d, .int .u32 m.e, .int .u32 m.f, .int .u32 m.g, .int .u32 m.h, .int .u64 n, .string q]) ∧ Below w.heap.size w w' := by
  subst hC
  exact all21 s m hs c n r t q hc hr ht hn hm hq w
set_option maxHeartbeats 1000000 in
theorem sum10 (t : ByteArray) (ht : t.size ≤ 1125899906840000) (w : World) :
    Calls Tryd.prog 30 #[.string t] w fun e w' => e = .returned (.string ⟨(Sh.sum t.data.toList).toArray⟩) ∧ Below w.heap.size w w' := by
  obtain ⟨s0, hs0⟩ : ∃ s, s = Sh.S0 := ⟨_, rfl⟩
  obtain ⟨m, hm⟩ : ∃ m, m = Sh.chgAll s0 t.data.toList := ⟨_, rfl⟩
  have hmo : m.ok := by rw [hm, hs0]; exact Sh.chg_ok Sh.S0_ok _ _
  have hso : s0.ok := by rw [hs0]; exact Sh.S0_ok
  obtain ⟨q, hq⟩ : ∃ q : ByteArray, q = ⟨(Sh.restOf t.data.toList).toArray⟩ := ⟨_, rfl⟩
  have hql : q.data.toList = Sh.restOf t.data.toList := by rw [hq]
  have hqs : q.size = t.size % 64 := by rw [Lib.size_eq, hql, Sh.rest_length, ← Lib.size_eq]
  have hqs' : q.size ≤ 64 := by omega
  obtain ⟨n, hn⟩ : ∃ n, n = t.size := ⟨_, rfl⟩
  have hright : Sh.rightB n q.size = true := by
    rw [hn, hqs]
    simp [Sh.rightB]; omega
  obtain ⟨d, hd⟩ : ∃ d : ByteArray, d = ⟨(Sh.fin m q.data.toList n).toArray⟩ := ⟨_, rfl⟩
  have HE : Hid (d = ⟨(Sh.sum t.data.toList).toArray⟩) := by
    show _ = _
    rw [hd, hql, hm, hs0, hn, Lib.size_eq]
    rfl
  have HS : Hid (s0 = Sh.S0) := hs0
  have HM : Hid (m = Sh.chgAll s0 ((⟨#[]⟩ : ByteArray).data.toList ++ t.data.toList)) := hm
  have HQ : Hid (q = ⟨(Sh.restOf ((⟨#[]⟩ : ByteArray).data.toList ++ t.data.toList)).toArray⟩) := hq
  have HNN : Hid (n = 0 + t.size) := by show _ = _; omega
  have HD : Hid (d = ⟨(Sh.fin m q.data.toList n).toArray⟩) := hd
  have HMO : Hid m.ok := hmo
  have HSO : Hid s0.ok := hso
  have HR : Hid (Sh.rightB n q.size = true) := hright
  have HNL : Hid (n < 1152921504606846976) := by show _ < _; omega
  clear hs0 hm hq hql hd hmo hso hright hqs hn
  go_enter Tryd.func30, Tryd.ntmps30
  go_wp2_with fail
  refine (start18 s0 HS _).mono ?_
  rintro e w1 ⟨rfl, hb1⟩
  have B1 : Hid (Below w.heap.size w w1) := hb1
  clear hb1
  go_wp2_with fail
  refine (all21' s0 m HSO.out 0 n _ rfl ⟨#[]⟩ t q (by omega) (by decide) (by omega) HNN HM HQ _).mono ?_
  rintro e w2 ⟨rfl, hb2⟩
  have B2 : Hid (Below w.heap.size w w2) := B1.out.trans (hb2.mono B1.out.size)
  clear hb2
  go_wp2_with fail
  refine (end16_yes m HMO.out n q HNL.out hqs' HR.out d HD _).mono ?_
  rintro e w3 ⟨rfl, hb3⟩
  have B3 : Hid (Below w.heap.size w w3) := B2.out.trans (hb3.mono B2.out.size)
  clear hb3
  go_wp2
  go_ret
  exact ⟨ret_str HE.out, B3.out⟩
end Go.Proofs.YthheebnmdfggnaaDoor
