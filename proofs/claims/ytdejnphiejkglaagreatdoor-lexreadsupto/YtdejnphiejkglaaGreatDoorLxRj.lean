/- The document's Number and Quoted, walked. -/
import Derived.Test.YtdejnphiejkglaaGreatDoorLxRi
import Derived.Test.YtdejnphiejkglaaGreatDoorLxJo
namespace Go.Proofs.YtdejnphiejkglaaGreatDoor
open Go.RowKit
namespace Lx
/-- the digits of N that were written, behind those of u -/
def Dg (N u : Nat) (t : Bs) : Prop := (t = [] ∧ u = N) ∨ (t ≠ [] ∧ (u = 0 → Lib.decDigits N = t) ∧ (0 < u → Lib.decDigits N = Lib.decDigits u ++ t))
theorem Dg.step {N u : Nat} {t : Bs} (h : Dg N u t) (hc : t = [] ∨ 0 < u) : Dg N (u / 10) (UInt8.ofNat (48 + u % 10) :: t) := by
  have e : ∀ v : Nat, Lib.decDigits v = if v < 10 then [UInt8.ofNat (48 + v)] else Lib.decDigits (v / 10) ++ [UInt8.ofNat (48 + v % 10)] := fun v => by
    rw [Lib.decDigits]; split <;> rfl
  have key : Lib.decDigits N = Lib.decDigits u ++ t := by
    rcases h with ⟨rfl, rfl⟩ | ⟨h1, h2, h3⟩
    · simp
    · rcases hc with hc | hc
      · exact absurd hc h1
      · exact h3 hc
  refine Or.inr ⟨by simp, fun h0 => ?_, fun h0 => ?_⟩
  · rw [key, e u, if_pos (by omega), show u % 10 = u by omega]; rfl
  · rw [key, e u, if_neg (by omega), List.append_assoc]; rfl
theorem Dg.len {N u : Nat} {t : Bs} (h : Dg N u t) (hc : t = [] ∨ 0 < u) (hN : N ≤ 9223372036854775807) : t.length ≤ 21 := by
  have h1 := Lib.itoa_length_le (N : Int) (by omega) (by omega)
  rw [Lib.itoa_nonneg] at h1
  rcases h with ⟨rfl, _⟩ | ⟨h2, _, h3⟩
  · simp
  · rcases hc with hc | hc
    · exact absurd hc h2
    · rw [h3 hc, List.length_append] at h1; omega
theorem arR {u : Nat} : u / 10 ≤ u := by omega
theorem dbl_app : ∀ (a b : Bs), dbl (a ++ b) = dbl a ++ dbl b
  | [], b => rfl
  | c :: a, b => by
    rw [List.cons_append, dbl, dbl, dbl_app a b]
    split <;> rfl
theorem dbl_at (l : Bs) (k : Nat) (c : UInt8) (h : l[k]? = some c) : dbl (l.take (k + 1)) = dbl (l.take k) ++ (if c = 39 then [39, 39] else [c]) := by
  rw [List.take_add_one, h]
  show dbl (l.take k ++ [c]) = _
  rw [dbl_app]
  rw [dbl]
  split <;> rfl
theorem digit_piece : ∀ d : Fin 10, (ByteArray.mk #[48, 49, 50, 51, 52, 53, 54, 55, 56, 57]).extract d.val (d.val + 1) = bs [UInt8.ofNat (48 + d.val)] := by decide +kernel
end Lx
set_option maxHeartbeats 4000000 in
set_option maxRecDepth 100000 in
theorem rnumber2_c (N : Nat) (hN : N ≤ 9223372036854775807) (w : World) : Calls Tryz.prog 19 #[.int .i64 (N : Int)] w fun e w' => e = .returned (.string (Lx.bs (Lib.decDigits N))) ∧ w' = w := by
  go_enter Tryz.func19, Tryz.ntmps19
  go_wp2
  go_loopw [0, 3] (fun a o wr => ∃ (u : Nat) (t : Lx.Bs), a = .int .i64 (u : Int) ∧ o = .string (Lx.bs t) ∧ u ≤ 9223372036854775807 ∧ Lx.Dg N u t ∧ wr = w) (fun a o _ => (intOf a).toNat + (match o with
    | .string b => if b.size = 0 then 1 else 0
    | _ => 0))
  case atStart => exact ⟨N, [], rfl, rfl, hN, Or.inl ⟨rfl, rfl⟩, rfl⟩
  case round =>
    obtain ⟨u, t, rfl, rfl, hu, hD, hwr⟩ := hrel
    subst hwr
    have HD : Hid (Lx.Dg N u t) := hD
    clear hD
    obtain ⟨tb, htb⟩ : ∃ tb, tb = Lx.bs t := ⟨_, rfl⟩
    have HTB : Hid (tb = Lx.bs t) := htb
    have htl : tb.toList = t := by rw [htb, Lx.bs_toList]
    rw [← htb]
    clear htb
    by_cases hc : t = [] ∨ 0 < u
    · have HL : Hid (t.length ≤ 21) := HD.out.len hc hN
      have HS : Hid (Lx.Dg N (u / 10) (UInt8.ofNat (48 + u % 10) :: t)) := HD.out.step hc
      obtain ⟨d, hd⟩ : ∃ d, d = u % 10 := ⟨_, rfl⟩
      obtain ⟨v, hv⟩ : ∃ v, v = u / 10 := ⟨_, rfl⟩
      have hd10 : d < 10 := by omega
      have e1 : (u : Int) % 10 = (d : Int) := by omega
      have e2 : (u : Int) / 10 = (v : Int) := by omega
      rw [← hd, ← hv] at HS
      obtain ⟨tc, htc⟩ : ∃ tc, tc = Lx.bs [UInt8.ofNat (48 + d)] := ⟨_, rfl⟩
      have hsl : ∀ wx, (Instr.slice 9 (.string { data := #[48, 49, 50, 51, 52, 53, 54, 55, 56, 57] }) (some (.int .i64 (d : Int))) (some (.int .i64 ((d : Int) + 1))) none).run Tryz.prog wx = .ok (.string tc) wx := fun wx => by
        have h := run_slice_string (P := Tryz.prog) wx 9 { data := #[48, 49, 50, 51, 52, 53, 54, 55, 56, 57] } .i64 .i64 (d : Int) ((d : Int) + 1) Tryz.underlying9 (by omega) (by omega) (by show (d : Int) + 1 ≤ 10; omega)
        rw [Int.toNat_natCast, show ((d : Int) + 1).toNat = d + 1 by omega, Lx.digit_piece ⟨d, hd10⟩, ← htc] at h
        exact h
      have HCAT : Hid (tc ++ tb = Lx.bs (UInt8.ofNat (48 + d) :: t)) := by
        show _ = _
        rw [htc, HTB.out]
        apply ByteArray.ext
        simp [Lx.bs, ByteArray.data_append]
      have hfit : tc.size + tb.size ≤ 9223372036854775807 := by have := HL.out; rw [htc, HTB.out, Lx.bs_size, Lx.bs_size]; simp; omega
      have HM : Hid (((v : Int).toNat + if (tc ++ tb).size = 0 then 1 else 0) < ((u : Int).toNat + if tb.size = 0 then 1 else 0)) := by
        show _ < _
        rw [HCAT.out, Lx.bs_size, if_neg (by simp), HTB.out, Lx.bs_size]
        rcases hc with hc | hc
        · rw [hc]; simp; omega
        · split <;> omega
      have hv2 : v ≤ 9223372036854775807 := by omega
      clear htc hd hv
      by_cases ht : t = []
      · have q1 : (tb.toList == []) = true := by rw [htl, ht]; rfl
        clear ht hc htl
        go_wp2
        exact ⟨⟨v, _, rfl, by rw [HCAT.out], hv2, HS.out, trivial⟩, HM.out⟩
      · have q1 : (tb.toList == []) = false := by rw [htl]; simpa using ht
        have q2 : (0 : Int) < (u : Int) := by
          rcases hc with hc | hc
          · exact absurd hc ht
          · omega
        clear ht hc htl
        go_wp2
        exact ⟨⟨v, _, rfl, by rw [HCAT.out], hv2, HS.out, trivial⟩, HM.out⟩
    · have ht : t ≠ [] := fun e => hc (Or.inl e)
      have q1 : (tb.toList == []) = false := by rw [htl]; simpa using ht
      have q2 : ¬ (0 : Int) < (u : Int) := by
        intro h
        exact hc (Or.inr (by omega))
      have HF : Hid (Lib.decDigits N = t) := by
        rcases HD.out with ⟨h1, _⟩ | ⟨_, h1, _⟩
        · exact absurd h1 ht
        · exact h1 (by omega)
      clear ht hc htl
      go_wp2
      go_ret
      exact ⟨by rw [HF.out, ← HTB.out]; rfl, rfl⟩
set_option maxHeartbeats 4000000 in
set_option maxRecDepth 100000 in
theorem rquoted_c (l : Lx.Bs) (hl : l.length ≤ 1048576) (w : World) : Calls Tryz.prog 20 #[.string (Lx.bs l)] w fun e w' => e = .returned (.string (Lx.bs ([39] ++ Lx.dbl l ++ [39]))) ∧ Below w.heap.size w w' := by
  obtain ⟨s, hs⟩ : ∃ s, s = Lx.bs l := ⟨_, rfl⟩
  obtain ⟨n, hn⟩ : ∃ n : Int, n = (l.length : Int) := ⟨_, rfl⟩
  have hsz : (s.size : Int) = n := by rw [hs, Lx.bs_size, hn]
  have HNL : Hid (n = (l.length : Int)) := hn
  have HIX : Hid (∀ (k : Nat) (b : UInt8), l[k]? = some b → ∀ wx, (Instr.index 9 (.string s) (.int .i64 (k : Int))).run Tryz.prog wx = .ok (.int .u8 (b.toNat : Int)) wx) := fun k b hb wx => by rw [hs]; exact Lx.index_at l (k : Int) k b rfl hb wx
  obtain ⟨R, hR⟩ : ∃ R, R = Lx.bs ([39] ++ Lx.dbl l ++ [39]) := ⟨_, rfl⟩
  have HRR : Hid (R = Lx.bs ([39] ++ Lx.dbl l ++ [39])) := hR
  rw [← hs, ← hR]
  clear hs hn hR
  obtain ⟨i0, hi, hz0, hz1, hz2⟩ := Go.info_parts infoByteL
  go_enter Tryz.func20, Tryz.ntmps20
  go_wp2
  go_loopw [3, 4] (fun o i wr => ∃ (k : Nat) (lv : Value), lv = o ∧ i = .int .i64 (k : Int) ∧ k ≤ l.length ∧ BO w wr (Lx.dbl (l.take k)) lv) (fun _ i _ => l.length - (intOf i).toNat)
  case atStart => exact ⟨0, _, rfl, rfl, Nat.zero_le _, Below.refl _ _, World.ownsRow_nil _ _ _ _⟩
  case round =>
    obtain ⟨k, lv, hlv, rfl, hk, hB⟩ := hrel
    subst hlv
    obtain ⟨out, ho⟩ : ∃ out, out = Lx.dbl (l.take k) := ⟨_, rfl⟩
    have hol : out.length ≤ 2097152 := by
      have h1 := Lx.dbl_len (l.take k)
      rw [List.length_take] at h1
      rw [ho]
      omega
    rw [← ho] at hB
    have HO : Hid (out = Lx.dbl (l.take k)) := ho
    have B : Hid (BO w wr out lv) := hB
    clear hB ho
    by_cases hlt : k < l.length
    · have q0 : (k : Int) < n := by rw [HNL.out]; omega
      have a1 : wrap64 ((k : Int) + 1) = ((k + 1 : Nat) : Int) := by unfold wrap64; omega
      obtain ⟨c, hc⟩ : ∃ c, l[k]? = some c := ⟨_, List.getElem?_eq_getElem hlt⟩
      have hix := HIX.out k c hc
      have HC : Hid (Lx.dbl (l.take (k + 1)) = out ++ (if c = 39 then [39, 39] else [c])) := by show _ = _; rw [HO.out]; exact Lx.dbl_at l k c hc
      clear hc
      by_cases h39 : c = 39
      · have q1 : ((c.toNat : Int) == 39) = true := by rw [h39]; rfl
        have HC2 : Hid (Lx.dbl (l.take (k + 1)) = out ++ [39] ++ [c]) := by show _ = _; rw [HC.out, if_pos h39, h39]; simp
        clear h39 HC
        obtain ⟨ma, hma⟩ : ∃ m, m = (out).length := ⟨_, rfl⟩
        have HOWNma : Hid (wr.ownsRow w.heap.size 5 1 lv ma (Lib.byteCells (out))) := by rw [hma]; exact B.out.row
        have fit63ma : Hid (ma + 1 ≤ maxLen) := by show _ ≤ _; unfold maxLen; rw [hma]; simp; omega
        have fit47ma : Hid ((ma + 1) * 1 ≤ 140737488355328) := by show _ ≤ _; rw [hma]; simp; omega
        have HSZma : Hid (∀ o, w.heap.size ≤ (wr.alloc o).heap.size) := fun o => by have := B.out.below.size; simp; omega
        have HNXma : Hid (∀ (b : UInt8) gg cap w5 o, (wr.alloc o).grownBy w5 (lv).ownBlock → w5.ownsRow w.heap.size 5 1 (.slice (some ⟨gg, 0, none⟩) (ma + 1) cap) (ma + 1) (Lib.byteCells (out) ++ [.int .u8 (b.toNat : Int)]) → BO w w5 (out ++ [b]) (.slice (some ⟨gg, 0, none⟩) (ma + 1) cap)) := by
          intro b gg cap w5 o hgr hno
          rw [hma] at hno ⊢
          exact B.out.next hgr hno
        clear hma
        go_upto_region 7 with (first | (at_builtin; refine wpList_append_lies _ rfl _ _ 56 rfl w.heap.size 5 i0 _ 1 1 Tryz.underlying56 hi hz0 hz1 hz2 rfl (by decide) _ _ _ rfl (HOWNma.out.alloc _) ⟨wr.heap.size, 0, none⟩ 1 1 [.int .u8 39] rfl rfl (World.news_of_block (heap_alloc_new wr _)) (by intro u hu; simp at hu; subst hu; rfl) (by decide) fit63ma.out fit47ma.out (HSZma.out _) _ rfl ?_; intro xg xc xw hown5 hgrow hat hglt; have Sx : Hid (BO w xw (out ++ [39]) (.slice (some ⟨xg, 0, none⟩) (ma + 1) xc)) := HNXma.out 39 xg xc xw _ hgrow hown5; clear hown5 hgrow hat hglt))
        obtain ⟨mb, hmb⟩ : ∃ m, m = (out ++ [39]).length := ⟨_, rfl⟩
        have HOWNmb : Hid (xw.ownsRow w.heap.size 5 1 (.slice (some ⟨xg, 0, none⟩) (ma + 1) xc) mb (Lib.byteCells (out ++ [39]))) := by rw [hmb]; exact Sx.out.row
        have fit63mb : Hid (mb + 1 ≤ maxLen) := by show _ ≤ _; unfold maxLen; rw [hmb]; simp; omega
        have fit47mb : Hid ((mb + 1) * 1 ≤ 140737488355328) := by show _ ≤ _; rw [hmb]; simp; omega
        have HSZmb : Hid (∀ o, w.heap.size ≤ (xw.alloc o).heap.size) := fun o => by have := Sx.out.below.size; simp; omega
        have HNXmb : Hid (∀ (b : UInt8) gg cap w5 o, (xw.alloc o).grownBy w5 (Value.slice (some ⟨xg, 0, none⟩) (ma + 1) xc).ownBlock → w5.ownsRow w.heap.size 5 1 (.slice (some ⟨gg, 0, none⟩) (mb + 1) cap) (mb + 1) (Lib.byteCells (out ++ [39]) ++ [.int .u8 (b.toNat : Int)]) → BO w w5 (out ++ [39] ++ [b]) (.slice (some ⟨gg, 0, none⟩) (mb + 1) cap)) := by
          intro b gg cap w5 o hgr hno
          rw [hmb] at hno ⊢
          exact Sx.out.next hgr hno
        clear hmb
        go_upto_region 4 with (first | (at_builtin; refine wpList_append_lies _ rfl _ _ 56 rfl w.heap.size 5 i0 _ 1 1 Tryz.underlying56 hi hz0 hz1 hz2 rfl (by decide) _ _ _ rfl (HOWNmb.out.alloc _) ⟨xw.heap.size, 0, none⟩ 1 1 [.int .u8 (c.toNat : Int)] rfl rfl (World.news_of_block (heap_alloc_new xw _)) (by intro u hu; simp at hu; subst hu; rfl) (by decide) fit63mb.out fit47mb.out (HSZmb.out _) _ rfl ?_; intro yg yc yw hown5 hgrow hat hglt; have Sy : Hid (BO w yw (out ++ [39] ++ [c]) (.slice (some ⟨yg, 0, none⟩) (mb + 1) yc)) := HNXmb.out c yg yc yw _ hgrow hown5; clear hown5 hgrow hat hglt))
        go_wp2
        go_roundw
        case rel => exact ⟨k + 1, _, rfl, by go_num, by omega, by rw [HC2.out]; exact Sy.out⟩
        case measure => simp [intOf]; omega
      · have q1 : ((c.toNat : Int) == 39) = false := by
          rw [beq_eq_false_iff_ne]
          intro e
          exact h39 (by rw [← UInt8.toNat_inj]; show c.toNat = 39; omega)
        have HC2 : Hid (Lx.dbl (l.take (k + 1)) = out ++ [c]) := by show _ = _; rw [HC.out, if_neg h39]
        clear h39 HC
        obtain ⟨ma, hma⟩ : ∃ m, m = (out).length := ⟨_, rfl⟩
        have HOWNma : Hid (wr.ownsRow w.heap.size 5 1 lv ma (Lib.byteCells (out))) := by rw [hma]; exact B.out.row
        have fit63ma : Hid (ma + 1 ≤ maxLen) := by show _ ≤ _; unfold maxLen; rw [hma]; simp; omega
        have fit47ma : Hid ((ma + 1) * 1 ≤ 140737488355328) := by show _ ≤ _; rw [hma]; simp; omega
        have HSZma : Hid (∀ o, w.heap.size ≤ (wr.alloc o).heap.size) := fun o => by have := B.out.below.size; simp; omega
        have HNXma : Hid (∀ (b : UInt8) gg cap w5 o, (wr.alloc o).grownBy w5 (lv).ownBlock → w5.ownsRow w.heap.size 5 1 (.slice (some ⟨gg, 0, none⟩) (ma + 1) cap) (ma + 1) (Lib.byteCells (out) ++ [.int .u8 (b.toNat : Int)]) → BO w w5 (out ++ [b]) (.slice (some ⟨gg, 0, none⟩) (ma + 1) cap)) := by
          intro b gg cap w5 o hgr hno
          rw [hma] at hno ⊢
          exact B.out.next hgr hno
        clear hma
        go_upto_region 4 with (first | (at_builtin; refine wpList_append_lies _ rfl _ _ 56 rfl w.heap.size 5 i0 _ 1 1 Tryz.underlying56 hi hz0 hz1 hz2 rfl (by decide) _ _ _ rfl (HOWNma.out.alloc _) ⟨wr.heap.size, 0, none⟩ 1 1 [.int .u8 (c.toNat : Int)] rfl rfl (World.news_of_block (heap_alloc_new wr _)) (by intro u hu; simp at hu; subst hu; rfl) (by decide) fit63ma.out fit47ma.out (HSZma.out _) _ rfl ?_; intro yg yc yw hown5 hgrow hat hglt; have Sy : Hid (BO w yw (out ++ [c]) (.slice (some ⟨yg, 0, none⟩) (ma + 1) yc)) := HNXma.out c yg yc yw _ hgrow hown5; clear hown5 hgrow hat hglt))
        go_wp2
        go_roundw
        case rel => exact ⟨k + 1, _, rfl, by go_num, by omega, by rw [HC2.out]; exact Sy.out⟩
        case measure => simp [intOf]; omega
    · have q0 : ¬ (k : Int) < n := by rw [HNL.out]; omega
      have HF : Hid (out = Lx.dbl l) := by show _ = _; rw [HO.out, List.take_of_length_le (by omega)]
      have htx := B.out.text
      have HB := B.out.below
      obtain ⟨tb, htb⟩ : ∃ tb, tb = Lx.bs out := ⟨_, rfl⟩
      rw [← htb] at htx
      have hfit : tb.size ≤ 2097152 := by rw [htb, Lx.bs_size]; exact hol
      have HCAT : Hid (({ data := #[39] } ++ tb : ByteArray) ++ { data := #[39] } = Lx.bs ([39] ++ Lx.dbl l ++ [39])) := by
        show _ = _
        rw [htb, HF.out]
        apply ByteArray.ext
        simp [Lx.bs, ByteArray.data_append]
      clear htb
      go_wp2
      go_ret
      exact ⟨by rw [HRR.out, ← HCAT.out]; rfl, HB⟩
end Go.Proofs.YtdejnphiejkglaaGreatDoor
