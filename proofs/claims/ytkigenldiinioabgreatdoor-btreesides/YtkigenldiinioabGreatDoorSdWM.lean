/- What lies below a key, at it and above it: walked. -/
import Derived.Test.YtkigenldiinioabGreatDoorSdBM
namespace Go.Proofs.YtkigenldiinioabGreatDoor
open Go.RowKit Go.Shelf
open Vl (V)
attribute [local go_sem ↓] Go.wp_at_zero Go.wp_at_succ
namespace Bt
theorem inR_a (z k : V) : inR none (some (true, z)) k = decide (Vl.cmp k z < 0) := by
  simp only [inR, lb, ub]
  rcases Int.lt_trichotomy (Vl.cmp k z) 0 with q | q | q
  · have h1 : ¬ 0 < Vl.cmp k z := by omega
    have h2 : ¬ Vl.cmp k z = 0 := by omega
    simp [q, h1, h2]
  · simp [q]
  · have h1 : ¬ Vl.cmp k z < 0 := by omega
    simp [q, h1]
theorem inR_b (z k : V) : inR (some (false, z)) (some (false, z)) k = decide (Vl.cmp k z = 0) := by
  simp only [inR, lb, ub]
  rcases Int.lt_trichotomy (Vl.cmp k z) 0 with q | q | q
  · have h2 : ¬ Vl.cmp k z = 0 := by omega
    simp [q, h2]
  · simp [q]
  · have h1 : ¬ Vl.cmp k z < 0 := by omega
    have h2 : ¬ Vl.cmp k z = 0 := by omega
    simp [q, h2]
theorem inR_c (z k : V) : inR (some (true, z)) none k = decide (0 < Vl.cmp k z) := by
  simp only [inR, lb, ub]
  rcases Int.lt_trichotomy (Vl.cmp k z) 0 with q | q | q
  · have h1 : ¬ 0 < Vl.cmp k z := by omega
    simp [q, h1]
  · simp [q]
  · have h1 : ¬ Vl.cmp k z < 0 := by omega
    have h2 : ¬ Vl.cmp k z = 0 := by omega
    simp [q, h1, h2]
theorem sides {z : V} : ∀ {L : KL}, L.Pairwise (fun p q => Vl.cmp p.1 q.1 < 0) → (L.filter (fun p => decide (Vl.cmp p.1 z = 0)) = (lat z L).toList) ∧ L.filter (fun p => decide (Vl.cmp p.1 z < 0)) ++ ((lat z L).toList ++ L.filter (fun p => decide (0 < Vl.cmp p.1 z))) = L
  | [], _ => ⟨rfl, rfl⟩
  | p :: r, h => by
    obtain ⟨h1, h2⟩ := List.pairwise_cons.1 h
    obtain ⟨i1, i2⟩ := sides (z := z) h2
    rcases Int.lt_trichotomy (Vl.cmp p.1 z) 0 with q | q | q
    · have e0 : ¬ Vl.cmp p.1 z = 0 := by omega
      have e1 : ¬ 0 < Vl.cmp p.1 z := by omega
      have el : lat z (p :: r) = lat z r := by rw [lat, List.find?_cons_of_neg (by simpa using e0)]; rfl
      rw [List.filter_cons_of_neg (by simpa using e0), List.filter_cons_of_pos (by simpa using q), List.filter_cons_of_neg (by simpa using e1), el]
      exact ⟨i1, by rw [List.cons_append, i2]⟩
    · have hall : ∀ x ∈ r, 0 < Vl.cmp x.1 z := fun x hx => gt_of' (h1 x hx) (by omega)
      have el : lat z (p :: r) = some p := by rw [lat, List.find?_cons_of_pos (by simpa using q)]
      have f0 : r.filter (fun p => decide (Vl.cmp p.1 z = 0)) = [] := List.filter_eq_nil_iff.2 fun x hx => by have := hall x hx; simp; omega
      have f1 : r.filter (fun p => decide (Vl.cmp p.1 z < 0)) = [] := List.filter_eq_nil_iff.2 fun x hx => by have := hall x hx; simp; omega
      have f2 : r.filter (fun p => decide (0 < Vl.cmp p.1 z)) = r := List.filter_eq_self.2 fun x hx => by simpa using hall x hx
      rw [List.filter_cons_of_pos (by simpa using q), List.filter_cons_of_neg (by simp; omega), List.filter_cons_of_neg (by simp; omega), el, f0, f1, f2]
      exact ⟨rfl, rfl⟩
    · have hall : ∀ x ∈ r, 0 < Vl.cmp x.1 z := fun x hx => gt_of' (h1 x hx) (by omega)
      have e0 : ¬ Vl.cmp p.1 z = 0 := by omega
      have f1 : r.filter (fun p => decide (Vl.cmp p.1 z < 0)) = [] := List.filter_eq_nil_iff.2 fun x hx => by have := hall x hx; simp; omega
      have f2 : r.filter (fun p => decide (0 < Vl.cmp p.1 z)) = r := List.filter_eq_self.2 fun x hx => by simpa using hall x hx
      have f0 : r.filter (fun p => decide (Vl.cmp p.1 z = 0)) = [] := List.filter_eq_nil_iff.2 fun x hx => by have := hall x hx; simp; omega
      have el : lat z (p :: r) = lat z r := by rw [lat, List.find?_cons_of_neg (by simpa using e0)]; rfl
      have ln : lat z r = none := lat_never fun m x hx => by have := hall x (List.mem_of_getElem? hx); omega
      rw [List.filter_cons_of_neg (by simpa using e0), List.filter_cons_of_neg (by simp; omega), List.filter_cons_of_pos (by simpa using q), el, ln, f0, f1, f2]
      exact ⟨rfl, rfl⟩
where gt_of' {p x : V × List Nat} (h : Vl.cmp p.1 x.1 < 0) (k : ¬ Vl.cmp p.1 z < 0) : 0 < Vl.cmp x.1 z := gt_of h k
end Bt
set_option maxHeartbeats 16000000 in
set_option maxRecDepth 100000 in
theorem sides_w (w : World) (hU : Bn.HasU w) (l : List (V × List Nat)) (la : Option Addr) (lc : Nat) (hl : l.length ≤ maxLen) (hI : InEs w w.heap.size la l) (z : V) (kv : Value) (hk : Rep w w.heap.size z kv) : Calls Tryz.prog 3 #[.slice la l.length lc, kv] w fun e w' => e = .returned (.bool true) ∧ Below w.heap.size w w' := by
  obtain ⟨d0, d1, d2, d3, d4, d5, rfl⟩ := repV_box hk
  obtain ⟨zk, zb, zn, zs, za, zl, zc, zf, zm, zd, rfl, rfl, rfl, rfl, rfl, rfl⟩ := rep_form hk
  obtain ⟨w1, hw1⟩ : ∃ w1, w1 = w.alloc (.cells #[.int .u8 (zk : Int), .bool zb, .int .i64 zn, .string zs, .slice za zl zc, .slice zf zm zd] 27) := ⟨_, rfl⟩
  obtain ⟨Bk, hBk⟩ : ∃ Bk, Bk = w.heap.size := ⟨_, rfl⟩
  have b1 : Below w.heap.size w w1 := by rw [hw1]; exact below_new _ _
  have e3 : w1.heap[Bk]? = some (.cells #[.int .u8 (zk : Int), .bool zb, .int .i64 zn, .string zs, .slice za zl zc, .slice zf zm zd] 27 (0, 0)) := by rw [hw1, hBk]; exact heap_alloc_new w _
  have HD : Hid (∀ W, Below w1.heap.size w1 W → Below w.heap.size w W ∧ W.heap[Bk]? = some (.cells #[.int .u8 (zk : Int), .bool zb, .int .i64 zn, .string zs, .slice za zl zc, .slice zf zm zd] 27 (0, 0))) := fun W hW => ⟨b1.trans (hW.mono b1.size), (hW.block _ (lt_of_row e3)).trans e3⟩
  have CL : Hid (∀ W, Below w1.heap.size w1 W → Calls Tryz.prog 5 #[] W fun e w' => e = .returned (.bool true) ∧ Below w1.heap.size w1 w') := fun W hW => (livesB_c W (hU.stays (HD.out W hW).1)).mono (by
    rintro e w' ⟨rfl, hb⟩
    exact ⟨rfl, hW.trans (hb.mono hW.size)⟩)
  have CF : Hid (∀ W, Below w1.heap.size w1 W → Calls Tryz.prog 6 #[.slice la l.length lc] W fun e w' => ∃ tb L a c, e = .returned (.tuple #[.pointer (some ⟨tb, 0, none⟩), .slice a (List.length L) c, .bool true]) ∧ Hid (FS W tb L L a (fun _ _ => False) w' ∧ Below w1.heap.size w1 w')) := fun W hW => by
    have hWw := (HD.out W hW).1
    refine (filled_at W W (hU.stays hWw) (Below.refl _ _) l la lc hl ((hI.stays hWw).up hWw.size)).mono ?_
    rintro e w' ⟨tb, L, a, c, rfl, h1, h2⟩
    exact ⟨tb, L, a, c, rfl, h1, hW.trans (h2.mono hW.size)⟩
  have HU : Hid (∀ W, Below w1.heap.size w1 W → Bn.HasU W) := fun W hW => hU.stays (HD.out W hW).1
  have HB : Hid (∀ W, Below w1.heap.size w1 W → Rep W W.heap.size z (.agg #[.int .u8 (zk : Int), .bool zb, .int .i64 zn, .string zs, .slice za zl zc, .slice zf zm zd])) := fun W hW => rep_stays (HD.out W hW).1 (HD.out W hW).1.size _ _ hk
  obtain ⟨ke, hke⟩ : ∃ ke, ke = Bt.kerr z := ⟨_, rfl⟩
  have HKE : Hid (ke = Bt.kerr z) := hke
  have HRE : Hid (Bt.rerr none (some (true, z)) = ke ∧ Bt.rerr (some (false, z)) (some (false, z)) = ke ∧ Bt.rerr (some (true, z)) none = ke ∧ Bt.rerr none none = 0) := by
    rw [hke]
    refine ⟨?_, ?_, ?_, rfl⟩
    · rw [Bt.rerr, if_neg (by simp [Bt.berr])]; rfl
    · rw [Bt.rerr]; split <;> rfl
    · rw [Bt.rerr]
      split
      · rfl
      · rename_i h
        have : Bt.kerr z = 0 := by simpa [Bt.berr] using h
        rw [this]; rfl
  clear hk b1 e3 hU hl hI hke
  go_enter Tryz.func3, Tryz.ntmps3
  go_upto_region 1 with fail
  rw [← hw1, ← hBk]
  clear hw1 hBk
  go_wp2_with fail
  refine (CL.out _ (Below.refl _ _)).mono ?_
  rintro e w2 ⟨rfl, hb2⟩
  have K2 : Hid (Below w1.heap.size w1 w2) := hb2
  clear hb2 CL
  go_wp2_with fail
  refine (CF.out _ K2.out).mono ?_
  rintro e w3 ⟨tb, L, wa, wc, rfl, HFS⟩
  obtain ⟨wn, hwn⟩ : ∃ wn, wn = L.length := ⟨_, rfl⟩
  rw [← hwn]
  have K3 : Hid (Below w1.heap.size w1 w3) := HFS.out.2
  have HLW : Hid (Bt.LW L) := HFS.out.1.lw
  have CR : Hid (∀ (o1 o2 : Option (Bool × V)) (er : Nat) (v1 v2 : Value) (W : World), Bt.rerr o1 o2 = er → Below w3.heap.size w3 W → Bnd W W.heap.size o1 v1 → Bnd W W.heap.size o2 v2 → Calls Tryz.prog 7 #[.pointer (some ⟨tb, 0, none⟩), v1, v2] W fun ex w' => ∃ a n c, ex = .returned (.tuple #[.slice a n c, .int .i64 (er : Int)]) ∧ Hid ((er = 0 → n = (L.filter fun p => Bt.inR o1 o2 p.1).length ∧ EntsA w' (fun g => g < w'.heap.size) a (L.filter fun p => Bt.inR o1 o2 p.1)) ∧ (er ≠ 0 → n = 0) ∧ n ≤ 1024 ∧ Below w3.heap.size w3 w' ∧ Below W.heap.size W w')) := fun o1 o2 er v1 v2 W her hW h1 h2 => by
    obtain ⟨F, O, hT, _⟩ := HFS.out.1.ex
    refine (range_e (hT.stays hW) (HU.out W (K3.out.trans (hW.mono K3.out.size))) o1 o2 v1 v2 h1 h2).mono ?_
    rintro ex w' ⟨a, n, c, rfl, q1, q2, q3, q4⟩
    rw [her] at q1 q3 ⊢
    refine ⟨a, n, c, rfl, fun h0 => ?_, fun h0 => ?_, q2, hW.trans (q4.mono hW.size), q4⟩
    · rw [if_pos h0] at q1 q3
      exact ⟨q1, q3.stays (fun _ _ => rfl) (fun g hg => hg.1)⟩
    · rw [if_neg h0] at q1
      exact q1
  have CFD : Hid (∀ W, Below w3.heap.size w3 W → Calls Tryz.prog 8 #[.pointer (some ⟨tb, 0, none⟩), .agg #[.int .u8 (zk : Int), .bool zb, .int .i64 zn, .string zs, .slice za zl zc, .slice zf zm zd]] W fun ex w' => ∃ pi m cap, ex = .returned (.tuple #[.slice pi m cap, .int .i64 (ke : Int)]) ∧ Hid ((ke = 0 → m = (Bt.lids z L).length ∧ NumsAt w' pi (Bt.lids z L)) ∧ (ke ≠ 0 → m = 0) ∧ Below w3.heap.size w3 w' ∧ Below W.heap.size W w')) := fun W hW => by
    obtain ⟨F, O, hT, _⟩ := HFS.out.1.ex
    refine (find_a (hT.stays hW) (HU.out W (K3.out.trans (hW.mono K3.out.size))) (HB.out W (K3.out.trans (hW.mono K3.out.size)))).mono ?_
    rintro ex w' ⟨pi, m, cap, rfl, q1, q2, q3⟩
    rw [← HKE.out] at q1 q2 ⊢
    refine ⟨pi, m, cap, rfl, fun h0 => ?_, fun h0 => ?_, hW.trans (q3.mono hW.size), q3⟩
    · rw [if_pos h0] at q1 q2
      exact ⟨q1, q2⟩
    · rw [if_neg h0] at q1
      exact q1
  have KW : Hid (∀ W, Below w3.heap.size w3 W → Below w1.heap.size w1 W) := fun W hW => K3.out.trans (hW.mono K3.out.size)
  clear HFS hwn CF K2
  have tq := HD.out _ K3.out
  have a0 := cells_at tq.2 0 _ rfl
  have a1 := cells_at tq.2 1 _ rfl
  have a2 := cells_at tq.2 2 _ rfl
  have a3 := cells_at tq.2 3 _ rfl
  have a4 := cells_at tq.2 4 _ rfl
  have a5 := cells_at tq.2 5 _ rfl
  clear tq
  go_wp2_with fail
  refine (CR.out none (some (true, z)) ke _ _ _ HRE.out.1 (Below.refl _ _) (bnd_none _ _) ⟨true, true, _, _, _, _, _, _, z, rfl, HB.out _ K3.out, rfl⟩).mono ?_
  rintro e w4 ⟨pa, pn, pc, rfl, HV4⟩
  clear a0 a1 a2 a3 a4 a5
  have tq := HD.out _ (KW.out _ HV4.out.2.2.2.1)
  have a0 := cells_at tq.2 0 _ rfl
  have a1 := cells_at tq.2 1 _ rfl
  have a2 := cells_at tq.2 2 _ rfl
  have a3 := cells_at tq.2 3 _ rfl
  have a4 := cells_at tq.2 4 _ rfl
  have a5 := cells_at tq.2 5 _ rfl
  clear tq
  go_wp2_with fail
  refine (CR.out (some (false, z)) (some (false, z)) ke _ _ _ HRE.out.2.1 HV4.out.2.2.2.1 ⟨true, false, _, _, _, _, _, _, z, rfl, HB.out _ (KW.out _ HV4.out.2.2.2.1), rfl⟩ ⟨true, false, _, _, _, _, _, _, z, rfl, HB.out _ (KW.out _ HV4.out.2.2.2.1), rfl⟩).mono ?_
  rintro e w5 ⟨qa, qn, qc, rfl, HV5⟩
  clear a0 a1 a2 a3 a4 a5
  have tq := HD.out _ (KW.out _ HV5.out.2.2.2.1)
  have a0 := cells_at tq.2 0 _ rfl
  have a1 := cells_at tq.2 1 _ rfl
  have a2 := cells_at tq.2 2 _ rfl
  have a3 := cells_at tq.2 3 _ rfl
  have a4 := cells_at tq.2 4 _ rfl
  have a5 := cells_at tq.2 5 _ rfl
  clear tq
  go_wp2_with fail
  refine (CR.out (some (true, z)) none ke _ _ _ HRE.out.2.2.1 HV5.out.2.2.2.1 ⟨true, true, _, _, _, _, _, _, z, rfl, HB.out _ (KW.out _ HV5.out.2.2.2.1), rfl⟩ (bnd_none _ _)).mono ?_
  rintro e w6 ⟨ra, rn, rc, rfl, HV6⟩
  clear a0 a1 a2 a3 a4 a5
  go_wp2_with fail
  refine (CR.out none none 0 _ _ _ HRE.out.2.2.2 HV6.out.2.2.2.1 (bnd_none _ _) (bnd_none _ _)).mono ?_
  rintro e w7 ⟨al, an, ac, rfl, HV7⟩
  have tq := HD.out _ (KW.out _ HV7.out.2.2.2.1)
  have a0 := cells_at tq.2 0 _ rfl
  have a1 := cells_at tq.2 1 _ rfl
  have a2 := cells_at tq.2 2 _ rfl
  have a3 := cells_at tq.2 3 _ rfl
  have a4 := cells_at tq.2 4 _ rfl
  have a5 := cells_at tq.2 5 _ rfl
  clear tq
  go_wp2_with fail
  refine (CFD.out _ HV7.out.2.2.2.1).mono ?_
  rintro e w8 ⟨fi, fm, fc, rfl, HV8⟩
  have K8 : Hid (Below w3.heap.size w3 w8) := HV8.out.2.2.1
  clear a0 a1 a2 a3 a4 a5 CFD CR
  by_cases hz : ke = 0
  · have HK0 : Hid (ke = 0) := hz
    have b78 : Below w7.heap.size w7 w8 := HV8.out.2.2.2
    have b68 : Below w6.heap.size w6 w8 := HV7.out.2.2.2.2.trans (b78.mono HV7.out.2.2.2.2.size)
    have b58 : Below w5.heap.size w5 w8 := HV6.out.2.2.2.2.trans (b68.mono HV6.out.2.2.2.2.size)
    have b48 : Below w4.heap.size w4 w8 := HV5.out.2.2.2.2.trans (b58.mono HV5.out.2.2.2.2.size)
    obtain ⟨LA, hLA⟩ : ∃ LA, LA = L.filter fun p => Bt.inR none (some (true, z)) p.1 := ⟨_, rfl⟩
    obtain ⟨LB, hLB⟩ : ∃ LB, LB = L.filter fun p => Bt.inR (some (false, z)) (some (false, z)) p.1 := ⟨_, rfl⟩
    obtain ⟨LC, hLC⟩ : ∃ LC, LC = L.filter fun p => Bt.inR (some (true, z)) none p.1 := ⟨_, rfl⟩
    have HM : Hid (LB = (Bt.lat z L).toList ∧ LA ++ LB ++ LC = L) := by
      have h := Bt.sides (z := z) HLW.out.rises
      simp only [Bt.inR_a] at hLA
      simp only [Bt.inR_b] at hLB
      simp only [Bt.inR_c] at hLC
      have h1 : LB = (Bt.lat z L).toList := by rw [hLB]; exact h.1
      exact ⟨h1, by rw [hLA, h1, hLC, List.append_assoc]; exact h.2⟩
    have HA1 : Hid (an = (LA ++ LB ++ LC).length ∧ an ≤ 1024 ∧ EntsA w8 (fun g => g < w8.heap.size) al (LA ++ LB ++ LC)) := by
      obtain ⟨h1, h2⟩ := HV7.out.1 trivial
      rw [Bt.filter_all] at h1 h2
      rw [HM.out.2]
      exact ⟨h1, HV7.out.2.2.1, h2.stays (fun g hg => b78.block g hg) (fun g hg => Nat.lt_of_lt_of_le hg b78.size)⟩
    have HA2 : Hid (pn = LA.length ∧ pn ≤ 1024 ∧ EntsA w8 (fun g => g < w8.heap.size) pa LA) := by
      obtain ⟨h1, h2⟩ := HV4.out.1 hz
      rw [← hLA] at h1 h2
      exact ⟨h1, HV4.out.2.2.1, h2.stays (fun g hg => b48.block g hg) (fun g hg => Nat.lt_of_lt_of_le hg b48.size)⟩
    have HA3 : Hid (qn = LB.length ∧ qn ≤ 1024 ∧ EntsA w8 (fun g => g < w8.heap.size) qa LB) := by
      obtain ⟨h1, h2⟩ := HV5.out.1 hz
      rw [← hLB] at h1 h2
      exact ⟨h1, HV5.out.2.2.1, h2.stays (fun g hg => b58.block g hg) (fun g hg => Nat.lt_of_lt_of_le hg b58.size)⟩
    have HA4 : Hid (rn = LC.length ∧ rn ≤ 1024 ∧ EntsA w8 (fun g => g < w8.heap.size) ra LC) := by
      obtain ⟨h1, h2⟩ := HV6.out.1 hz
      rw [← hLC] at h1 h2
      exact ⟨h1, HV6.out.2.2.1, h2.stays (fun g hg => b68.block g hg) (fun g hg => Nat.lt_of_lt_of_le hg b68.size)⟩
    have HA5 : Hid (fm = (Bt.lids z L).length ∧ NumsAt w8 fi (Bt.lids z L)) := HV8.out.1 hz
    have E0 : Hid (EO w8 (fun g => g < w8.heap.size) [] (.slice (some ⟨w8.heap.size, 0, none⟩) 0 0) (w8.alloc (.cells #[] 43))) := EO.empty (Below.refl _ _) (fun g hg => hg)
    have HA2' : Hid (EntsA (w8.alloc (.cells #[] 43)) (fun g => g < w8.heap.size) pa LA) := HA2.out.2.2.stays (fun g hg => (below_new w8 _).block g hg) (fun _ hg => hg)
    have fitA : Hid (([] : Bt.KL).length + pn ≤ 1000000) := by show _ ≤ _; have := HA2.out; simp; omega
    have fitB : Hid (LA.length + qn ≤ 1000000) := by show _ ≤ _; have := HA2.out; have := HA3.out; omega
    have fitC : Hid ((LA ++ LB).length + rn ≤ 1000000) := by show _ ≤ _; have := HA2.out; have := HA3.out; have := HA4.out; rw [List.length_append]; omega
    have CS : Hid (∀ (W : World) b cb, Below w8.heap.size w8 W → EntsA W (fun g => g < W.heap.size) b (LA ++ LB ++ LC) → Calls Tryz.prog 9 #[.slice b an cb, .slice al an ac] W fun e w' => e = .returned (.bool true) ∧ Below W.heap.size W w') := fun W b cb hW hb => by
      have hfew : ∀ p ∈ LA ++ LB ++ LC, p.2.length ≤ 1000000 := fun p hp => by
        rw [HM.out.2] at hp
        have := HLW.out.few hp
        omega
      have h1 := (HA1.out.2.2.stays (w' := W) (A' := fun g => g < W.heap.size) (fun g hg => hW.block g hg) (fun g hg => Nat.lt_of_lt_of_le hg hW.size)).at (fun g hg => hg) hfew
      have := sameE_c (LA ++ LB ++ LC) b al cb ac W (by rw [← HA1.out.1]; have := HA1.out.2.1; omega) (hb.at (fun g hg => hg) hfew) h1
      rw [← HA1.out.1] at this
      exact this
    subst hz
    clear b78 b68 b58 b48 hLA hLB hLC HV4 HV5 HV6 HV7 HV8 HRE
    have HEND : Hid (∀ W, Below w8.heap.size w8 W → Below w.heap.size w W) := fun W hW => (HD.out _ (KW.out _ (K8.out.trans (hW.mono K8.out.size)))).1
    cases hlat : Bt.lat z L with
    | none =>
      obtain rfl : qn = 0 := by
        have := HA3.out.1
        rw [HM.out.1, hlat] at this
        exact this
      obtain rfl : fm = 0 := by
        have := HA5.out.1
        rw [Bt.lids_none hlat] at this
        exact this
      clear hlat
      go_wp2_with (first | (at_builtin; refine wpList_append_ents rfl _ _ rfl rfl E0.out pa pn pc rfl HA2.out.1 HA2'.out fitA.out ?_; intro v9 w9 h9; (have E9 : Hid (EO w8 (fun g => g < w8.heap.size) LA v9 w9) := by (rw [List.nil_append] at h9; exact h9)); clear h9; (have HA3' : Hid (EntsA w9 (fun g => g < w8.heap.size) _ LB) := HA3.out.2.2.stays (fun g hg => E9.out.below.block g hg) (fun _ hg => hg))) | (at_builtin; refine wpList_append_ents rfl _ _ rfl rfl E9.out _ _ _ rfl HA3.out.1 HA3'.out fitB.out ?_; intro v10 w10 h10; (have E10 : Hid (EO w8 (fun g => g < w8.heap.size) (LA ++ LB) v10 w10) := h10); clear h10; (have HA4' : Hid (EntsA w10 (fun g => g < w8.heap.size) ra LC) := HA4.out.2.2.stays (fun g hg => E10.out.below.block g hg) (fun _ hg => hg))) | (at_builtin; refine wpList_append_ents rfl _ _ rfl rfl E10.out ra rn rc rfl HA4.out.1 HA4'.out fitC.out ?_; intro v11 w11 h11; (obtain ⟨a11, c11, e11⟩ := h11.form); subst e11; rw [← HA1.out.1]; (have E11 : Hid (EntsA w11 (fun g => g < w11.heap.size) a11 (LA ++ LB ++ LC) ∧ Below w8.heap.size w8 w11) := ⟨h11.done.2.stays (fun _ _ => rfl) (fun g hg => hg.elim (fun q => Nat.lt_of_lt_of_le q h11.below.size) (fun q => q.2)), h11.below⟩); clear h11) | (go_at_call 9; refine (CS.out _ _ _ E11.out.2 E11.out.1).mono ?_; rintro e w11b ⟨rfl, hb11⟩; have K11 : Hid (Below w8.heap.size w8 w11b) := E11.out.2.trans (hb11.mono E11.out.2.size); clear hb11))
      go_ret
      exact ⟨rfl, HEND.out _ K11.out⟩
    | some p =>
      have hp := Bt.lat_mem hlat
      have HQ : Hid (qn = 1) := by
        have := HA3.out.1
        rw [HM.out.1, hlat] at this
        exact this
      obtain ⟨g, cs0, hqa, _, hEV, hcell⟩ := HA3.out.2.2 0 p (by rw [HM.out.1, hlat]; rfl)
      obtain ⟨k0, k1, k2, k3, k4, k5, pi, cap, hcs, _, hNA⟩ := hEV
      subst hcs
      obtain ⟨ln, hln⟩ : ∃ ln, ln = p.2.length := ⟨_, rfl⟩
      rw [← hln] at hcell
      have c6 := hcell 6 _ rfl
      rw [Nat.zero_mul, Nat.zero_add] at c6
      subst hqa
      obtain rfl : qn = 1 := HQ.out
      have HFM : Hid (fm = ln) := by
        have := HA5.out.1
        rw [Bt.lids_some hlat, ← hln] at this
        exact this
      have h5 := HA5.out.2
      rw [Bt.lids_some hlat] at h5
      obtain rfl : fm = ln := HFM.out
      have HL1 : Hid (1 ≤ fm ∧ fm = p.2.length ∧ fm ≤ 1024) := ⟨by rw [hln]; exact (HLW.out.asc p hp.1).2, hln, by rw [hln]; exact HLW.out.few hp.1⟩
      have q1 : ((fm : Int) == 0) = false := by have := HL1.out; simp; omega
      have HC6 : Hid (∀ W, Below w8.heap.size w8 W → W.cell? ⟨g, 6, none⟩ = some (.slice pi fm cap)) := fun W hW => by
        by_cases hg : g < w8.heap.size
        · exact (hW.cell (p := ⟨g, 6, none⟩) hg).trans c6
        · have := (CellsAt.of_cell c6)
          obtain ⟨_, _, _, e⟩ := this
          exact absurd (lt_of_row e) hg
      have CID : Hid (∀ W, Below w8.heap.size w8 W → Calls Tryz.prog 10 #[.slice pi fm cap, .slice fi fm fc] W fun e w' => e = .returned (.bool true) ∧ Below W.heap.size W w') := fun W hW => by
        have h1 : NumsAt w8 pi p.2 := hNA.at fun g hg => hg
        have h := ids_c p.2 p.2 pi fi cap fc W (by rw [← HL1.out.2.1]; have := HL1.out; omega) (h1.stays hW) (h5.stays hW)
        rw [← HL1.out.2.1] at h
        simpa using h
      clear hp hcell c6 hNA h5 hln hlat
      go_wp2_with (first | (at_builtin; refine wpList_append_ents rfl _ _ rfl rfl E0.out pa pn pc rfl HA2.out.1 HA2'.out fitA.out ?_; intro v9 w9 h9; (have E9 : Hid (EO w8 (fun g => g < w8.heap.size) LA v9 w9) := by (rw [List.nil_append] at h9; exact h9)); clear h9; (have HA3' : Hid (EntsA w9 (fun g => g < w8.heap.size) _ LB) := HA3.out.2.2.stays (fun g hg => E9.out.below.block g hg) (fun _ hg => hg))) | (at_builtin; refine wpList_append_ents rfl _ _ rfl rfl E9.out _ _ _ rfl HA3.out.1 HA3'.out fitB.out ?_; intro v10 w10 h10; (have E10 : Hid (EO w8 (fun g => g < w8.heap.size) (LA ++ LB) v10 w10) := h10); clear h10; (have HA4' : Hid (EntsA w10 (fun g => g < w8.heap.size) ra LC) := HA4.out.2.2.stays (fun g hg => E10.out.below.block g hg) (fun _ hg => hg))) | (at_builtin; refine wpList_append_ents rfl _ _ rfl rfl E10.out ra rn rc rfl HA4.out.1 HA4'.out fitC.out ?_; intro v11 w11 h11; (obtain ⟨a11, c11, e11⟩ := h11.form); subst e11; rw [← HA1.out.1]; (have E11 : Hid (EntsA w11 (fun g => g < w11.heap.size) a11 (LA ++ LB ++ LC) ∧ Below w8.heap.size w8 w11) := ⟨h11.done.2.stays (fun _ _ => rfl) (fun g hg => hg.elim (fun q => Nat.lt_of_lt_of_le q h11.below.size) (fun q => q.2)), h11.below⟩); clear h11) | (go_at_call 9; refine (CS.out _ _ _ E11.out.2 E11.out.1).mono ?_; rintro e w11b ⟨rfl, hb11⟩; have K11 : Hid (Below w8.heap.size w8 w11b) := E11.out.2.trans (hb11.mono E11.out.2.size); clear hb11; have x6 := HC6.out _ K11.out))
      refine (CID.out _ K11.out).mono ?_
      rintro e w12 ⟨rfl, hb12⟩
      have K12 : Hid (Below w8.heap.size w8 w12) := K11.out.trans (hb12.mono K11.out.size)
      clear hb12 x6
      go_wp2
      go_ret
      exact ⟨rfl, HEND.out _ K12.out⟩
  · have q1 : ((ke : Int) != 0) = true := by simp; omega
    have q2 : ¬ ((ke : Int) = 0) := by omega
    obtain rfl : pn = 0 := HV4.out.2.1 hz
    obtain rfl : qn = 0 := HV5.out.2.1 hz
    obtain rfl : rn = 0 := HV6.out.2.1 hz
    obtain rfl : fm = 0 := HV8.out.2.1 hz
    clear hz
    go_wp2
    go_ret
    exact ⟨by first | rfl | simp, (HD.out _ (KW.out _ K8.out)).1⟩
end Go.Proofs.YtkigenldiinioabGreatDoor
