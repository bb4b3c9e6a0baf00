/- The document's Drop: walked. -/
import Derived.Test.YtkigenldiinioaaGreatDoorRfCM
namespace Go.Proofs.YtkigenldiinioaaGreatDoor
open Go.RowKit
open Vl (V)
attribute [local go_sem ↓] Go.wp_at_zero Go.wp_at_succ
namespace Bt
theorem nrem_take {id k y : Nat} {l : List Nat} (h : l[k]? = some y) : nrem id (l.take (k + 1)) = nrem id (l.take k) ++ if y = id then [] else [y] := by
  rw [nrem, nrem, List.take_add_one, h, List.filter_append]
  congr 1
  by_cases q : y = id
  · simp [q]
  · simp [q]
theorem ldrop_hit {x : V} {id : Nat} {L : KL} {j : Nat} {p : V × List Nat} (hp : L[j]? = some p) (hc : Vl.cmp p.1 x = 0) : ldrop x id (L.take (j + 1)) = ldrop x id (L.take j) ++ if 0 < (nrem id p.2).length then [(p.1, nrem id p.2)] else [] := by
  rw [ldrop_take hp]
  simp only [if_pos hc]
theorem ldrop_miss {x : V} {id : Nat} {L : KL} {j : Nat} {p : V × List Nat} (hp : L[j]? = some p) (hc : Vl.cmp p.1 x ≠ 0) (h1 : 1 ≤ p.2.length) : ldrop x id (L.take (j + 1)) = ldrop x id (L.take j) ++ [p] := by
  rw [ldrop_take hp]
  simp only [if_neg hc]
  rw [if_pos (by omega)]
theorem nrem_length (id : Nat) (l : List Nat) : (nrem id l).length ≤ l.length := List.length_filter_le _ _
theorem ldrop_length (x : V) (id : Nat) (L : KL) : (ldrop x id L).length ≤ L.length := by
  have := List.length_filter_le (fun p : V × List Nat => decide (0 < p.2.length)) (lon x (nrem id) L)
  rw [lon, List.length_map] at this
  exact this
end Bt
theorem NO.app' {w W W5 : World} {l : List Nat} {lv : Value} {x gg cap n : Nat} (h : NO w l lv W) (hn : n = l.length) (hg : (W.alloc (.cells #[.int .u64 (x : Int)] 51)).grownBy W5 lv.ownBlock) (ho : W5.ownsRow w.heap.size 51 1 (.slice (some ⟨gg, 0, none⟩) (n + 1) cap) (n + 1) (Bt.nums l ++ [.int .u64 (x : Int)])) : NO w (l ++ [x]) (.slice (some ⟨gg, 0, none⟩) (n + 1) cap) W5 := by
  subst hn
  exact h.app hg ho
set_option maxHeartbeats 16000000 in
set_option maxRecDepth 100000 in
theorem rdrop_c (L : Bt.KL) (a : Option Addr) (ca : Nat) (w : World) (A : Nat → Prop) (x : V) (v : Value) (id : Nat) (hLW : Bt.LW L) (hA : ∀ g, A g → g < w.heap.size) (ha : EntsA w A a L) (hv : Rep w w.heap.size x v) :
    Calls Tryz.prog 29 #[.slice a L.length ca, v, .int .u64 (id : Int)] w (EntR w A (if Bt.derr x id L = 0 then Bt.ldrop x id L else L) (Bt.derr x id L)) := by
  obtain ⟨n, hn⟩ : ∃ n, n = L.length := ⟨_, rfl⟩
  have hl : n ≤ 1000000 := by have := hLW.len; omega
  have hfew : ∀ p ∈ L, p.2.length ≤ 1000000 := fun p hp => by have := hLW.few hp; omega
  have hEA := ha.at hA hfew
  obtain ⟨d0, d1, d2, d3, d4, d5, rfl⟩ := repV_box hv
  obtain ⟨qk, qb, qn, qs, qa, ql, qc, qf, qm, qd, f0, f1, f2, f3, f4, f5⟩ := rep_form hv
  subst f0 f1 f2 f3 f4 f5
  obtain ⟨w1, hw1⟩ : ∃ w1, w1 = w.alloc (.cells #[.int .u8 (qk : Int), .bool qb, .int .i64 qn, .string qs, .slice qa ql qc, .slice qf qm qd] 27) := ⟨_, rfl⟩
  obtain ⟨B, hB⟩ : ∃ B, B = w.heap.size := ⟨_, rfl⟩
  have b1 : Below w.heap.size w w1 := by rw [hw1]; exact below_new _ _
  have hb1 : w1.heap[B]? = some (.cells #[.int .u8 (qk : Int), .bool qb, .int .i64 qn, .string qs, .slice qa ql qc, .slice qf qm qd] 27 (0, 0)) := by rw [hw1, hB]; exact heap_alloc_new w _
  have HD : Hid (∀ W, Below w1.heap.size w1 W → Below w.heap.size w W ∧ W.heap[B]? = some (.cells #[.int .u8 (qk : Int), .bool qb, .int .i64 qn, .string qs, .slice qa ql qc, .slice qf qm qd] 27 (0, 0))) := fun W hW => ⟨b1.trans (hW.mono b1.size), (hW.block _ (lt_of_row hb1)).trans hb1⟩
  have HC : Hid (∀ (p : V × List Nat) (va : Value) (W : World), Below w.heap.size w W → Rep w w.heap.size p.1 va → Calls Tryz.prog 21 #[va, .agg #[.int .u8 (qk : Int), .bool qb, .int .i64 qn, .string qs, .slice qa ql qc, .slice qf qm qd]] W fun e w' => e = .returned (.int .i64 (Vl.cmp p.1 x)) ∧ Below W.heap.size W w') := fun p va W hW hr => rcompare20 _ p.1 (Nat.le_refl _) x W w.heap.size _ _ hW.size (rep_stays hW (Nat.le_refl _) _ _ hr) (rep_stays hW (Nat.le_refl _) _ _ hv)
  obtain ⟨ke, hke⟩ : ∃ ke, ke = Bt.kerr x := ⟨_, rfl⟩
  have CK : Hid (∀ W, Below w.heap.size w W → Calls Tryz.prog 14 #[.agg #[.int .u8 (qk : Int), .bool qb, .int .i64 qn, .string qs, .slice qa ql qc, .slice qf qm qd]] W fun e w' => e = .returned (.int .i64 (ke : Int)) ∧ Below W.heap.size W w') := fun W hW => by
    rw [hke]
    exact rcheck19 x W w.heap.size _ hW.size (rep_stays hW (Nat.le_refl _) _ _ hv)
  have CF : Hid (∀ W, Below w.heap.size w W → Calls Tryz.prog 17 #[.slice a n ca, .agg #[.int .u8 (qk : Int), .bool qb, .int .i64 qn, .string qs, .slice qa ql qc, .slice qf qm qd]] W (NumR W (Bt.lids x L))) := fun W hW => by
    rw [hn]
    exact rfind_c L a ca W x _ (by omega) (fun p hp => (hLW.asc p hp).2) (hEA.stays hW) (rep_stays hW hW.size _ _ hv)
  have hfl : (Bt.lids x L).length ≤ 1000000 := by
    rw [Bt.lids]
    cases h : Bt.lat x L with
    | none => exact Nat.zero_le _
    | some p => exact hfew p (Bt.lat_mem h).1
  have hfa : (Bt.lids x L).Pairwise (· < ·) := by
    rw [Bt.lids]
    cases h : Bt.lat x L with
    | none => exact List.Pairwise.nil
    | some p => exact (hLW.asc p (Bt.lat_mem h).1).1
  obtain ⟨hs, hhs⟩ : ∃ hs, hs = Bt.lhas x id L := ⟨_, rfl⟩
  have CH : Hid (∀ (W : World) pi cap, NumsAt W pi (Bt.lids x L) → Calls Tryz.prog 47 #[.slice pi (Bt.lids x L).length cap, .int .u64 (id : Int)] W fun e w' => e = .returned (.bool hs) ∧ w' = W) := fun W pi cap h => by
    have := rhas_c (Bt.lids x L) id pi cap W hfl h
    have e : decide (id ∈ Bt.lids x L) = hs := by
      rw [hhs, Bt.lhas]
      have h1 := Bt.nhas_mem hfa (id := id)
      cases h2 : Bt.nhas id (Bt.lids x L) with
      | true => exact decide_eq_true (h1.1 h2)
      | false => exact decide_eq_false fun q => by rw [h1.2 q] at h2; cases h2
    rw [e] at this
    exact this
  obtain ⟨er, her⟩ : ∃ er, er = Bt.derr x id L := ⟨_, rfl⟩
  obtain ⟨L2, hL2⟩ : ∃ L2, L2 = (if Bt.derr x id L = 0 then Bt.ldrop x id L else L) := ⟨_, rfl⟩
  rw [← hL2, ← her]
  have HL2 : Hid (L2 = (if Bt.derr x id L = 0 then Bt.ldrop x id L else L)) := hL2
  rw [← her] at hL2
  have HP : Hid (er = if ke ≠ 0 then ke else if hs = true then 0 else 7) := by
    show _ = _
    rw [her, Bt.derr, hke, hhs]
  have HERR : Hid (∀ e, e = er → e ≠ 0 → ∀ W, Below w.heap.size w W → EntR w A L2 er (.returned (.tuple #[.slice a n ca, .int .i64 (e : Int)])) W) := fun e he h0 W hW => by
    rw [hL2, ← he, if_neg h0]
    exact ⟨a, n, ca, rfl, hn, ha.stays (fun g hg => hW.block g (hA g hg)) (fun g hg => .inl hg), hW⟩
  have HN : Hid (n = L.length ∧ n ≤ 1000000) := ⟨hn, hl⟩
  have HA : Hid (EntsA w A a L ∧ ∀ g, A g → g < w.heap.size) := ⟨ha, hA⟩
  have HLW : Hid (Bt.LW L) := hLW
  have HER : Hid (er = Bt.derr x id L) := her
  obtain ⟨i2, hi2, hx0, hx1, hx2⟩ := info_parts ent_info2
  rw [← hn]
  clear hL2 hn ha hl hv b1 hb1 hA hEA hfew hfl hfa hke hhs her hLW
  obtain ⟨i1, hi1, hy0, hy1, hy2⟩ := info_parts insU_info
  go_enter Tryz.func29, Tryz.ntmps29
  go_upto_region 1 with fail
  rw [← hw1, ← hB]
  have zb := (HD.out _ (Below.refl _ _)).2
  have z0 := cells_at zb 0 _ rfl
  have z1 := cells_at zb 1 _ rfl
  have z2 := cells_at zb 2 _ rfl
  have z3 := cells_at zb 3 _ rfl
  have z4 := cells_at zb 4 _ rfl
  have z5 := cells_at zb 5 _ rfl
  clear hw1 hB zb
  go_wp2_with fail
  refine (CK.out _ (HD.out _ (Below.refl _ _)).1).mono ?_
  rintro ex w1a ⟨rfl, hb1a⟩
  have HB1 : Hid (Below w1.heap.size w1 w1a) := hb1a
  clear hb1a z0 z1 z2 z3 z4 z5 CK
  by_cases hk0 : ke = 0
  · subst hk0
    have zb := (HD.out _ HB1.out).2
    have z0 := cells_at zb 0 _ rfl
    have z1 := cells_at zb 1 _ rfl
    have z2 := cells_at zb 2 _ rfl
    have z3 := cells_at zb 3 _ rfl
    have z4 := cells_at zb 4 _ rfl
    have z5 := cells_at zb 5 _ rfl
    clear zb
    go_wp2_with fail
    refine (CF.out _ (HD.out _ HB1.out).1).mono ?_
    rintro ex w2 ⟨fi, fm, fcap, rfl, rfl, hfN, hb1b⟩
    have HB3 : Hid (Below w1.heap.size w1 w2) := HB1.out.trans (hb1b.mono HB1.out.size)
    have HFN : Hid (NumsAt w2 fi (Bt.lids x L)) := hfN
    clear hfN hb1b z0 z1 z2 z3 z4 z5 CF
    go_wp2_with fail
    refine (CH.out w2 fi fcap HFN.out).mono ?_
    rintro ex w1c ⟨rfl, hw1c⟩
    obtain rfl : w2 = w1c := hw1c.symm
    clear CH HFN
    cases hs with
    | false =>
      have HE : Hid (7 = er) := by show _ = _; rw [HP.out]; rfl
      go_wp2
      go_ret2
      exact HERR.out 7 HE.out (by decide) _ (HD.out _ HB3.out).1
    | true =>
      have HE : Hid (Bt.derr x id L = 0) := by show _ = _; rw [← HER.out, HP.out]; rfl
      have HST : Hid (EO w2 A [] (.slice none 0 0) w2) := EO.start w2 fun g hg => Nat.lt_of_lt_of_le (HA.out.2 g hg) (HD.out _ HB3.out).1.size
      have HD2 : Hid (∀ W, Below w2.heap.size w2 W → Below w.heap.size w W ∧ W.heap[B]? = some (.cells #[.int .u8 (qk : Int), .bool qb, .int .i64 qn, .string qs, .slice qa ql qc, .slice qf qm qd] 27 (0, 0))) := fun W hW => HD.out W (HB3.out.trans (hW.mono HB3.out.size))
      have HFIN : Hid (∀ (K : Bt.KL) (lv : Value) (W : World), EO w2 A K lv W → K = Bt.ldrop x id L → EntR w A L2 er (.returned (.tuple #[lv, .int .i64 0])) W) := fun K lv W h e => by
        obtain ⟨a', c', rfl⟩ := h.form
        obtain ⟨_, hE⟩ := h.done
        have b2 := (HD.out _ HB3.out).1
        have bW := (HD2.out W h.below).1
        rw [HL2.out, HE.out, if_pos rfl, ← e, HER.out, HE.out]
        refine ⟨a', _, c', rfl, rfl, hE.stays (fun _ _ => rfl) fun g hg => ?_, bW⟩
        rcases hg with q | q
        · exact .inl q
        · exact .inr ⟨Nat.le_trans b2.size q.1, q.2⟩
      clear HERR
      go_wp2_with fail
      go_loopw [9, 33] (fun o i wr => ∃ (j : Nat) (lv : Value), lv = o ∧ i = .int .i64 (j : Int) ∧ j ≤ n ∧ EO w2 A (Bt.ldrop x id (L.take j)) lv wr) (fun _ i _ => n - (intOf i).toNat)
      case atStart => exact ⟨0, _, rfl, rfl, by omega, HST.out⟩
      case round =>
        clear HST
        obtain ⟨j, lv, hlv, rfl, hj, hrn⟩ := hrel
        subst hlv
        obtain ⟨ll, hll⟩ : ∃ ll, ll = (Bt.ldrop x id (L.take j)).length := ⟨_, rfl⟩
        have HR : Hid (EO w2 A (Bt.ldrop x id (L.take j)) lv wr ∧ ll = (Bt.ldrop x id (L.take j)).length ∧ ll ≤ j + 1) := ⟨hrn, hll, by rw [hll]; have h1 := Bt.ldrop_length x id (L.take j); rw [List.length_take] at h1; omega⟩
        clear hrn hll
        obtain ⟨cs, r1, r2, r3⟩ := HR.out.1.row
        have HROW : Hid (cs.length = (Bt.ldrop x id (L.take j)).length ∧ wr.ownsRow w2.heap.size 49 7 lv (Bt.ldrop x id (L.take j)).length cs.flatten ∧ (∀ (j' : Nat) (p : V × List Nat) (c : List Value), (Bt.ldrop x id (L.take j))[j']? = some p → cs[j']? = some c → EntV wr (OA A w2.heap.size lv wr) p c)) := ⟨r1, r2, r3⟩
        clear r1 r2 r3
        have HOW0 : Hid (∀ W, Below wr.heap.size wr W → W.ownsRow w2.heap.size 49 7 lv ll cs.flatten) := fun W hW => by
          have := own_call HROW.out.2.1 hW
          rw [← HR.out.2.1] at this
          exact this
        have fit63 : Hid (ll + 1 ≤ maxLen) := by show _ ≤ _; have := HR.out.2.2; have := HN.out; unfold maxLen; omega
        have fit47 : Hid ((ll + 1) * 104 ≤ 140737488355328) := by show _ ≤ _; have := HR.out.2.2; have := HN.out; omega
        by_cases hjn : j = n
        · subst hjn
          have q0 : ¬ (j : Int) < (j : Int) := by omega
          have E : Hid (Bt.ldrop x id (L.take j) = Bt.ldrop x id L) := by
            show _ = _
            rw [HN.out.1, List.take_length]
          go_wp2
          go_ret2
          exact HFIN.out _ _ _ HR.out.1 E.out
        · have hlt : j < n := by omega
          have q0 : (j : Int) < (n : Int) := by omega
          have q1 : (0 : Int) ≤ (j : Int) := by omega
          have HBL : Hid (Below w.heap.size w wr) := (HD2.out _ HR.out.1.below).1
          obtain ⟨p, hp⟩ : ∃ p, L[j]? = some p := ⟨_, List.getElem?_eq_getElem (by have := HN.out; omega)⟩
          obtain ⟨g, cs', rfl, hAg, hEV, hcell⟩ := HA.out.1 j p hp
          obtain ⟨k0, k1, k2, k3, k4, k5, pi, cap, rfl, hRA, hNA⟩ := hEV
          have hEV : EntV w A p [k0, k1, k2, k3, k4, k5, .slice pi p.2.length cap] := ⟨k0, k1, k2, k3, k4, k5, pi, cap, rfl, hRA, hNA⟩
          obtain ⟨kk0, kk1, kk2, kk3, kk4, kk5, ky0, ky1, kz0, kz1, f0, f1, f2, f3, f4, f5⟩ := rep_form (repA_rep HA.out.2 _ _ hRA)
          subst f0 f1 f2 f3 f4 f5
          obtain ⟨ln, hln⟩ : ∃ ln, ln = p.2.length := ⟨_, rfl⟩
          obtain ⟨o, ho⟩ : ∃ o, o = j * 7 := ⟨_, rfl⟩
          rw [← hln] at hEV hcell
          rw [← ho] at hcell
          have cl := fun o => (HBL.out).cell (p := ⟨g, o, none⟩) (HA.out.2 g hAg)
          have hcell0 := hcell 0 _ rfl
          rw [Nat.add_zero] at hcell0
          have a0 := (cl _).trans hcell0
          have a1 := (cl _).trans (hcell 1 _ rfl)
          have a2 := (cl _).trans (hcell 2 _ rfl)
          have a3 := (cl _).trans (hcell 3 _ rfl)
          have a4 := (cl _).trans (hcell 4 _ rfl)
          have a5 := (cl _).trans (hcell 5 _ rfl)
          have a6 := (cl _).trans (hcell 6 _ rfl)
          have ho' := ho.symm
          obtain ⟨j1, hj1⟩ : ∃ j1, j1 = j + 1 := ⟨_, rfl⟩
          have HVV : Hid (IntKind.i64.wrap ((j : Int) + 1) = (j1 : Int) ∧ wrap64 ((j : Int) + 1) = (j1 : Int)) := succs hj1 (by have := HN.out; omega)
          obtain ⟨c, hc⟩ : ∃ c, c = Vl.cmp p.1 x := ⟨_, rfl⟩
          have HJ : Hid (j1 = j + 1 ∧ j < n ∧ L[j]? = some p ∧ ln = p.2.length ∧ c = Vl.cmp p.1 x ∧ ln ≤ 1000000 ∧ 1 ≤ ln) := ⟨hj1, hlt, hp, hln, hc, by rw [hln]; have := HLW.out.few (List.mem_of_getElem? hp); omega, by rw [hln]; exact (HLW.out.asc p (List.mem_of_getElem? hp)).2⟩
          have CC : Hid (∀ W, Below w.heap.size w W → Calls Tryz.prog 21 #[.agg #[.int .u8 (kk0 : Int), .bool kk1, .int .i64 kk2, .string kk3, .slice kk4 kk5 ky0, .slice ky1 kz0 kz1], .agg #[.int .u8 (qk : Int), .bool qb, .int .i64 qn, .string qs, .slice qa ql qc, .slice qf qm qd]] W fun e w' => e = .returned (.int .i64 c) ∧ Below W.heap.size W w') := fun W hW => by
            rw [hc]; exact HC.out p _ W hW (repA_rep HA.out.2 _ _ hRA)
          have HEVW : Hid (∀ W (Z : Nat → Prop), Below w.heap.size w W → EntV W (fun g => A g ∨ Z g) p [.int .u8 (kk0 : Int), .bool kk1, .int .i64 kk2, .string kk3, .slice kk4 kk5 ky0, .slice ky1 kz0 kz1, .slice pi ln cap]) := fun W Z hW => hEV.stays (fun g hg => hW.block g (HA.out.2 g hg)) fun g hg => .inl hg
          have HRK : Hid (RepA w A p.1 (.agg #[.int .u8 (kk0 : Int), .bool kk1, .int .i64 kk2, .string kk3, .slice kk4 kk5 ky0, .slice ky1 kz0 kz1]) ∧ NumsA w A pi p.2) := ⟨hRA, hNA⟩
          clear hEV hRA hNA hcell hcell0 cl hAg hp hln ho hj1 hjn hj hlt hc
          go_upto_region 10 with fail
          obtain ⟨w3, hw3⟩ : ∃ w3, w3 = wr.alloc (.cells #[.int .u8 (kk0 : Int), .bool kk1, .int .i64 kk2, .string kk3, .slice kk4 kk5 ky0, .slice ky1 kz0 kz1, .slice pi ln cap] 49) := ⟨_, rfl⟩
          have n1 := by have := heap_alloc_new wr (.cells #[.int .u8 (kk0 : Int), .bool kk1, .int .i64 kk2, .string kk3, .slice kk4 kk5 ky0, .slice ky1 kz0 kz1, .slice pi ln cap] 49); rw [← hw3] at this; exact this
          have n2 : Below wr.heap.size wr w3 := by rw [hw3]; exact below_new _ _
          rw [← hw3]
          obtain ⟨X, hX⟩ : ∃ X, X = wr.heap.size := ⟨_, rfl⟩
          rw [← hX] at n1 ⊢
          have hne : lv.ownBlock ≠ some X := fun q => by
            have h1 := (EO.own_lt HROW.out.2.1 X q).2
            omega
          have HB3b : Hid (Below wr.heap.size wr w3 ∧ w3.heap[X]? = some (.cells #[.int .u8 (kk0 : Int), .bool kk1, .int .i64 kk2, .string kk3, .slice kk4 kk5 ky0, .slice ky1 kz0 kz1, .slice pi ln cap] 49 (0, 0)) ∧ lv.ownBlock ≠ some X ∧ X = wr.heap.size) := ⟨n2, n1, hne, hX⟩
          have y0 := cells_at n1 0 _ rfl
          have y1 := cells_at n1 1 _ rfl
          have y2 := cells_at n1 2 _ rfl
          have y3 := cells_at n1 3 _ rfl
          have y4 := cells_at n1 4 _ rfl
          have y5 := cells_at n1 5 _ rfl
          have zb := (HD2.out _ (HR.out.1.below.trans (n2.mono HR.out.1.below.size))).2
          have z0 := cells_at zb 0 _ rfl
          have z1 := cells_at zb 1 _ rfl
          have z2 := cells_at zb 2 _ rfl
          have z3 := cells_at zb 3 _ rfl
          have z4 := cells_at zb 4 _ rfl
          have z5 := cells_at zb 5 _ rfl
          have HW3 : Hid (Below w.heap.size w w3) := HBL.out.trans (n2.mono HBL.out.size)
          clear n2 hw3 n1 zb hX hne
          go_wp2_with fail
          refine (CC.out _ HW3.out).mono ?_
          rintro ex w4 ⟨rfl, hb4⟩
          have HB4 : Hid (Below wr.heap.size wr w4 ∧ w4.heap[X]? = some (.cells #[.int .u8 (kk0 : Int), .bool kk1, .int .i64 kk2, .string kk3, .slice kk4 kk5 ky0, .slice ky1 kz0 kz1, .slice pi ln cap] 49 (0, 0)) ∧ X < w4.heap.size) := ⟨HB3b.out.1.trans (hb4.mono HB3b.out.1.size), (hb4.block _ (lt_of_row HB3b.out.2.1)).trans HB3b.out.2.1, Nat.lt_of_lt_of_le (lt_of_row HB3b.out.2.1) hb4.size⟩
          have HW4 : Hid (Below w.heap.size w w4) := HW3.out.trans (hb4.mono HW3.out.size)
          clear hb4 y0 y1 y2 y3 y4 y5 z0 z1 z2 z3 z4 z5 a0 a1 a2 a3 a4 a5 a6
          by_cases hc0 : c = 0
          · have qc : (c == 0) = true := by simp [hc0]
            have E0 : Hid (Bt.ldrop x id (L.take j1) = Bt.ldrop x id (L.take j) ++ if 0 < (Bt.nrem id p.2).length then [(p.1, Bt.nrem id p.2)] else []) := by
              show _ = _
              rw [HJ.out.1]
              exact Bt.ldrop_hit HJ.out.2.2.1 (by rw [← HJ.out.2.2.2.2.1]; exact hc0)
            have y6 := cells_at HB4.out.2.1 6 _ rfl
            have HII : Hid (∀ (k y : Nat), p.2[k]? = some y → ∃ gi, pi = some ⟨gi, 0, none⟩ ∧ ∀ W, Below w.heap.size w W → W.cell? ⟨gi, k, none⟩ = some (.int .u64 (y : Int))) := fun k y hy => by
              obtain ⟨gi, e1, e2, e3⟩ := HRK.out.2 k y hy
              exact ⟨gi, e1, fun W hW => (hW.cell (p := ⟨gi, k, none⟩) (HA.out.2 gi e2)).trans e3⟩
            have hlb : ln ≤ 1000000 := HJ.out.2.2.2.2.2.1
            obtain ⟨wB, hwB⟩ : ∃ wB, wB = wr := ⟨_, rfl⟩
            subst hwB
            subst hc0
            clear qc
            go_wp2_with fail
            go_loopw [12, 45] (fun o i wr => ∃ (k : Nat) (lv2 : Value), lv2 = o ∧ i = .int .i64 (k : Int) ∧ k ≤ ln ∧ NO w4 (Bt.nrem id (p.2.take k)) lv2 wr) (fun _ i _ => ln - (intOf i).toNat)
            case atStart => exact ⟨0, _, rfl, rfl, by omega, NO.start w4⟩
            case round =>
              obtain ⟨k, lv2, hlv2, rfl, hk, hno⟩ := hrel
              subst hlv2
              obtain ⟨mm, hmm⟩ : ∃ mm, mm = (Bt.nrem id (p.2.take k)).length := ⟨_, rfl⟩
              have HI : Hid (NO w4 (Bt.nrem id (p.2.take k)) lv2 wr ∧ mm = (Bt.nrem id (p.2.take k)).length ∧ mm ≤ k) := ⟨hno, hmm, by rw [hmm]; have h1 := Bt.nrem_length id (p.2.take k); rw [List.length_take] at h1; omega⟩
              have HWI : Hid (Below w.heap.size w wr) := HW4.out.trans (hno.below.mono HW4.out.size)
              clear hno hmm
              by_cases hkn : k = ln
              · subst hkn
                have q0 : ¬ (k : Int) < (k : Int) := by omega
                have hNN : NO w4 (Bt.nrem id p.2) lv2 wr := by
                  have := HI.out.1
                  rw [HJ.out.2.2.2.1, List.take_length] at this
                  exact this
                obtain ⟨a2, c2, e2, hna⟩ := hNN.done
                subst e2
                obtain ⟨m2, hm2⟩ : ∃ m2, m2 = (Bt.nrem id p.2).length := ⟨_, rfl⟩
                rw [← hm2]
                have HNB : Hid (Below w4.heap.size w4 wr) := hNN.below
                have HNA : Hid (NumsA wr (fun g => w4.heap.size ≤ g ∧ g < wr.heap.size) a2 (Bt.nrem id p.2)) := hna
                have fz := row_freeV ((HNB.out.block _ HB4.out.2.2).trans HB4.out.2.1)
                clear y6
                have y6 := cells_at ((HNB.out.block _ HB4.out.2.2).trans HB4.out.2.1) 6 _ rfl
                have HM2 : Hid (m2 = (Bt.nrem id p.2).length) := hm2
                clear hna hm2 hNN HI
                go_upto_region 19 with fail
                obtain ⟨w6, hw6⟩ : ∃ w6, w6 = wr.setCell ⟨X, 6, none⟩ (.slice a2 m2 c2) := ⟨_, rfl⟩
                have h6 : w6.heap[X]? = some (.cells #[.int .u8 (kk0 : Int), .bool kk1, .int .i64 kk2, .string kk3, .slice kk4 kk5 ky0, .slice ky1 kz0 kz1, .slice a2 m2 c2] 49 (0, 0)) := by
                  rw [hw6]; exact heap_setCell_same wr X 6 _ 49 _ ((HNB.out.block _ HB4.out.2.2).trans HB4.out.2.1)
                have HV6 : Hid (Below wB.heap.size wB w6 ∧ EntV w6 (fun g => A g ∨ (wB.heap.size ≤ g ∧ g < w6.heap.size)) (p.1, Bt.nrem id p.2) [.int .u8 (kk0 : Int), .bool kk1, .int .i64 kk2, .string kk3, .slice kk4 kk5 ky0, .slice ky1 kz0 kz1, .slice a2 m2 c2] ∧ w2.heap.size ≤ (w6.alloc (.cells #[.int .u8 (kk0 : Int), .bool kk1, .int .i64 kk2, .string kk3, .slice kk4 kk5 ky0, .slice ky1 kz0 kz1, .slice a2 m2 c2] 49)).heap.size) := by
                  have b5 : Below wB.heap.size wB wr := HB4.out.1.trans (HNB.out.mono HB4.out.1.size)
                  have b6 : Below wB.heap.size wB w6 := by rw [hw6]; exact b5.setCell (p := ⟨X, 6, none⟩) (by show wB.heap.size ≤ X; have := HB3b.out.2.2.2; omega) _
                  have s6 : w6.heap.size = wr.heap.size := by rw [hw6]; simp
                  have s0 := HBL.out.size
                  have s1 := HR.out.1.below.size
                  have s2 := b6.size
                  have s4 := HB4.out.1.size
                  refine ⟨b6, ⟨_, _, _, _, _, _, a2, c2, by rw [← HM2.out], repA_stays (fun g hg => ?_) (fun g hg => .inl hg) _ _ HRK.out.1, HNA.out.stays (fun g hg => ?_) fun g hg => .inr ⟨by omega, by omega⟩⟩, by simp; omega⟩
                  · exact (HBL.out.trans (b6.mono s0)).block g (HA.out.2 g hg)
                  · rw [hw6]
                    exact heap_setCell_other _ _ _ _ (show g ≠ X by have := HB4.out.2.2; omega)
                rw [← hw6]
                have HOWN : Hid (w6.ownsRow w2.heap.size 49 7 lv ll cs.flatten) := HOW0.out _ HV6.out.1
                have y0 := cells_at h6 0 _ rfl
                have y1 := cells_at h6 1 _ rfl
                have y2 := cells_at h6 2 _ rfl
                have y3 := cells_at h6 3 _ rfl
                have y4 := cells_at h6 4 _ rfl
                have y5 := cells_at h6 5 _ rfl
                clear y6 fz
                have y6 := cells_at h6 6 _ rfl
                clear hw6 h6 HNA
                by_cases hm0 : 0 < m2
                · have qm : (0 : Int) < (m2 : Int) := by omega
                  have E : Hid (Bt.ldrop x id (L.take j1) = Bt.ldrop x id (L.take j) ++ [(p.1, Bt.nrem id p.2)]) := by
                    show _ = _
                    rw [E0.out, if_pos (by rw [← HM2.out]; exact hm0)]
                  clear hm0
                  obtain ⟨v1, v2⟩ := HVV.out
                  go_wp2_with (at_builtin; refine wpList_append_lies _ rfl _ _ 22 rfl w2.heap.size 49 i2 _ 7 104 Tryz.underlying22 hi2 hx0 hx1 hx2 rfl (by decide) _ _ _ rfl (HOWN.out.alloc _) ⟨w6.heap.size, 0, none⟩ 1 1 [.int .u8 (kk0 : Int), .bool kk1, .int .i64 kk2, .string kk3, .slice kk4 kk5 ky0, .slice ky1 kz0 kz1, .slice a2 m2 c2] rfl rfl (World.news_of_block (heap_alloc_new w6 _)) (by intro u hu; simp at hu; rcases hu with rfl | rfl | rfl | rfl | rfl | rfl | rfl <;> rfl) (by decide) fit63.out fit47.out HV6.out.2.2 _ rfl ?_; intro gg capn w7 hown5 hgrow hat hglt; (have S5 : Hid (EO w2 A (Bt.ldrop x id (L.take j1)) (.slice (some ⟨gg, 0, none⟩) (ll + 1) capn) w7) := by (rw [E.out]; exact HR.out.1.app2 HR.out.2.1 HROW.out HV6.out.1 HV6.out.2.1 hgrow hat hown5)); clear hown5 hgrow hat hglt)
                  clear v1 v2
                  go_roundw
                  case rel => first | exact ⟨j1, _, rfl, rfl, by have := HJ.out; omega, S5.out⟩ | ((repeat apply Exists.intro); exact ⟨⟨j1, _, rfl, rfl, by have := HJ.out; omega, S5.out⟩, rfl⟩)
                  case measure =>
                    simp only [intOf]
                    have := HJ.out
                    omega
                · obtain rfl : m2 = 0 := by omega
                  have qm : ¬ (0 : Int) < ((0 : Nat) : Int) := by omega
                  have E : Hid (Bt.ldrop x id (L.take j1) = Bt.ldrop x id (L.take j)) := by
                    show _ = _
                    rw [E0.out, if_neg (by rw [← HM2.out]; exact hm0), List.append_nil]
                  have S5 : Hid (EO w2 A (Bt.ldrop x id (L.take j1)) lv w6) := by
                    rw [E.out]
                    exact HR.out.1.call HV6.out.1
                  clear hm0
                  obtain ⟨v1, v2⟩ := HVV.out
                  go_wp2
                  clear v1 v2
                  go_roundw
                  case rel => first | exact ⟨j1, _, rfl, rfl, by have := HJ.out; omega, S5.out⟩ | ((repeat apply Exists.intro); exact ⟨⟨j1, _, rfl, rfl, by have := HJ.out; omega, S5.out⟩, rfl⟩)
                  case measure =>
                    simp only [intOf]
                    have := HJ.out
                    omega
              · have q2 : (k : Int) < (ln : Int) := by omega
                have q3 : (0 : Int) ≤ (k : Int) := by omega
                obtain ⟨y, hy⟩ : ∃ y, p.2[k]? = some y := ⟨_, List.getElem?_eq_getElem (by have := HJ.out; omega)⟩
                obtain ⟨gi, rfl, hci⟩ := HII.out k y hy
                have ci := hci _ HWI.out
                obtain ⟨k1, hk1⟩ : ∃ k1, k1 = k + 1 := ⟨_, rfl⟩
                have HUU : Hid (IntKind.i64.wrap ((k : Int) + 1) = (k1 : Int) ∧ wrap64 ((k : Int) + 1) = (k1 : Int)) := succs hk1 (by omega)
                have HK1 : Hid (k1 = k + 1 ∧ k < ln ∧ ln ≤ 1000000) := ⟨hk1, by omega, hlb⟩
                have EJ : Hid (Bt.nrem id (p.2.take k1) = Bt.nrem id (p.2.take k) ++ if y = id then [] else [y]) := by
                  show _ = _
                  rw [hk1]; exact Bt.nrem_take hy
                clear hy hk1 hk hkn hci
                by_cases hyi : y = id
                · subst hyi
                  have EI : Hid (NO w4 (Bt.nrem y (p.2.take k1)) lv2 wr) := by
                    rw [EJ.out, if_pos rfl, List.append_nil]
                    exact HI.out.1
                  obtain ⟨u1, u2⟩ := HUU.out
                  go_wp2
                  clear u1 u2
                  go_roundw
                  case rel => first | exact ⟨k1, _, rfl, rfl, by have := HK1.out; omega, EI.out⟩ | ((repeat apply Exists.intro); exact ⟨⟨k1, _, rfl, rfl, by have := HK1.out; omega, EI.out⟩, rfl⟩)
                  case measure =>
                    simp only [intOf]
                    have := HK1.out
                    omega
                · have qy : ((y : Int) != (id : Int)) = true := by simp; omega
                  have qy2 : ¬ ((y : Int) = (id : Int)) := by omega
                  have EI : Hid (Bt.nrem id (p.2.take k1) = Bt.nrem id (p.2.take k) ++ [y]) := by
                    show _ = _
                    rw [EJ.out, if_neg hyi]
                  have HOWI : Hid (wr.ownsRow w4.heap.size 51 1 lv2 mm (Bt.nums (Bt.nrem id (p.2.take k)))) := by
                    have := HI.out.1.row
                    rw [← HI.out.2.1] at this
                    exact this
                  have fit63i : Hid (mm + 1 ≤ maxLen) := by show _ ≤ _; have := HI.out.2.2; have := HK1.out; unfold maxLen; omega
                  have fit47i : Hid ((mm + 1) * 8 ≤ 140737488355328) := by show _ ≤ _; have := HI.out.2.2; have := HK1.out; omega
                  have HSZI : Hid (w4.heap.size ≤ (wr.alloc (.cells #[.int .u64 (y : Int)] 51)).heap.size) := by have := HI.out.1.below.size; show _ ≤ _; simp; omega
                  clear hyi
                  obtain ⟨u1, u2⟩ := HUU.out
                  go_wp2_with (at_builtin; refine wpList_append_lies _ rfl _ _ 38 rfl w4.heap.size 51 i1 _ 1 8 Tryz.underlying38 hi1 hy0 hy1 hy2 rfl (by decide) _ _ _ rfl (HOWI.out.alloc _) ⟨wr.heap.size, 0, none⟩ 1 1 [.int .u64 (y : Int)] rfl rfl (World.news_of_block (heap_alloc_new wr _)) (by intro u hu; simp at hu; subst hu; rfl) (by decide) fit63i.out fit47i.out HSZI.out _ rfl ?_; intro gg capn w7 hown5 hgrow hat hglt; (have S5 : Hid (NO w4 (Bt.nrem id (p.2.take k1)) (.slice (some ⟨gg, 0, none⟩) (mm + 1) capn) w7) := by (rw [EI.out]; exact HI.out.1.app' HI.out.2.1 hgrow hown5)); clear hown5 hgrow hat hglt)
                  clear u1 u2
                  go_roundw
                  case rel => first | exact ⟨k1, _, rfl, rfl, by have := HK1.out; omega, S5.out⟩ | ((repeat apply Exists.intro); exact ⟨⟨k1, _, rfl, rfl, by have := HK1.out; omega, S5.out⟩, rfl⟩)
                  case measure =>
                    simp only [intOf]
                    have := HK1.out
                    omega
          · have qc : (c == 0) = false := by simp [hc0]
            have y0 := cells_at HB4.out.2.1 0 _ rfl
            have y1 := cells_at HB4.out.2.1 1 _ rfl
            have y2 := cells_at HB4.out.2.1 2 _ rfl
            have y3 := cells_at HB4.out.2.1 3 _ rfl
            have y4 := cells_at HB4.out.2.1 4 _ rfl
            have y5 := cells_at HB4.out.2.1 5 _ rfl
            have y6 := cells_at HB4.out.2.1 6 _ rfl
            have HOWN : Hid (w4.ownsRow w2.heap.size 49 7 lv ll cs.flatten) := HOW0.out _ HB4.out.1
            have HSZ : Hid (w2.heap.size ≤ (w4.alloc (.cells #[.int .u8 (kk0 : Int), .bool kk1, .int .i64 kk2, .string kk3, .slice kk4 kk5 ky0, .slice ky1 kz0 kz1, .slice pi ln cap] 49)).heap.size) := by
              have := HB4.out.1.size
              have := HR.out.1.below.size
              show _ ≤ _
              simp
              omega
            have E : Hid (Bt.ldrop x id (L.take j1) = Bt.ldrop x id (L.take j) ++ [p]) := by
              show _ = _
              rw [HJ.out.1]
              exact Bt.ldrop_miss HJ.out.2.2.1 (by rw [← HJ.out.2.2.2.2.1]; exact hc0) (by have := HJ.out; omega)
            have qm : (0 : Int) < (ln : Int) := by have := HJ.out; omega
            have HC0 : Hid (c ≠ 0) := hc0
            clear hc0
            obtain ⟨v1, v2⟩ := HVV.out
            go_wp2_with (at_builtin; refine wpList_append_lies _ rfl _ _ 22 rfl w2.heap.size 49 i2 _ 7 104 Tryz.underlying22 hi2 hx0 hx1 hx2 rfl (by decide) _ _ _ rfl (HOWN.out.alloc _) ⟨w4.heap.size, 0, none⟩ 1 1 [.int .u8 (kk0 : Int), .bool kk1, .int .i64 kk2, .string kk3, .slice kk4 kk5 ky0, .slice ky1 kz0 kz1, .slice pi ln cap] rfl rfl (World.news_of_block (heap_alloc_new w4 _)) (by intro u hu; simp at hu; rcases hu with rfl | rfl | rfl | rfl | rfl | rfl | rfl <;> rfl) (by decide) fit63.out fit47.out HSZ.out _ rfl ?_; intro gg capn w7 hown5 hgrow hat hglt; (have S5 : Hid (EO w2 A (Bt.ldrop x id (L.take j1)) (.slice (some ⟨gg, 0, none⟩) (ll + 1) capn) w7) := by (rw [E.out]; exact HR.out.1.app2 HR.out.2.1 HROW.out HB4.out.1 (HEVW.out _ _ HW4.out) hgrow hat hown5)); clear hown5 hgrow hat hglt)
            clear v1 v2
            go_roundw
            case rel => first | exact ⟨j1, _, rfl, rfl, by have := HJ.out; omega, S5.out⟩ | ((repeat apply Exists.intro); exact ⟨⟨j1, _, rfl, rfl, by have := HJ.out; omega, S5.out⟩, rfl⟩)
            case measure =>
              simp only [intOf]
              have := HJ.out
              omega
  · have q1 : ((ke : Int) != 0) = true := by simp; omega
    have q2 : ¬ ((ke : Int) = 0) := by omega
    have q3 : ((ke : Int) == 0) = false := by simp; omega
    have HE : Hid (ke = er) := by show _ = _; rw [HP.out, if_pos hk0]
    clear hk0
    go_wp2
    go_ret2
    exact HERR.out ke HE.out (by intro q; apply q2; rw [q]; rfl) _ (HD.out _ HB1.out).1
end Go.Proofs.YtkigenldiinioaaGreatDoor
