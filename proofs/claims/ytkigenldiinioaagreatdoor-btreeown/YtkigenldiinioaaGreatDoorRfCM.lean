/- The document's Put: walked. -/
import Derived.Test.YtkigenldiinioaaGreatDoorQ36M
import Derived.Test.YtkigenldiinioaaGreatDoorBinRChkM
namespace Go.Proofs.YtkigenldiinioaaGreatDoor
open Go.RowKit
open Vl (V)
attribute [local go_sem ↓] Go.wp_at_zero Go.wp_at_succ
/-- entries that were handed back, with an error -/
def EntR (w : World) (A : Nat → Prop) (L : Bt.KL) (err : Nat) (e : Ending) (w' : World) : Prop := ∃ a n c, e = .returned (.tuple #[.slice a n c, .int .i64 (err : Int)]) ∧ n = L.length ∧ EntsA w' (fun g => A g ∨ (w.heap.size ≤ g ∧ g < w'.heap.size)) a L ∧ Below w.heap.size w w'
section
variable {w W W4 W5 : World} {A : Nat → Prop} {L : Bt.KL} {lv : Value} {p : V × List Nat} {c : List Value}
/-- one more entry, appended -/
theorem EO.app {cs : List (List Value)} {gg cap ll : Nat} (h : EO w A L lv W) (hll : ll = L.length) (h1 : cs.length = L.length) (h2 : W.ownsRow w.heap.size 49 7 lv L.length cs.flatten) (h3 : ∀ (j : Nat) (p : V × List Nat) (c : List Value), L[j]? = some p → cs[j]? = some c → EntV W (OA A w.heap.size lv W) p c)
    (hE : EntV W4 (fun g => A g ∨ (W.heap.size ≤ g ∧ g < W4.heap.size)) p c) (h4 : Below W.heap.size W W4) (hg : W4.grownBy W5 lv.ownBlock) (hat : lv.ownBlock = some gg ∨ gg = W4.heap.size) (ho : W5.ownsRow w.heap.size 49 7 (.slice (some ⟨gg, 0, none⟩) (ll + 1) cap) (ll + 1) (cs.flatten ++ c)) : EO w A (L ++ [p]) (.slice (some ⟨gg, 0, none⟩) (ll + 1) cap) W5 := by
  subst hll
  have s := h.below.size
  refine h.next h1 h2 h3 (hE.stays (fun _ _ => rfl) fun g hg' => ?_) h4 hg ?_ ho
  · rcases hg' with q | q
    · exact .inl q
    · exact .inr ⟨by omega, q.2, fun e => by have := (EO.own_lt h2 g e).2; omega⟩
  · rcases hat with q | q
    · left; rw [q]; rfl
    · right; rw [q]; rfl
/-- one more entry, appended behind calls -/
theorem EO.app2 {W0 : World} {cs : List (List Value)} {gg cap ll : Nat} {cc : Array Value} (h : EO w A L lv W0) (hll : ll = L.length) (hr : cs.length = L.length ∧ W0.ownsRow w.heap.size 49 7 lv L.length cs.flatten ∧ ∀ (j : Nat) (p : V × List Nat) (c : List Value), L[j]? = some p → cs[j]? = some c → EntV W0 (OA A w.heap.size lv W0) p c) (hW : Below W0.heap.size W0 W)
    (hE : EntV W (fun g => A g ∨ (W0.heap.size ≤ g ∧ g < W.heap.size)) p c) (hg : (W.alloc (.cells cc 49)).grownBy W5 lv.ownBlock) (hat : lv.ownBlock = some gg ∨ gg = (W.alloc (.cells cc 49)).heap.size) (ho : W5.ownsRow w.heap.size 49 7 (.slice (some ⟨gg, 0, none⟩) (ll + 1) cap) (ll + 1) (cs.flatten ++ c)) : EO w A (L ++ [p]) (.slice (some ⟨gg, 0, none⟩) (ll + 1) cap) W5 := by
  have s1 := h.below.size
  have s2 := hW.size
  refine h.app hll hr.1 hr.2.1 hr.2.2 (hE.stays (fun g hg => (below_new W _).block g ?_) fun g hg => ?_) (hW.trans ((below_new W _).mono hW.size)) hg hat ho
  · rcases hg with q | q
    · have := h.lt g q; omega
    · exact q.2
  · rcases hg with q | q
    · exact .inl q
    · exact .inr ⟨q.1, Nat.lt_of_lt_of_le q.2 (below_new W _).size⟩
/-- an entry's own box, while a row grows -/
theorem box_grown {X : Nat} {o : Obj} (hX : W4.heap[X]? = some o) (hg : W4.grownBy W5 lv.ownBlock) (hne : lv.ownBlock ≠ some X) : W5.heap[X]? = some o := (hg.block X (lt_of_row hX) fun e => hne e.symm).trans hX
end
theorem new_next (w : World) (o : Obj) (cs : Array Value) : ((w.alloc o).alloc (.cells cs 49)).heap[w.heap.size + 1]? = some (.cells cs 49 (0, 0)) := by
  have := heap_alloc_new (w.alloc o) (.cells cs 49)
  rw [show (w.alloc o).heap.size = w.heap.size + 1 by simp] at this
  exact this
/-- a new key with its number, in memory of its own -/
theorem newent_of {w2 wr w4 : World} {A : Nat → Prop} {x : V} {id : Nat} {c0 c1 c2 c3 c4 c5 : Value} (hb : Below w2.heap.size w2 wr) (h4 : Below wr.heap.size wr w4) (hr : RepA w4 (fun g => wr.heap.size ≤ g ∧ g < w4.heap.size) x (.agg #[c0, c1, c2, c3, c4, c5])) :
    Hid (Below wr.heap.size wr (w4.alloc (.cells #[.int .u64 (id : Int)] 51)) ∧ EntV (w4.alloc (.cells #[.int .u64 (id : Int)] 51)) (fun g => A g ∨ (wr.heap.size ≤ g ∧ g < (w4.alloc (.cells #[.int .u64 (id : Int)] 51)).heap.size)) (x, [id]) [c0, c1, c2, c3, c4, c5, .slice (some ⟨w4.heap.size, 0, none⟩) 1 1] ∧ w2.heap.size ≤ ((w4.alloc (.cells #[.int .u64 (id : Int)] 51)).alloc (.cells #[c0, c1, c2, c3, c4, c5, .slice (some ⟨w4.heap.size, 0, none⟩) 1 1] 49)).heap.size) := by
  have b5 := below_new w4 (.cells #[.int .u64 (id : Int)] 51)
  have s1 := hb.size
  have s4 := h4.size
  have s5 := b5.size
  refine ⟨h4.trans (b5.mono s4), ⟨c0, c1, c2, c3, c4, c5, _, 1, rfl, repA_stays (fun g hg => b5.block g hg.2) (fun g hg => .inr ⟨hg.1, by omega⟩) _ _ hr, fun m y hy => ?_⟩, by simp; omega⟩
  obtain rfl : m = 0 := by
    have := (List.getElem?_eq_some_iff.1 hy).1
    simp at this
    exact this
  simp at hy
  subst hy
  exact ⟨_, rfl, .inr ⟨s4, by simp⟩, cells_at (heap_alloc_new w4 _) 0 _ rfl⟩

/-- a new key with its number, behind other calls -/
theorem newent2 {w2 wr W w4 : World} {A : Nat → Prop} {x : V} {id : Nat} {c0 c1 c2 c3 c4 c5 : Value} (hb : Below w2.heap.size w2 wr) (hW : Below wr.heap.size wr W) (h4 : Below W.heap.size W w4) (hr : RepA w4 (fun g => W.heap.size ≤ g ∧ g < w4.heap.size) x (.agg #[c0, c1, c2, c3, c4, c5])) :
    Hid (Below wr.heap.size wr (w4.alloc (.cells #[.int .u64 (id : Int)] 51)) ∧ EntV (w4.alloc (.cells #[.int .u64 (id : Int)] 51)) (fun g => A g ∨ (wr.heap.size ≤ g ∧ g < (w4.alloc (.cells #[.int .u64 (id : Int)] 51)).heap.size)) (x, [id]) [c0, c1, c2, c3, c4, c5, .slice (some ⟨w4.heap.size, 0, none⟩) 1 1] ∧ w2.heap.size ≤ ((w4.alloc (.cells #[.int .u64 (id : Int)] 51)).alloc (.cells #[c0, c1, c2, c3, c4, c5, .slice (some ⟨w4.heap.size, 0, none⟩) 1 1] 49)).heap.size) := by
  have s := hW.size
  exact newent_of (A := A) hb (hW.trans (h4.mono s)) (repA_stays (fun _ _ => rfl) (fun g hg => ⟨by omega, hg.2⟩) _ _ hr)
theorem box_two {w4 w4b : World} {X : Nat} {o : Obj} (hX : w4.heap[X]? = some o) (h : Below w4.heap.size w4 w4b) {c d : Array Value} {t t2 : TypeId} : Hid (((w4b.alloc (.cells c t)).alloc (.cells d t2)).heap[X]? = some o) := by
  have h1 := lt_of_row hX
  have h2 := h.size
  have b1 := below_new w4b (.cells c t)
  have b2 := below_new (w4b.alloc (.cells c t)) (.cells d t2)
  have s1 := b1.size
  exact (b2.block X (by omega)).trans ((b1.block X (by omega)).trans ((h.block X h1).trans hX))
set_option maxHeartbeats 16000000 in
set_option maxRecDepth 100000 in
theorem rput_c (L : Bt.KL) (a : Option Addr) (ca : Nat) (w : World) (A : Nat → Prop) (x : V) (v : Value) (id : Nat) (hLW : Bt.LW L) (hA : ∀ g, A g → g < w.heap.size) (ha : EntsA w A a L) (hv : Rep w w.heap.size x v) :
    Calls Tryz.prog 27 #[.slice a L.length ca, v, .int .u64 (id : Int)] w (EntR w A (if Bt.perr x id L = 0 then Bt.lput x id L else L) (Bt.perr x id L)) := by
  obtain ⟨n, hn⟩ : ∃ n, n = L.length := ⟨_, rfl⟩
  have hl : n ≤ 1000000 := by have := hLW.len; omega
  have hfew : ∀ p ∈ L, p.2.length ≤ 1000000 := fun p hp => by have := hLW.few hp; omega
  have hEA := ha.at hA hfew
  obtain ⟨d0, d1, d2, d3, d4, d5, rfl⟩ := repV_box hv
  obtain ⟨qk, qb, qn, qs, qa, ql, qc, qf, qm, qd, f0, f1, f2, f3, f4, f5⟩ := rep_form hv
  subst f0 f1 f2 f3 f4 f5
  obtain ⟨w1, hw1⟩ : ∃ w1, w1 = w.alloc (.cells #[.int .u8 (qk : Int), .bool qb, .int .i64 qn, .string qs, .slice qa ql qc, .slice qf qm qd] 27) := ⟨_, rfl⟩
  obtain ⟨B, hB⟩ : ∃ B, B = w.heap.size := ⟨_, rfl⟩
  have b1 : Below w.heap.size w w1 := by rw [hw1]; exact below_new _ _
  have hb1 : w1.heap[B]? = some (.cells #[.int .u8 (qk : Int), .bool qb, .int .i64 qn, .string qs, .slice qa ql qc, .slice qf qm qd] 27 (0, 0)) := by rw [hw1, hB]; exact heap_alloc_new w _
  have HD : Hid (∀ W, Below w1.heap.size w1 W → Below w.heap.size w W ∧ W.heap[B]? = some (.cells #[.int .u8 (qk : Int), .bool qb, .int .i64 qn, .string qs, .slice qa ql qc, .slice qf qm qd] 27 (0, 0))) := fun W hW => ⟨b1.trans (hW.mono b1.size), (hW.block _ (lt_of_row hb1)).trans hb1⟩
  have HC : Hid (∀ (p : V × List Nat) (va : Value) (W : World), Below w.heap.size w W → Rep w w.heap.size p.1 va → Calls Tryz.prog 21 #[va, .agg #[.int .u8 (qk : Int), .bool qb, .int .i64 qn, .string qs, .slice qa ql qc, .slice qf qm qd]] W fun e w' => e = .returned (.int .i64 (Vl.cmp p.1 x)) ∧ Below W.heap.size W w') := fun p va W hW hr => rcompare20 _ p.1 (Nat.le_refl _) x W w.heap.size _ _ hW.size (rep_stays hW (Nat.le_refl _) _ _ hr) (rep_stays hW (Nat.le_refl _) _ _ hv)
  obtain ⟨ke, hke⟩ : ∃ ke, ke = Bt.kerr x := ⟨_, rfl⟩
  have CK : Hid (∀ W, Below w.heap.size w W → Calls Tryz.prog 14 #[.agg #[.int .u8 (qk : Int), .bool qb, .int .i64 qn, .string qs, .slice qa ql qc, .slice qf qm qd]] W fun e w' => e = .returned (.int .i64 (ke : Int)) ∧ Below W.heap.size W w') := fun W hW => by
    rw [hke]
    exact rcheck19 x W w.heap.size _ hW.size (rep_stays hW (Nat.le_refl _) _ _ hv)
  have CF : Hid (∀ W, Below w.heap.size w W → Calls Tryz.prog 17 #[.slice a n ca, .agg #[.int .u8 (qk : Int), .bool qb, .int .i64 qn, .string qs, .slice qa ql qc, .slice qf qm qd]] W (NumR W (Bt.lids x L))) := fun W hW => by
    rw [hn]
    exact rfind_c L a ca W x _ (by omega) (fun p hp => (hLW.asc p hp).2) (hEA.stays hW) (rep_stays hW hW.size _ _ hv)
  have CP : Hid (ke = 0 → ∀ W, Below w.heap.size w W → Calls Tryz.prog 26 #[.agg #[.int .u8 (qk : Int), .bool qb, .int .i64 qn, .string qs, .slice qa ql qc, .slice qf qm qd]] W fun e w' => ∃ v', e = .returned v' ∧ Below W.heap.size W w' ∧ RepA w' (fun g => W.heap.size ≤ g ∧ g < w'.heap.size) x v') := fun q W hW => copy9 _ x (Nat.le_refl _) (Vl.check_small x 0 (hke ▸ q)) W w.heap.size _ hW.size (rep_stays hW (Nat.le_refl _) _ _ hv)
  obtain ⟨sm, hsm⟩ : ∃ sm, sm = Bt.lsum L := ⟨_, rfl⟩
  have CN : Hid (∀ W, Below w.heap.size w W → Calls Tryz.prog 19 #[.slice a n ca] W fun e w' => e = .returned (.int .i64 (sm : Int)) ∧ Below W.heap.size W w') := fun W hW => by
    rw [hn, hsm]
    exact rcount_c L a ca W (by omega) (by have := hLW.le; omega) (hEA.stays hW)
  have hfl : (Bt.lids x L).length ≤ 1000000 := by
    rw [Bt.lids]
    cases h : Bt.lat x L with
    | none => exact Nat.zero_le _
    | some p => exact hfew p (Bt.lat_mem h).1
  have hfa : (Bt.lids x L).Pairwise (· < ·) := by
    rw [Bt.lids]
    cases h : Bt.lat x L with
    | none => exact List.Pairwise.nil
    | some p => exact (hLW.asc p (Bt.lat_mem h).1).1
  obtain ⟨hs, hhs⟩ : ∃ hs, hs = Bt.lhas x id L := ⟨_, rfl⟩
  have CH : Hid (∀ (W : World) pi cap, NumsAt W pi (Bt.lids x L) → Calls Tryz.prog 47 #[.slice pi (Bt.lids x L).length cap, .int .u64 (id : Int)] W fun e w' => e = .returned (.bool hs) ∧ w' = W) := fun W pi cap h => by
    have := rhas_c (Bt.lids x L) id pi cap W hfl h
    have e : decide (id ∈ Bt.lids x L) = hs := by
      rw [hhs, Bt.lhas]
      have h1 := Bt.nhas_mem hfa (id := id)
      cases h2 : Bt.nhas id (Bt.lids x L) with
      | true => exact decide_eq_true (h1.1 h2)
      | false => exact decide_eq_false fun q => by rw [h1.2 q] at h2; cases h2
    rw [e] at this
    exact this
  obtain ⟨er, her⟩ : ∃ er, er = Bt.perr x id L := ⟨_, rfl⟩
  obtain ⟨L2, hL2⟩ : ∃ L2, L2 = (if Bt.perr x id L = 0 then Bt.lput x id L else L) := ⟨_, rfl⟩
  rw [← hL2, ← her]
  have HL2 : Hid (L2 = (if Bt.perr x id L = 0 then Bt.lput x id L else L)) := hL2
  rw [← her] at hL2
  have HP : Hid (er = if ke ≠ 0 then ke else if hs = true then 18 else if 1024 ≤ sm then 8 else 0) := by
    show _ = _
    rw [her, Bt.perr, hke, hhs, hsm]
  have HERR : Hid (∀ e, e = er → e ≠ 0 → ∀ W, Below w.heap.size w W → EntR w A L2 er (.returned (.tuple #[.slice a n ca, .int .i64 (e : Int)])) W) := fun e he h0 W hW => by
    rw [hL2, ← he, if_neg h0]
    exact ⟨a, n, ca, rfl, hn, ha.stays (fun g hg => hW.block g (hA g hg)) (fun g hg => .inl hg), hW⟩
  have HX : Hid (ke = 0 ∧ hs = false ∧ Bt.perr x id L = 0 → ∀ (p : V × List Nat), p ∈ L → Vl.cmp p.1 x = 0 → Bt.nhas id p.2 = false) := fun ⟨_, q2, _⟩ p hp hc => by
    rw [hhs, Bt.lhas, Bt.lids_some (Bt.lat_some hLW.rises hp hc)] at q2
    exact q2
  have HN : Hid (n = L.length ∧ n ≤ 1000000) := ⟨hn, hl⟩
  have HA : Hid (EntsA w A a L ∧ ∀ g, A g → g < w.heap.size) := ⟨ha, hA⟩
  have HLW : Hid (Bt.LW L) := hLW
  have HER : Hid (er = Bt.perr x id L) := her
  obtain ⟨i2, hi2, hx0, hx1, hx2⟩ := info_parts ent_info2
  rw [← hn]
  clear hL2 hn ha hl hv b1 hb1 hA hEA hfew hfl hfa hke hsm hhs her hLW
  go_enter Tryz.func27, Tryz.ntmps27
  go_upto_region 1 with fail
  rw [← hw1, ← hB]
  have zb := (HD.out _ (Below.refl _ _)).2
  have z0 := cells_at zb 0 _ rfl
  have z1 := cells_at zb 1 _ rfl
  have z2 := cells_at zb 2 _ rfl
  have z3 := cells_at zb 3 _ rfl
  have z4 := cells_at zb 4 _ rfl
  have z5 := cells_at zb 5 _ rfl
  clear hw1 hB zb
  go_wp2_with fail
  refine (CK.out _ (HD.out _ (Below.refl _ _)).1).mono ?_
  rintro ex w1a ⟨rfl, hb1a⟩
  have HB1 : Hid (Below w1.heap.size w1 w1a) := hb1a
  clear hb1a z0 z1 z2 z3 z4 z5 CK
  by_cases hk0 : ke = 0
  · subst hk0
    have zb := (HD.out _ HB1.out).2
    have z0 := cells_at zb 0 _ rfl
    have z1 := cells_at zb 1 _ rfl
    have z2 := cells_at zb 2 _ rfl
    have z3 := cells_at zb 3 _ rfl
    have z4 := cells_at zb 4 _ rfl
    have z5 := cells_at zb 5 _ rfl
    clear zb
    go_wp2_with fail
    refine (CF.out _ (HD.out _ HB1.out).1).mono ?_
    rintro ex w1b ⟨fi, fm, fcap, rfl, rfl, hfN, hb1b⟩
    have HB2 : Hid (Below w1.heap.size w1 w1b) := HB1.out.trans (hb1b.mono HB1.out.size)
    have HFN : Hid (NumsAt w1b fi (Bt.lids x L)) := hfN
    clear hfN hb1b z0 z1 z2 z3 z4 z5 CF
    go_wp2_with fail
    refine (CH.out w1b fi fcap HFN.out).mono ?_
    rintro ex w1c ⟨rfl, rfl⟩
    clear CH HFN
    cases hs with
    | true =>
      have HE : Hid (18 = er) := by show _ = _; rw [HP.out]; rfl
      go_wp2
      go_ret2
      exact HERR.out 18 HE.out (by decide) _ (HD.out _ HB2.out).1
    | false =>
      go_wp2_with fail
      refine (CN.out _ (HD.out _ HB2.out).1).mono ?_
      rintro ex w2 ⟨rfl, hb2⟩
      have HB3 : Hid (Below w1.heap.size w1 w2) := HB2.out.trans (hb2.mono HB2.out.size)
      clear hb2 CN HB2 HB1
      by_cases hsm : 1024 ≤ sm
      · have qsm : (1024 : Int) ≤ (sm : Int) := by omega
        have qsm2 : decide ((1024 : Int) ≤ (sm : Int)) = true := decide_eq_true qsm
        have HE : Hid (8 = er) := by show _ = _; rw [HP.out, if_neg (by decide), if_neg (by decide), if_pos hsm]
        go_wp2
        go_ret2
        exact HERR.out 8 HE.out (by decide) _ (HD.out _ HB3.out).1
      · have qsm : ¬ (1024 : Int) ≤ (sm : Int) := by omega
        have qsm2 : decide ((1024 : Int) ≤ (sm : Int)) = false := decide_eq_false qsm
        have HE : Hid (Bt.perr x id L = 0) := by show _ = _; rw [← HER.out, HP.out, if_neg (by decide), if_neg (by decide), if_neg hsm]
        obtain ⟨s, hs⟩ : ∃ s, s = Bt.lspot x L := ⟨_, rfl⟩
        have HS : Hid (s = Bt.lspot x L ∧ s ≤ n) := ⟨hs, by rw [hs, HN.out.1]; exact Bt.lspot_le⟩
        have HST : Hid (EO w2 A [] (.slice none 0 0) w2) := EO.start w2 fun g hg => Nat.lt_of_lt_of_le (HA.out.2 g hg) (HD.out _ HB3.out).1.size
        have HD2 : Hid (∀ W, Below w2.heap.size w2 W → Below w.heap.size w W ∧ W.heap[B]? = some (.cells #[.int .u8 (qk : Int), .bool qb, .int .i64 qn, .string qs, .slice qa ql qc, .slice qf qm qd] 27 (0, 0))) := fun W hW => HD.out W (HB3.out.trans (hW.mono HB3.out.size))
        have HFIN : Hid (∀ (K : Bt.KL) (lv : Value) (W : World), EO w2 A K lv W → K = Bt.lput x id L → EntR w A L2 er (.returned (.tuple #[lv, .int .i64 0])) W) := fun K lv W h e => by
          obtain ⟨a', c', rfl⟩ := h.form
          obtain ⟨_, hE⟩ := h.done
          have b2 := (HD.out _ HB3.out).1
          have bW := (HD2.out W h.below).1
          rw [HL2.out, HE.out, if_pos rfl, ← e, HER.out, HE.out]
          refine ⟨a', _, c', rfl, rfl, hE.stays (fun _ _ => rfl) fun g hg => ?_, bW⟩
          rcases hg with q | q
          · exact .inl q
          · exact .inr ⟨Nat.le_trans b2.size q.1, q.2⟩
        clear hs hsm
        clear HERR
        have CPY : Hid (∀ W, Below w.heap.size w W → Calls Tryz.prog 26 #[.agg #[.int .u8 (qk : Int), .bool qb, .int .i64 qn, .string qs, .slice qa ql qc, .slice qf qm qd]] W fun e w' => ∃ (zk : Nat) (zb : Bool) (zn : Int) (zs : ByteArray) (za : Option Addr) (zl zc : Nat) (ta : Option Addr) (tl tc : Nat), e = .returned (.agg #[.int .u8 (zk : Int), .bool zb, .int .i64 zn, .string zs, .slice za zl zc, .slice ta tl tc]) ∧ Hid (Below W.heap.size W w' ∧ RepA w' (fun g => W.heap.size ≤ g ∧ g < w'.heap.size) x (.agg #[.int .u8 (zk : Int), .bool zb, .int .i64 zn, .string zs, .slice za zl zc, .slice ta tl tc]))) := fun W hW => by
          refine (CP.out (by trivial) W hW).mono ?_
          rintro e w' ⟨v', rfl, hb, hr⟩
          obtain ⟨zk, zb, zn, zs, za, zl, zc, ta, tl, tc, rfl⟩ := repA_form hr
          exact ⟨zk, zb, zn, zs, za, zl, zc, ta, tl, tc, rfl, hb, hr⟩
        go_wp2_with fail
        go_loopw [9, 10, 38] (fun o pt i wr => ∃ (j : Nat) (lv : Value), lv = o ∧ pt = .bool (decide (s < j)) ∧ i = .int .i64 (j : Int) ∧ j ≤ n ∧ EO w2 A (Bt.pst x id L j) lv wr) (fun _ _ i _ => n - (intOf i).toNat)
        case atStart =>
          refine ⟨0, _, rfl, rfl, rfl, by omega, ?_⟩
          rw [Bt.pst_zero]
          exact HST.out
        case round =>
          clear HST
          obtain ⟨j, lv, hlv, rfl, rfl, hj, hrn⟩ := hrel
          subst hlv
          obtain ⟨ll, hll⟩ : ∃ ll, ll = (Bt.pst x id L j).length := ⟨_, rfl⟩
          have HR : Hid (EO w2 A (Bt.pst x id L j) lv wr ∧ ll = (Bt.pst x id L j).length ∧ ll ≤ j + 1) := ⟨hrn, hll, by rw [hll]; exact Bt.pst_length (by have := HN.out; omega)⟩
          clear hrn hll
          obtain ⟨cs, r1, r2, r3⟩ := HR.out.1.row
          have HROW : Hid (cs.length = (Bt.pst x id L j).length ∧ wr.ownsRow w2.heap.size 49 7 lv (Bt.pst x id L j).length cs.flatten ∧ (∀ (j' : Nat) (p : V × List Nat) (c : List Value), (Bt.pst x id L j)[j']? = some p → cs[j']? = some c → EntV wr (OA A w2.heap.size lv wr) p c)) := ⟨r1, r2, r3⟩
          clear r1 r2 r3
          have HOW0 : Hid (∀ W, Below wr.heap.size wr W → W.ownsRow w2.heap.size 49 7 lv ll cs.flatten) := fun W hW => by
            have := own_call HROW.out.2.1 hW
            rw [← HR.out.2.1] at this
            exact this
          have fit63 : Hid (ll + 1 ≤ maxLen) := by show _ ≤ _; have := HR.out.2.2; have := HN.out; unfold maxLen; omega
          have fit47 : Hid ((ll + 1) * 104 ≤ 140737488355328) := by show _ ≤ _; have := HR.out.2.2; have := HN.out; omega
          have fit63' : Hid (ll + 1 + 1 ≤ maxLen) := by show _ ≤ _; have := HR.out.2.2; have := HN.out; unfold maxLen; omega
          have fit47' : Hid ((ll + 1 + 1) * 104 ≤ 140737488355328) := by show _ ≤ _; have := HR.out.2.2; have := HN.out; omega
          by_cases hjn : j = n
          · subst hjn
            have q0 : ¬ (j : Int) < (j : Int) := by omega
            by_cases hsj : s < j
            · have E : Hid (Bt.pst x id L j = Bt.lput x id L) := by
                show _ = _
                rw [HN.out.1]
                exact Bt.pst_all (by have := HN.out; have := HS.out; omega)
              have qd : decide (s < j) = true := decide_eq_true hsj
              rw [qd]
              go_wp2
              go_ret2
              exact HFIN.out _ _ _ HR.out.1 E.out
            · have E : Hid (Bt.pst x id L j ++ [(x, [id])] = Bt.lput x id L) := by
                show _ = _
                rw [HN.out.1]
                exact Bt.pst_end HLW.out.rises (by have := HN.out; have := HS.out; omega)
              have qd : decide (s < j) = false := decide_eq_false hsj
              rw [qd]
              clear qd hsj
              have zb := (HD2.out _ HR.out.1.below).2
              have z0 := cells_at zb 0 _ rfl
              have z1 := cells_at zb 1 _ rfl
              have z2 := cells_at zb 2 _ rfl
              have z3 := cells_at zb 3 _ rfl
              have z4 := cells_at zb 4 _ rfl
              have z5 := cells_at zb 5 _ rfl
              clear zb
              go_wp2_with (first | (go_at_call 26; refine (CPY.out _ (HD2.out _ HR.out.1.below).1).mono ?_; rintro ex w4 ⟨zk, zb, zn, zs, za, zl, zc, ta, tl, tc, rfl, HV⟩; clear z0 z1 z2 z3 z4 z5; have HV2 := newent_of HR.out.1.below HV.out.1 HV.out.2 (A := A) (id := id); have HOWN : Hid ((w4.alloc (.cells #[.int .u64 (id : Int)] 51)).ownsRow w2.heap.size 49 7 lv ll cs.flatten) := HOW0.out _ HV2.out.1; have HSZ := HV2.out.2.2) | (at_builtin; refine wpList_append_lies _ rfl _ _ 22 rfl w2.heap.size 49 i2 _ 7 104 Tryz.underlying22 hi2 hx0 hx1 hx2 rfl (by decide) _ _ _ rfl (HOWN.out.alloc _) ⟨w4.heap.size + 1, 0, none⟩ 1 1 [.int .u8 (zk : Int), .bool zb, .int .i64 zn, .string zs, .slice za zl zc, .slice ta tl tc, .slice (some ⟨w4.heap.size, 0, none⟩) 1 1] rfl rfl (World.news_of_block (new_next w4 _ _)) (by intro u hu; simp at hu; rcases hu with rfl | rfl | rfl | rfl | rfl | rfl | rfl <;> rfl) (by decide) fit63.out fit47.out HSZ _ rfl ?_; intro gg cap w5 hown5 hgrow hat hglt; have S5 : Hid (EO w2 A (Bt.pst x id L j ++ [(x, [id])]) (.slice (some ⟨gg, 0, none⟩) (ll + 1) cap) w5) := HR.out.1.app2 HR.out.2.1 HROW.out HV2.out.1 HV2.out.2.1 hgrow hat hown5; clear hown5 hgrow hat hglt))
              go_ret2
              exact HFIN.out _ _ _ S5.out E.out
          · have hlt : j < n := by omega
            have q0 : (j : Int) < (n : Int) := by omega
            have q1 : (0 : Int) ≤ (j : Int) := by omega
            have HBL : Hid (Below w.heap.size w wr) := (HD2.out _ HR.out.1.below).1
            obtain ⟨p, hp⟩ : ∃ p, L[j]? = some p := ⟨_, List.getElem?_eq_getElem (by have := HN.out; omega)⟩
            obtain ⟨g, cs', rfl, hAg, hEV, hcell⟩ := HA.out.1 j p hp
            obtain ⟨k0, k1, k2, k3, k4, k5, pi, cap, rfl, hRA, hNA⟩ := hEV
            have hEV : EntV w A p [k0, k1, k2, k3, k4, k5, .slice pi p.2.length cap] := ⟨k0, k1, k2, k3, k4, k5, pi, cap, rfl, hRA, hNA⟩
            obtain ⟨kk0, kk1, kk2, kk3, kk4, kk5, ky0, ky1, kz0, kz1, f0, f1, f2, f3, f4, f5⟩ := rep_form (repA_rep HA.out.2 _ _ hRA)
            subst f0 f1 f2 f3 f4 f5
            obtain ⟨ln, hln⟩ : ∃ ln, ln = p.2.length := ⟨_, rfl⟩
            obtain ⟨o, ho⟩ : ∃ o, o = j * 7 := ⟨_, rfl⟩
            rw [← hln] at hEV hcell
            rw [← ho] at hcell
            have cl := fun o => (HBL.out).cell (p := ⟨g, o, none⟩) (HA.out.2 g hAg)
            have hcell0 := hcell 0 _ rfl
            rw [Nat.add_zero] at hcell0
            have a0 := (cl _).trans hcell0
            have a1 := (cl _).trans (hcell 1 _ rfl)
            have a2 := (cl _).trans (hcell 2 _ rfl)
            have a3 := (cl _).trans (hcell 3 _ rfl)
            have a4 := (cl _).trans (hcell 4 _ rfl)
            have a5 := (cl _).trans (hcell 5 _ rfl)
            have a6 := (cl _).trans (hcell 6 _ rfl)
            have ho' := ho.symm
            obtain ⟨j1, hj1⟩ : ∃ j1, j1 = j + 1 := ⟨_, rfl⟩
            obtain ⟨v1, v2⟩ : IntKind.i64.wrap ((j : Int) + 1) = (j1 : Int) ∧ wrap64 ((j : Int) + 1) = (j1 : Int) := succs hj1 (by have := HN.out; omega)
            obtain ⟨c, hc⟩ : ∃ c, c = Vl.cmp p.1 x := ⟨_, rfl⟩
            have SC := Bt.spot_cases (x := x) HLW.out.rises hp
            rw [← HS.out.1, ← hc] at SC
            have HJ : Hid (j1 = j + 1 ∧ j < n ∧ L[j]? = some p ∧ ln = p.2.length ∧ c = Vl.cmp p.1 x ∧ ln ≤ 1000000) := ⟨hj1, hlt, hp, hln, hc, by rw [hln]; have := HLW.out.few (List.mem_of_getElem? hp); omega⟩
            have CC : Hid (∀ W, Below w.heap.size w W → Calls Tryz.prog 21 #[.agg #[.int .u8 (kk0 : Int), .bool kk1, .int .i64 kk2, .string kk3, .slice kk4 kk5 ky0, .slice ky1 kz0 kz1], .agg #[.int .u8 (qk : Int), .bool qb, .int .i64 qn, .string qs, .slice qa ql qc, .slice qf qm qd]] W fun e w' => e = .returned (.int .i64 c) ∧ Below W.heap.size W w') := fun W hW => by
              rw [hc]; exact HC.out p _ W hW (repA_rep HA.out.2 _ _ hRA)
            have HEVW : Hid (∀ W (Z : Nat → Prop), Below w.heap.size w W → EntV W (fun g => A g ∨ Z g) p [.int .u8 (kk0 : Int), .bool kk1, .int .i64 kk2, .string kk3, .slice kk4 kk5 ky0, .slice ky1 kz0 kz1, .slice pi ln cap]) := fun W Z hW => hEV.stays (fun g hg => hW.block g (HA.out.2 g hg)) fun g hg => .inl hg
            have HRK : Hid (RepA w A p.1 (.agg #[.int .u8 (kk0 : Int), .bool kk1, .int .i64 kk2, .string kk3, .slice kk4 kk5 ky0, .slice ky1 kz0 kz1]) ∧ NumsA w A pi p.2) := ⟨hRA, hNA⟩
            clear hEV hRA hNA hcell hcell0 cl hAg hp hln ho hj1 hjn hj hlt hc
            go_upto_region 13 with fail
            obtain ⟨w3, hw3⟩ : ∃ w3, w3 = wr.alloc (.cells #[.int .u8 (kk0 : Int), .bool kk1, .int .i64 kk2, .string kk3, .slice kk4 kk5 ky0, .slice ky1 kz0 kz1, .slice pi ln cap] 49) := ⟨_, rfl⟩
            have n1 := by have := heap_alloc_new wr (.cells #[.int .u8 (kk0 : Int), .bool kk1, .int .i64 kk2, .string kk3, .slice kk4 kk5 ky0, .slice ky1 kz0 kz1, .slice pi ln cap] 49); rw [← hw3] at this; exact this
            have n2 : Below wr.heap.size wr w3 := by rw [hw3]; exact below_new _ _
            rw [← hw3]
            obtain ⟨X, hX⟩ : ∃ X, X = wr.heap.size := ⟨_, rfl⟩
            rw [← hX] at n1 ⊢
            have hne : lv.ownBlock ≠ some X := fun q => by
              have h1 := (EO.own_lt HROW.out.2.1 X q).2
              omega
            have HB3 : Hid (Below wr.heap.size wr w3 ∧ w3.heap[X]? = some (.cells #[.int .u8 (kk0 : Int), .bool kk1, .int .i64 kk2, .string kk3, .slice kk4 kk5 ky0, .slice ky1 kz0 kz1, .slice pi ln cap] 49 (0, 0)) ∧ lv.ownBlock ≠ some X ∧ X = wr.heap.size) := ⟨n2, n1, hne, hX⟩
            have y0 := cells_at n1 0 _ rfl
            have y1 := cells_at n1 1 _ rfl
            have y2 := cells_at n1 2 _ rfl
            have y3 := cells_at n1 3 _ rfl
            have y4 := cells_at n1 4 _ rfl
            have y5 := cells_at n1 5 _ rfl
            have zb := (HD2.out _ (HR.out.1.below.trans (n2.mono HR.out.1.below.size))).2
            have z0 := cells_at zb 0 _ rfl
            have z1 := cells_at zb 1 _ rfl
            have z2 := cells_at zb 2 _ rfl
            have z3 := cells_at zb 3 _ rfl
            have z4 := cells_at zb 4 _ rfl
            have z5 := cells_at zb 5 _ rfl
            have HW3 : Hid (Below w.heap.size w w3) := HBL.out.trans (n2.mono HBL.out.size)
            clear n2 hw3 n1 zb hX hne
            go_wp2_with fail
            refine (CC.out _ HW3.out).mono ?_
            rintro ex w4 ⟨rfl, hb4⟩
            have HB4 : Hid (Below wr.heap.size wr w4 ∧ w4.heap[X]? = some (.cells #[.int .u8 (kk0 : Int), .bool kk1, .int .i64 kk2, .string kk3, .slice kk4 kk5 ky0, .slice ky1 kz0 kz1, .slice pi ln cap] 49 (0, 0)) ∧ X < w4.heap.size) := ⟨HB3.out.1.trans (hb4.mono HB3.out.1.size), (hb4.block _ (lt_of_row HB3.out.2.1)).trans HB3.out.2.1, Nat.lt_of_lt_of_le (lt_of_row HB3.out.2.1) hb4.size⟩
            have HW4 : Hid (Below w.heap.size w w4) := HW3.out.trans (hb4.mono HW3.out.size)
            clear hb4 y0 y1 y2 y3 y4 y5 z0 z1 z2 z3 z4 z5 a0 a1 a2 a3 a4 a5 a6
            by_cases hc0 : c = 0
            · obtain ⟨sj, slat⟩ := SC.2.1 hc0
              have hsj : decide (s < j) = false := decide_eq_false (by omega)
              have qc : (c == 0) = true := by simp [hc0]
              have E : Hid (Bt.pst x id L j1 = Bt.pst x id L j ++ [(p.1, Bt.nins id p.2)] ∧ decide (s < j1) = true) := ⟨by rw [HJ.out.1]; exact Bt.pst_hit HLW.out.rises HJ.out.2.2.1 (by rw [← HJ.out.2.2.2.2.1]; exact hc0), decide_eq_true (by have := HJ.out; omega)⟩
              have hnh : Bt.nhas id p.2 = false := HX.out ⟨by first | rfl | trivial, by first | rfl | trivial, HE.out⟩ p (List.mem_of_getElem? HJ.out.2.2.1) (by rw [← HJ.out.2.2.2.2.1]; exact hc0)
              have CW : Hid (∀ W, Below w.heap.size w W → Calls Tryz.prog 48 #[.slice pi ln cap, .int .u64 (id : Int)] W fun e w' => ∃ a2 c2, e = .returned (.slice a2 (ln + 1) c2) ∧ Hid (Below W.heap.size W w' ∧ NumsA w' (fun g => W.heap.size ≤ g ∧ g < w'.heap.size) a2 (Bt.nins id p.2))) := fun W hW => by
                rw [HJ.out.2.2.2.1]
                refine (rwith_c p.2 id pi cap W (by rw [← HJ.out.2.2.2.1]; exact HJ.out.2.2.2.2.2) ((HRK.out.2.at HA.out.2).stays hW) (HLW.out.asc p (List.mem_of_getElem? HJ.out.2.2.1)).1 hnh).mono ?_
                rintro e w' ⟨lv2, rfl, hN⟩
                obtain ⟨a2, c2, rfl, h2⟩ := hN.done
                rw [Bt.nins_length]
                exact ⟨a2, c2, rfl, hN.below, h2⟩
              rw [hsj]
              subst hc0
              have y6 := cells_at HB4.out.2.1 6 _ rfl
              clear SC sj slat hsj qc hnh
              go_upto_region 16 with (go_at_call 48; refine (CW.out _ HW4.out).mono ?_; rintro ex w5 ⟨a2, c2, rfl, HV⟩; clear y6; have y6 := cells_at ((HV.out.1.block _ HB4.out.2.2).trans HB4.out.2.1) 6 _ rfl; have fz := row_freeV ((HV.out.1.block _ HB4.out.2.2).trans HB4.out.2.1))
              obtain ⟨w6, hw6⟩ : ∃ w6, w6 = w5.setCell ⟨X, 6, none⟩ (.slice a2 (ln + 1) c2) := ⟨_, rfl⟩
              have h6 : w6.heap[X]? = some (.cells #[.int .u8 (kk0 : Int), .bool kk1, .int .i64 kk2, .string kk3, .slice kk4 kk5 ky0, .slice ky1 kz0 kz1, .slice a2 (ln + 1) c2] 49 (0, 0)) := by
                rw [hw6]; exact heap_setCell_same w5 X 6 _ 49 _ ((HV.out.1.block _ HB4.out.2.2).trans HB4.out.2.1)
              have HV6 : Hid (Below wr.heap.size wr w6 ∧ EntV w6 (fun g => A g ∨ (wr.heap.size ≤ g ∧ g < w6.heap.size)) (p.1, Bt.nins id p.2) [.int .u8 (kk0 : Int), .bool kk1, .int .i64 kk2, .string kk3, .slice kk4 kk5 ky0, .slice ky1 kz0 kz1, .slice a2 (ln + 1) c2] ∧ w2.heap.size ≤ (w6.alloc (.cells #[.int .u8 (kk0 : Int), .bool kk1, .int .i64 kk2, .string kk3, .slice kk4 kk5 ky0, .slice ky1 kz0 kz1, .slice a2 (ln + 1) c2] 49)).heap.size) := by
                have b5 : Below wr.heap.size wr w5 := HB4.out.1.trans (HV.out.1.mono HB4.out.1.size)
                have b6 : Below wr.heap.size wr w6 := by rw [hw6]; exact b5.setCell (p := ⟨X, 6, none⟩) (by show wr.heap.size ≤ X; have := HB3.out.2.2.2; omega) _
                have s6 : w6.heap.size = w5.heap.size := by rw [hw6]; simp
                have s0 := HBL.out.size
                have s1 := HR.out.1.below.size
                have s2 := b6.size
                have s4 := HB4.out.1.size
                refine ⟨b6, ⟨_, _, _, _, _, _, a2, c2, by rw [Bt.nins_length, ← HJ.out.2.2.2.1], repA_stays (fun g hg => ?_) (fun g hg => .inl hg) _ _ HRK.out.1, HV.out.2.stays (fun g hg => ?_) fun g hg => .inr ⟨by omega, by omega⟩⟩, by simp; omega⟩
                · exact (HBL.out.trans (b6.mono s0)).block g (HA.out.2 g hg)
                · rw [hw6]
                  exact heap_setCell_other _ _ _ _ (show g ≠ X by have := HB4.out.2.2; omega)
              rw [← hw6]
              have HOWN : Hid (w6.ownsRow w2.heap.size 49 7 lv ll cs.flatten) := HOW0.out _ HV6.out.1
              have y0 := cells_at h6 0 _ rfl
              have y1 := cells_at h6 1 _ rfl
              have y2 := cells_at h6 2 _ rfl
              have y3 := cells_at h6 3 _ rfl
              have y4 := cells_at h6 4 _ rfl
              have y5 := cells_at h6 5 _ rfl
              clear y6 fz
              have y6 := cells_at h6 6 _ rfl
              clear hw6 h6 HV CW
              go_wp2_with (at_builtin; refine wpList_append_lies _ rfl _ _ 22 rfl w2.heap.size 49 i2 _ 7 104 Tryz.underlying22 hi2 hx0 hx1 hx2 rfl (by decide) _ _ _ rfl (HOWN.out.alloc _) ⟨w6.heap.size, 0, none⟩ 1 1 [.int .u8 (kk0 : Int), .bool kk1, .int .i64 kk2, .string kk3, .slice kk4 kk5 ky0, .slice ky1 kz0 kz1, .slice a2 (ln + 1) c2] rfl rfl (World.news_of_block (heap_alloc_new w6 _)) (by intro u hu; simp at hu; rcases hu with rfl | rfl | rfl | rfl | rfl | rfl | rfl <;> rfl) (by decide) fit63.out fit47.out HV6.out.2.2 _ rfl ?_; intro gg capn w7 hown5 hgrow hat hglt; (have S5 : Hid (EO w2 A (Bt.pst x id L j1) (.slice (some ⟨gg, 0, none⟩) (ll + 1) capn) w7) := by (rw [E.out.1]; exact HR.out.1.app2 HR.out.2.1 HROW.out HV6.out.1 HV6.out.2.1 hgrow hat hown5)); clear hown5 hgrow hat hglt)
              clear v1 v2
              go_roundw
              case rel => first | exact ⟨j1, _, rfl, by rw [E.out.2], rfl, by have := HJ.out; omega, S5.out⟩ | ((repeat apply Exists.intro); exact ⟨⟨j1, _, rfl, by rw [E.out.2], rfl, by have := HJ.out; omega, S5.out⟩, rfl⟩)
              case measure =>
                simp only [intOf]
                have := HJ.out
                omega
            · have qc : (c == 0) = false := by simp [hc0]
              have y0 := cells_at HB4.out.2.1 0 _ rfl
              have y1 := cells_at HB4.out.2.1 1 _ rfl
              have y2 := cells_at HB4.out.2.1 2 _ rfl
              have y3 := cells_at HB4.out.2.1 3 _ rfl
              have y4 := cells_at HB4.out.2.1 4 _ rfl
              have y5 := cells_at HB4.out.2.1 5 _ rfl
              have y6 := cells_at HB4.out.2.1 6 _ rfl
              have HOWN : Hid (w4.ownsRow w2.heap.size 49 7 lv ll cs.flatten) := HOW0.out _ HB4.out.1
              have HSZ : Hid (w2.heap.size ≤ (w4.alloc (.cells #[.int .u8 (kk0 : Int), .bool kk1, .int .i64 kk2, .string kk3, .slice kk4 kk5 ky0, .slice ky1 kz0 kz1, .slice pi ln cap] 49)).heap.size) := by
                have := HB4.out.1.size
                have := HR.out.1.below.size
                show _ ≤ _
                simp
                omega
              have HPL : Hid (c < 0 ∨ s < j → Bt.pst x id L j1 = Bt.pst x id L j ++ [p]) := fun q => by
                rw [HJ.out.1]
                exact Bt.pst_same HLW.out.rises HJ.out.2.2.1 (by rw [← HJ.out.2.2.2.2.1]; exact hc0) (by rw [← HJ.out.2.2.2.2.1, ← HS.out.1]; exact q)
              by_cases hcn : c < 0
              · have hsj : decide (s < j) = false := decide_eq_false (by have := SC.1.1 hcn; omega)
                have qg : ¬ (0 : Int) < c := by omega
                have qg2 : decide ((0 : Int) < c) = false := decide_eq_false qg
                have E : Hid (Bt.pst x id L j1 = Bt.pst x id L j ++ [p] ∧ decide (s < j1) = false) := ⟨HPL.out (.inl hcn), decide_eq_false (by have := SC.1.1 hcn; have := HJ.out; omega)⟩
                have HC0 : Hid (c ≠ 0 ∧ c < 0) := ⟨hc0, hcn⟩
                rw [hsj]
                clear SC hsj hcn hc0
                go_wp2_with (at_builtin; refine wpList_append_lies _ rfl _ _ 22 rfl w2.heap.size 49 i2 _ 7 104 Tryz.underlying22 hi2 hx0 hx1 hx2 rfl (by decide) _ _ _ rfl (HOWN.out.alloc _) ⟨w4.heap.size, 0, none⟩ 1 1 [.int .u8 (kk0 : Int), .bool kk1, .int .i64 kk2, .string kk3, .slice kk4 kk5 ky0, .slice ky1 kz0 kz1, .slice pi ln cap] rfl rfl (World.news_of_block (heap_alloc_new w4 _)) (by intro u hu; simp at hu; rcases hu with rfl | rfl | rfl | rfl | rfl | rfl | rfl <;> rfl) (by decide) fit63.out fit47.out HSZ.out _ rfl ?_; intro gg capn w7 hown5 hgrow hat hglt; (have S5 : Hid (EO w2 A (Bt.pst x id L j1) (.slice (some ⟨gg, 0, none⟩) (ll + 1) capn) w7) := by (rw [E.out.1]; exact HR.out.1.app2 HR.out.2.1 HROW.out HB4.out.1 (HEVW.out _ _ HW4.out) hgrow hat hown5)); clear hown5 hgrow hat hglt)
                clear v1 v2
                go_roundw
                case rel => first | exact ⟨j1, _, rfl, by rw [E.out.2], rfl, by have := HJ.out; omega, S5.out⟩ | ((repeat apply Exists.intro); exact ⟨⟨j1, _, rfl, by rw [E.out.2], rfl, by have := HJ.out; omega, S5.out⟩, rfl⟩)
                case measure =>
                  simp only [intOf]
                  have := HJ.out
                  omega
              · have qg : (0 : Int) < c := by omega
                have qg2 : decide ((0 : Int) < c) = true := decide_eq_true qg
                by_cases hsj0 : s < j
                · have hsj : decide (s < j) = true := decide_eq_true hsj0
                  have E : Hid (Bt.pst x id L j1 = Bt.pst x id L j ++ [p] ∧ decide (s < j1) = true) := ⟨HPL.out (.inr hsj0), decide_eq_true (by have := HJ.out; omega)⟩
                  rw [hsj]
                  clear SC hsj hcn hc0 hsj0
                  go_wp2_with (at_builtin; refine wpList_append_lies _ rfl _ _ 22 rfl w2.heap.size 49 i2 _ 7 104 Tryz.underlying22 hi2 hx0 hx1 hx2 rfl (by decide) _ _ _ rfl (HOWN.out.alloc _) ⟨w4.heap.size, 0, none⟩ 1 1 [.int .u8 (kk0 : Int), .bool kk1, .int .i64 kk2, .string kk3, .slice kk4 kk5 ky0, .slice ky1 kz0 kz1, .slice pi ln cap] rfl rfl (World.news_of_block (heap_alloc_new w4 _)) (by intro u hu; simp at hu; rcases hu with rfl | rfl | rfl | rfl | rfl | rfl | rfl <;> rfl) (by decide) fit63.out fit47.out HSZ.out _ rfl ?_; intro gg capn w7 hown5 hgrow hat hglt; (have S5 : Hid (EO w2 A (Bt.pst x id L j1) (.slice (some ⟨gg, 0, none⟩) (ll + 1) capn) w7) := by (rw [E.out.1]; exact HR.out.1.app2 HR.out.2.1 HROW.out HB4.out.1 (HEVW.out _ _ HW4.out) hgrow hat hown5)); clear hown5 hgrow hat hglt)
                  clear v1 v2
                  go_roundw
                  case rel => first | exact ⟨j1, _, rfl, by rw [E.out.2], rfl, by have := HJ.out; omega, S5.out⟩ | ((repeat apply Exists.intro); exact ⟨⟨j1, _, rfl, by rw [E.out.2], rfl, by have := HJ.out; omega, S5.out⟩, rfl⟩)
                  case measure =>
                    simp only [intOf]
                    have := HJ.out
                    omega
                · have hsj : decide (s < j) = false := decide_eq_false hsj0
                  have hse : ¬ j < s := fun q => hcn (SC.1.2 q)
                  have E : Hid (Bt.pst x id L j1 = (Bt.pst x id L j ++ [(x, [id])]) ++ [p] ∧ decide (s < j1) = true) := ⟨by rw [HJ.out.1]; exact Bt.pst_new HLW.out.rises HJ.out.2.2.1 (by rw [← HJ.out.2.2.2.2.1]; exact hcn) (by rw [← HJ.out.2.2.2.2.1]; exact hc0) (by rw [← HS.out.1]; exact hsj0), decide_eq_true (by have := HJ.out; omega)⟩
                  rw [hsj]
                  have zb := (HD2.out _ (HR.out.1.below.trans (HB4.out.1.mono HR.out.1.below.size))).2
                  have z0 := cells_at zb 0 _ rfl
                  have z1 := cells_at zb 1 _ rfl
                  have z2 := cells_at zb 2 _ rfl
                  have z3 := cells_at zb 3 _ rfl
                  have z4 := cells_at zb 4 _ rfl
                  have z5 := cells_at zb 5 _ rfl
                  clear SC hsj hcn hc0 hsj0 hse zb y0 y1 y2 y3 y4 y5 y6 HOWN HSZ
                  go_upto_region 19 with (first | (go_at_call 26; refine (CPY.out _ HW4.out).mono ?_; rintro ex w4b ⟨zk, zb, zn, zs, za, zl, zc, ta, tl, tc, rfl, HV⟩; clear z0 z1 z2 z3 z4 z5; have HV2 := newent2 HR.out.1.below HB4.out.1 HV.out.1 HV.out.2 (A := A) (id := id); have HOWN : Hid ((w4b.alloc (.cells #[.int .u64 (id : Int)] 51)).ownsRow w2.heap.size 49 7 lv ll cs.flatten) := HOW0.out _ HV2.out.1; have HSZ := HV2.out.2.2; have HXB := box_two HB4.out.2.1 HV.out.1 (c := #[.int .u64 (id : Int)]) (d := #[.int .u8 (zk : Int), .bool zb, .int .i64 zn, .string zs, .slice za zl zc, .slice ta tl tc, .slice (some ⟨w4b.heap.size, 0, none⟩) 1 1]) (t := 51) (t2 := 49)) | (at_builtin; refine wpList_append_lies _ rfl _ _ 22 rfl w2.heap.size 49 i2 _ 7 104 Tryz.underlying22 hi2 hx0 hx1 hx2 rfl (by decide) _ _ _ rfl (HOWN.out.alloc _) ⟨w4b.heap.size + 1, 0, none⟩ 1 1 [.int .u8 (zk : Int), .bool zb, .int .i64 zn, .string zs, .slice za zl zc, .slice ta tl tc, .slice (some ⟨w4b.heap.size, 0, none⟩) 1 1] rfl rfl (World.news_of_block (new_next w4b _ _)) (by intro u hu; simp at hu; rcases hu with rfl | rfl | rfl | rfl | rfl | rfl | rfl <;> rfl) (by decide) fit63.out fit47.out HSZ _ rfl ?_; intro gg capn w5 hown5 hgrow hat hglt; have S5 : Hid (EO w2 A (Bt.pst x id L j ++ [(x, [id])]) (.slice (some ⟨gg, 0, none⟩) (ll + 1) capn) w5 ∧ w5.heap[X]? = some (.cells #[.int .u8 (kk0 : Int), .bool kk1, .int .i64 kk2, .string kk3, .slice kk4 kk5 ky0, .slice ky1 kz0 kz1, .slice pi ln cap] 49 (0, 0))) := ⟨HR.out.1.app2 HR.out.2.1 HROW.out HV2.out.1 HV2.out.2.1 hgrow hat hown5, box_grown HXB.out hgrow HB3.out.2.2.1⟩; clear hown5 hgrow hat hglt))
                  obtain ⟨cs6, t1, t2, t3⟩ := S5.out.1.row
                  have HROW6 : Hid (cs6.length = (Bt.pst x id L j ++ [(x, [id])]).length ∧ w5.ownsRow w2.heap.size 49 7 (.slice (some ⟨gg, 0, none⟩) (ll + 1) capn) (Bt.pst x id L j ++ [(x, [id])]).length cs6.flatten ∧ (∀ (j' : Nat) (p : V × List Nat) (c : List Value), (Bt.pst x id L j ++ [(x, [id])])[j']? = some p → cs6[j']? = some c → EntV w5 (OA A w2.heap.size (.slice (some ⟨gg, 0, none⟩) (ll + 1) capn) w5) p c)) := ⟨t1, t2, t3⟩
                  have HLN6 : Hid (ll + 1 = (Bt.pst x id L j ++ [(x, [id])]).length) := by
                    show _ = _
                    rw [List.length_append, List.length_singleton, HR.out.2.1]
                  have HOWN6 : Hid (w5.ownsRow w2.heap.size 49 7 (.slice (some ⟨gg, 0, none⟩) (ll + 1) capn) (ll + 1) cs6.flatten) := by
                    have := t2
                    rw [← HLN6.out] at this
                    exact this
                  have h6 := S5.out.2
                  have HSZ6 : Hid (w2.heap.size ≤ (w5.alloc (.cells #[.int .u8 (kk0 : Int), .bool kk1, .int .i64 kk2, .string kk3, .slice kk4 kk5 ky0, .slice ky1 kz0 kz1, .slice pi ln cap] 49)).heap.size) := by
                    have := S5.out.1.below.size
                    show _ ≤ _
                    simp
                    omega
                  have HW5 : Hid (Below w.heap.size w w5) := (HD2.out _ S5.out.1.below).1
                  have y0 := cells_at h6 0 _ rfl
                  have y1 := cells_at h6 1 _ rfl
                  have y2 := cells_at h6 2 _ rfl
                  have y3 := cells_at h6 3 _ rfl
                  have y4 := cells_at h6 4 _ rfl
                  have y5 := cells_at h6 5 _ rfl
                  have y6 := cells_at h6 6 _ rfl
                  clear t1 t2 t3 h6
                  go_wp2_with (at_builtin; refine wpList_append_lies _ rfl _ _ 22 rfl w2.heap.size 49 i2 _ 7 104 Tryz.underlying22 hi2 hx0 hx1 hx2 rfl (by decide) _ _ _ rfl (HOWN6.out.alloc _) ⟨w5.heap.size, 0, none⟩ 1 1 [.int .u8 (kk0 : Int), .bool kk1, .int .i64 kk2, .string kk3, .slice kk4 kk5 ky0, .slice ky1 kz0 kz1, .slice pi ln cap] rfl rfl (World.news_of_block (heap_alloc_new w5 _)) (by intro u hu; simp at hu; rcases hu with rfl | rfl | rfl | rfl | rfl | rfl | rfl <;> rfl) (by decide) fit63'.out fit47'.out HSZ6.out _ rfl ?_; intro gg2 capm w7 hown5 hgrow hat hglt; (have S6 : Hid (EO w2 A (Bt.pst x id L j1) (.slice (some ⟨gg2, 0, none⟩) (ll + 1 + 1) capm) w7) := by (rw [E.out.1]; exact S5.out.1.app2 HLN6.out HROW6.out (Below.refl _ _) (HEVW.out _ _ HW5.out) hgrow hat hown5)); clear hown5 hgrow hat hglt)
                  clear v1 v2
                  go_roundw
                  case rel => first | exact ⟨j1, _, rfl, by rw [E.out.2], rfl, by have := HJ.out; omega, S6.out⟩ | ((repeat apply Exists.intro); exact ⟨⟨j1, _, rfl, by rw [E.out.2], rfl, by have := HJ.out; omega, S6.out⟩, rfl⟩)
                  case measure =>
                    simp only [intOf]
                    have := HJ.out
                    omega
  · have q1 : ((ke : Int) != 0) = true := by simp; omega
    have q2 : ¬ ((ke : Int) = 0) := by omega
    have q3 : ((ke : Int) == 0) = false := by simp; omega
    have HE : Hid (ke = er) := by show _ = _; rw [HP.out, if_pos hk0]
    clear hk0
    go_wp2
    go_ret2
    exact HERR.out ke HE.out (by intro q; apply q2; rw [q]; rfl) _ (HD.out _ HB1.out).1
end Go.Proofs.YtkigenldiinioaaGreatDoor
