/- Several texts, joined: JnHa, JnHb -/
import Derived.Test.YtipekiknmgbdgaaGreatDoorXBM
import Derived.Test.YtipekiknmgbdgaaGreatDoorQKM
import Derived.Test.YtipekiknmgbdgaaGreatDoorJIM
/- JournalHeads, walked. -/
namespace Go.Proofs.YtipekiknmgbdgaaGreatDoor
namespace Vl
mutual
theorem small_of_check (u : ByteArray → Bool) : ∀ (v : V) (d : Nat), check u d v = 0 → small v
  | ⟨k, b, n, s, l, f⟩, d, h => by
    have h1 := Bn.alone_sizes h
    have h2 := right_form u h
    rw [small]
    exact ⟨by omega, by omega, by omega, smallL_of_check u l (d + 1) h2.2.2.2.2.2.2.1, smallF_of_check u f (d + 1) none h2.2.2.2.2.2.2.2⟩
theorem smallL_of_check (u : ByteArray → Bool) : ∀ (l : List V) (d : Nat), checkL u d l = 0 → smallL l
  | [], d, h => by rw [smallL]; trivial
  | x :: r, d, h => by
    rw [checkL] at h
    rw [smallL]
    split at h
    · rename_i h1; exact absurd h h1
    · rename_i h1; exact ⟨small_of_check u x d (by simpa using h1), smallL_of_check u r d h⟩
theorem smallF_of_check (u : ByteArray → Bool) : ∀ (f : List (ByteArray × V)) (d : Nat) (p : Option ByteArray), checkF u d p f = 0 → smallF f
  | [], d, p, h => by rw [smallF]; trivial
  | (m, x) :: r, d, p, h => by
    rw [checkF] at h
    rw [smallF]
    split at h
    · rename_i h1; exact absurd h h1
    · rename_i h0
      split at h
      · cases h
      · split at h
        · rename_i h1; exact absurd h h1
        · rename_i h1
          refine ⟨?_, small_of_check u x d (by simpa using h1), smallF_of_check u r d (some m) h⟩
          have h0' : nameErr u m = 0 := by simpa using h0
          rw [nameErr] at h0'
          split at h0'
          · cases h0'
          · omega
end
end Vl
open Go.RowKit
open Vl (V)
attribute [local go_sem ↓] Go.wp_at_zero Go.wp_at_succ
theorem revs_kept {W : World} {base rn rc : Nat} {ra : Option Addr} {cs : List Value} {rs : List Jn.R} (h1 : W.ownsRow base 57 10 (.slice ra rn rc) rs.length cs) (h2 : KeptR W base (.slice ra rn rc) cs rs) (hl : rs.length ≤ maxLen) :
    rn = rs.length ∧ (0 < rn → ∃ g o, ra = some ⟨g, o, none⟩ ∧ g < W.heap.size ∧ ∀ i r, rs[i]? = some r → RevAt W W.heap.size g (o + i * 10) r) := by
  have h := BkN.bk (b := ⟨0, ⟨#[]⟩, ⟨#[]⟩, [], rs⟩) (sa := none) (sn := 0) (sc := 0) (W := W) (base := base) (ra := ra) (rn := rn) (rc := rc) ⟨(by show 0 < 18446744073709551616; decide), (Nat.zero_le _), (Nat.zero_le _), (fun s hs => by cases hs), hl, World.ownsRow_nil _ _ _ _, cs, h1, h2⟩
  exact ⟨h.many, h.revs⟩
theorem Jn.sizes_ok {b : Jn.B} (h : Jn.sizes b = 0) : b.prev.size = 32 ∧ b.root.size = 32 ∧ b.sts.length ≤ 64 ∧ b.revs.length ≤ 64 := by
  rw [Jn.sizes] at h
  split at h
  · cases h
  · split at h
    · cases h
    · split at h
      · cases h
      · omega
theorem Jn.small_ok {b : Jn.B} (h : Jn.berr b = 0) : ∀ r ∈ b.revs, Vl.small r.val := by
  intro r hr
  have h1 := (Jn.berr_ok h).2.2.1 r hr
  rw [Jn.rerr] at h1
  have h2 : Jn.rwhy r = 0 := by
    split at h1
    · rename_i h2; exact absurd h1 h2
    · rename_i h2; simpa using h2
  rw [Jn.rwhy] at h2
  refine Vl.small_of_check Bn.u8 r.val 0 ?_
  split at h2
  · cases h2
  · split at h2
    · cases h2
    · split at h2
      · cases h2
      · split at h2
        · cases h2
        · split at h2
          · rename_i h3; exact absurd h2 h3
          · rename_i h3; simpa using h3
set_option maxHeartbeats 8000000 in
set_option maxRecDepth 100000 in
theorem heads_no (b : Jn.B) (sa : Option Addr) (sn sc : Nat) (ra : Option Addr) (rn rc : Nat) (lv : Value) (w : World) (hU : Bn.HasU w) (hK : HasK w) (hB : Bk w w.heap.size b sa sn sc ra rn rc) (hbe : Jn.berr b ≠ 0) :
    Calls Tryz.prog 6 #[.agg #[.int .u64 (b.seq : Int), .string b.prev, .string b.root, .slice sa sn sc, .slice ra rn rc], lv] w fun e w' => e = .returned (.bool true) ∧ Below w.heap.size w w' := by
  have HU : Hid (∀ W, Below w.heap.size w W → Bn.HasU W) := fun W hW => hU.stays hW
  have HK : Hid (∀ W, Below w.heap.size w W → HasK W) := fun W hW => hK.below hK.1 hW
  have HBK : Hid (∀ W, Below w.heap.size w W → Bk W W.heap.size b sa sn sc ra rn rc) := fun W hW => hB.stays hW hW.size
  have CL : Hid (∀ W, Below w.heap.size w W → Calls Tryz.prog 8 #[] W fun e w' => e = .returned (.bool true) ∧ Below W.heap.size W w') := fun W hW => livesJ_c W (HU.out W hW) (HK.out W hW)
  obtain ⟨be, hbe2⟩ : ∃ be, be = Jn.berr b := ⟨_, rfl⟩
  have CS : Hid (∀ W, Below w.heap.size w W → Calls Tryz.prog 17 #[.agg #[.int .u64 (b.seq : Int), .string b.prev, .string b.root, .slice sa sn sc, .slice ra rn rc]] W fun e w' => e = .returned (.tuple #[.agg #[.int .u64 0, .string ⟨#[]⟩, .string ⟨#[]⟩, .int .u64 0, .string ⟨#[]⟩], .int .i64 (be : Int)]) ∧ Below W.heap.size W w') := fun W hW => by
    have h := shortB_c b sa sn sc ra rn rc W (HU.out W hW) (HK.out W hW) (HBK.out W hW)
    rw [if_neg hbe, ← hbe2] at h
    exact h
  rw [← hbe2] at hbe
  obtain ⟨w1, hw1⟩ : ∃ w1, w1 = w.alloc (.cells #[.int .u64 (b.seq : Int), .string b.prev, .string b.root, .slice sa sn sc, .slice ra rn rc] 26) := ⟨_, rfl⟩
  have V1 : Hid (w1.heap[w.heap.size]? = some (.cells #[.int .u64 (b.seq : Int), .string b.prev, .string b.root, .slice sa sn sc, .slice ra rn rc] 26 (0, 0)) ∧ Below w.heap.size w w1) := by rw [hw1]; exact ⟨heap_alloc_new w _, below_new _ _⟩
  have q0 : ((be : Int) == 0) = false := by rw [beq_eq_false_iff_ne]; omega
  clear hU hK hB hbe hbe2 HBK
  go_enter Tryz.func6, Tryz.ntmps6
  go_upto_region 1 with fail
  rw [← hw1]
  clear hw1
  go_wp2_with fail
  refine (CL.out _ V1.out.2).mono ?_
  rintro e w2 ⟨rfl, hb2⟩
  have V2 : Hid (w2.heap[w.heap.size]? = some (.cells #[.int .u64 (b.seq : Int), .string b.prev, .string b.root, .slice sa sn sc, .slice ra rn rc] 26 (0, 0)) ∧ Below w.heap.size w w2) := ⟨blk_call V1.out.1 hb2, V1.out.2.trans (hb2.mono V1.out.2.size)⟩
  clear hb2 V1 CL
  have p0 := block_cells V2.out.1 0 _ rfl
  have p1 := block_cells V2.out.1 1 _ rfl
  have p2 := block_cells V2.out.1 2 _ rfl
  have p3 := block_cells V2.out.1 3 _ rfl
  have p4 := block_cells V2.out.1 4 _ rfl
  go_wp2_with fail
  refine (CS.out _ V2.out.2).mono ?_
  rintro e w3 ⟨rfl, hb3⟩
  have V3 : Hid (Below w.heap.size w w3) := V2.out.2.trans (hb3.mono V2.out.2.size)
  clear hb3 V2 CS p0 p1 p2 p3 p4
  go_upto_region 4 with fail
  obtain ⟨w4, hw4⟩ : ∃ w4, w4 = w3.alloc (.cells #[.int .u64 0, .string ⟨#[]⟩, .string ⟨#[]⟩, .int .u64 0, .string ⟨#[]⟩] 46) := ⟨_, rfl⟩
  have V4 : Hid (w4.heap[w3.heap.size]? = some (.cells #[.int .u64 0, .string ⟨#[]⟩, .string ⟨#[]⟩, .int .u64 0, .string ⟨#[]⟩] 46 (0, 0)) ∧ Below w.heap.size w w4) := by rw [hw4]; exact ⟨heap_alloc_new w3 _, V3.out.trans ((below_new _ _).mono V3.out.size)⟩
  rw [← hw4]
  clear hw4 V3
  have p0 := block_cells V4.out.1 0 _ rfl
  have p1 := block_cells V4.out.1 1 _ rfl
  have p2 := block_cells V4.out.1 2 _ rfl
  have p3 := block_cells V4.out.1 3 _ rfl
  have p4 := block_cells V4.out.1 4 _ rfl
  have HF := V4.out.2
  go_wp2
  go_ret
  exact ⟨rfl, HF⟩
end Go.Proofs.YtipekiknmgbdgaaGreatDoor
/- JournalHeads, walked: the block right. -/
namespace Go.Proofs.YtipekiknmgbdgaaGreatDoor
open Go.RowKit
open Vl (V)
attribute [local go_sem ↓] Go.wp_at_zero Go.wp_at_succ
theorem map_bs (l : List (List UInt8)) : ((l.map bs).map fun s => s.data.toList) = l := by
  rw [List.map_map]
  exact (List.map_congr_left (fun x _ => rfl)).trans (List.map_id l)
set_option maxHeartbeats 8000000 in
set_option maxRecDepth 100000 in
theorem heads_ok (b : Jn.B) (sa : Option Addr) (sn sc : Nat) (ra : Option Addr) (rn rc : Nat) (a : Option Addr) (n c : Nat) (l : List (List UInt8)) (w : World) (hU : Bn.HasU w) (hK : HasK w) (hB : Bk w w.heap.size b sa sn sc ra rn rc) (hS : Sl w w.heap.size (.slice a n c) l) (hx : ∀ x ∈ l, x.length ≤ maxLen) (hbe : Jn.berr b = 0) :
    Calls Tryz.prog 6 #[.agg #[.int .u64 (b.seq : Int), .string b.prev, .string b.root, .slice sa sn sc, .slice ra rn rc], .slice a n c] w fun e w' => e = .returned (.bool true) ∧ Below w.heap.size w w' := by
  have hz := Jn.sizes_ok (Jn.berr_ok hbe).1
  have hmany := hB.many
  have hrn : rn ≤ 64 := by omega
  have HRL : Hid (b.revs.length ≤ 64) := by show _ ≤ _; omega
  have HU : Hid (∀ W, Below w.heap.size w W → Bn.HasU W) := fun W hW => hU.stays hW
  have HK : Hid (∀ W, Below w.heap.size w W → HasK W) := fun W hW => hK.below hK.1 hW
  have HBK : Hid (∀ W, Below w.heap.size w W → Bk W W.heap.size b sa sn sc ra rn rc) := fun W hW => hB.stays hW hW.size
  have HSL : Hid (∀ W, Below w.heap.size w W → Sl W W.heap.size (.slice a n c) l) := fun W hW => (hS.stays hW (Nat.le_refl _)).mono hW.size
  have CL : Hid (∀ W, Below w.heap.size w W → Calls Tryz.prog 8 #[] W fun e w' => e = .returned (.bool true) ∧ Below W.heap.size W w') := fun W hW => livesJ_c W (HU.out W hW) (HK.out W hW)
  obtain ⟨sd, hsd⟩ : ∃ sd, sd = Jn.stsDigest (b.sts.map fun s => s.data.toList) := ⟨_, rfl⟩
  obtain ⟨se, hse⟩ : ∃ se, se = Jn.stsDigest l := ⟨_, rfl⟩
  have HSD : Hid (sd.size = 32) := by show _ = _; rw [hsd, Jn.stsDigest, bs_size]; exact Mk.sum_length _
  have CS : Hid (∀ W, Below w.heap.size w W → Calls Tryz.prog 17 #[.agg #[.int .u64 (b.seq : Int), .string b.prev, .string b.root, .slice sa sn sc, .slice ra rn rc]] W fun e w' => e = .returned (.tuple #[.agg #[.int .u64 (b.seq : Int), .string b.prev, .string b.root, .int .u64 (rn : Int), .string sd], .int .i64 0]) ∧ Below W.heap.size W w') := fun W hW => by
    have h := shortB_c b sa sn sc ra rn rc W (HU.out W hW) (HK.out W hW) (HBK.out W hW)
    rw [if_pos hbe, hbe, hcells, Jn.headOf, ← hsd, ← hmany] at h
    exact h
  have CB : Hid (∀ W, Below w.heap.size w W → Calls Tryz.prog 22 #[.agg #[.int .u64 (b.seq : Int), .string b.prev, .string b.root, .slice sa sn sc, .slice ra rn rc]] W fun e w' => ∃ (ta : Option Addr) (tc : Nat) (ua : Option Addr) (un uc : Nat), e = .returned (.agg #[.int .u64 (b.seq : Int), .string b.prev, .string b.root, .slice ta sn tc, .slice ua un uc]) ∧ Below W.heap.size W w' ∧ ∃ base cs, W.heap.size ≤ base ∧ w'.ownsRow base 57 10 (.slice ua un uc) b.revs.length cs ∧ KeptR w' base (.slice ua un uc) cs b.revs) := fun W hW =>
    copyB_c b sa sn sc ra rn rc W (by omega) (by omega) (Jn.small_ok hbe) (HBK.out W hW)
  obtain ⟨be, hbe2⟩ : ∃ be, be = Jn.berr ⟨b.seq, b.prev, b.root, l.map bs, b.revs⟩ := ⟨_, rfl⟩
  have CG : Hid (∀ ua un uc W, Below w.heap.size w W → (un = b.revs.length ∧ (0 < un → ∃ g o, ua = some ⟨g, o, none⟩ ∧ g < W.heap.size ∧ ∀ i r, b.revs[i]? = some r → RevAt W W.heap.size g (o + i * 10) r)) → Calls Tryz.prog 17 #[.agg #[.int .u64 (b.seq : Int), .string b.prev, .string b.root, .slice a n c, .slice ua un uc]] W fun e w' => ((be = 0 ∧ e = .returned (.tuple #[.agg #[.int .u64 (b.seq : Int), .string b.prev, .string b.root, .int .u64 (rn : Int), .string se], .int .i64 0])) ∨ (be ≠ 0 ∧ e = .returned (.tuple #[.agg #[.int .u64 0, .string ⟨#[]⟩, .string ⟨#[]⟩, .int .u64 0, .string ⟨#[]⟩], .int .i64 (be : Int)]))) ∧ Below W.heap.size W w') := fun ua un uc W hW hr => by
    have hk := HBK.out W hW
    have hk2 : Bk W W.heap.size ⟨b.seq, b.prev, b.root, l.map bs, b.revs⟩ a n c ua un uc := ⟨hk.seq, hk.prev, hk.root, by show Sl _ _ _ ((l.map bs).map fun s => s.data.toList); rw [map_bs]; exact HSL.out W hW, fun s hs => by
      obtain ⟨x, hx1, rfl⟩ := List.mem_map.1 hs
      rw [bs_size]; exact hx x hx1, hr.1, by rw [hr.1, ← hmany]; exact hk.len, hr.2⟩
    have h := shortB_c ⟨b.seq, b.prev, b.root, l.map bs, b.revs⟩ a n c ua un uc W (HU.out W hW) (HK.out W hW) hk2
    refine h.mono ?_
    rintro e w' ⟨he, hb⟩
    refine ⟨?_, hb⟩
    rw [← hbe2] at he
    by_cases h0 : be = 0
    · left
      rw [if_pos h0, hcells, Jn.headOf, h0] at he
      refine ⟨h0, he.trans ?_⟩
      show Ending.returned (.tuple #[.agg #[.int .u64 (b.seq : Int), .string b.prev, .string b.root, .int .u64 (b.revs.length : Int), .string (Jn.stsDigest ((l.map bs).map fun s => s.data.toList))], .int .i64 0]) = _
      rw [map_bs, ← hse, ← hmany]
    · right
      rw [if_neg h0] at he
      exact ⟨h0, he⟩
  obtain ⟨dg, hdg⟩ : ∃ dg, dg = Jn.digest ⟨b.seq, b.prev, b.root, rn, sd⟩ := ⟨_, rfl⟩
  have HDG : Hid (dg.size = 32) := by show _ = _; rw [hdg, Jn.digest, bs_size]; exact Mk.sum_length _
  have CD : Hid (∀ W, Below w.heap.size w W → Calls Tryz.prog 18 #[.agg #[.int .u64 (b.seq : Int), .string b.prev, .string b.root, .int .u64 (rn : Int), .string sd]] W fun e w' => e = .returned (.string dg) ∧ Below W.heap.size W w') := fun W hW => by
    have hk := HBK.out W hW
    rw [hdg]
    exact digest_c b.seq b.prev b.root rn sd hk.seq hk.prev hk.root (by omega) (by rw [HSD.out]; unfold maxLen; omega) W (HU.out W hW) (HK.out W hW)
  obtain ⟨w1, hw1⟩ : ∃ w1, w1 = w.alloc (.cells #[.int .u64 (b.seq : Int), .string b.prev, .string b.root, .slice sa sn sc, .slice ra rn rc] 26) := ⟨_, rfl⟩
  have V1 : Hid (w1.heap[w.heap.size]? = some (.cells #[.int .u64 (b.seq : Int), .string b.prev, .string b.root, .slice sa sn sc, .slice ra rn rc] 26 (0, 0)) ∧ Below w.heap.size w w1) := by rw [hw1]; exact ⟨heap_alloc_new w _, below_new _ _⟩
  clear hU hK hB hS hx hbe hbe2 hz hmany hsd hse hdg HBK HSL
  go_enter Tryz.func6, Tryz.ntmps6
  go_upto_region 1 with fail
  rw [← hw1]
  clear hw1
  go_wp2_with fail
  refine (CL.out _ V1.out.2).mono ?_
  rintro e w2 ⟨rfl, hb2⟩
  have V2 : Hid (w2.heap[w.heap.size]? = some (.cells #[.int .u64 (b.seq : Int), .string b.prev, .string b.root, .slice sa sn sc, .slice ra rn rc] 26 (0, 0)) ∧ Below w.heap.size w w2) := ⟨blk_call V1.out.1 hb2, V1.out.2.trans (hb2.mono V1.out.2.size)⟩
  clear hb2 V1 CL
  have p0 := block_cells V2.out.1 0 _ rfl
  have p1 := block_cells V2.out.1 1 _ rfl
  have p2 := block_cells V2.out.1 2 _ rfl
  have p3 := block_cells V2.out.1 3 _ rfl
  have p4 := block_cells V2.out.1 4 _ rfl
  go_wp2_with fail
  refine (CS.out _ V2.out.2).mono ?_
  rintro e w3 ⟨rfl, hb3⟩
  have V3 : Hid (w3.heap[w.heap.size]? = some (.cells #[.int .u64 (b.seq : Int), .string b.prev, .string b.root, .slice sa sn sc, .slice ra rn rc] 26 (0, 0)) ∧ Below w.heap.size w w3) := ⟨blk_call V2.out.1 hb3, V2.out.2.trans (hb3.mono V2.out.2.size)⟩
  clear hb3 V2 CS p0 p1 p2 p3 p4
  go_upto_region 4 with fail
  obtain ⟨w4, hw4⟩ : ∃ w4, w4 = w3.alloc (.cells #[.int .u64 (b.seq : Int), .string b.prev, .string b.root, .int .u64 (rn : Int), .string sd] 46) := ⟨_, rfl⟩
  obtain ⟨HH, hHH⟩ : ∃ HH, HH = w3.heap.size := ⟨_, rfl⟩
  have V4 : Hid (w4.heap[w.heap.size]? = some (.cells #[.int .u64 (b.seq : Int), .string b.prev, .string b.root, .slice sa sn sc, .slice ra rn rc] 26 (0, 0)) ∧ w4.heap[HH]? = some (.cells #[.int .u64 (b.seq : Int), .string b.prev, .string b.root, .int .u64 (rn : Int), .string sd] 46 (0, 0)) ∧ Below w.heap.size w w4) := by rw [hw4, hHH]; exact ⟨blk_call V3.out.1 (below_new _ _), heap_alloc_new w3 _, V3.out.2.trans ((below_new _ _).mono V3.out.2.size)⟩
  rw [← hw4, ← hHH]
  clear hw4 hHH V3
  have p0 := block_cells V4.out.1 0 _ rfl
  have p1 := block_cells V4.out.1 1 _ rfl
  have p2 := block_cells V4.out.1 2 _ rfl
  have p3 := block_cells V4.out.1 3 _ rfl
  have p4 := block_cells V4.out.1 4 _ rfl
  go_wp2_with fail
  refine (CB.out _ V4.out.2.2).mono ?_
  rintro e w5 ⟨ta, tc, ua, un, uc, rfl, hb5, base, cs, hbs, ho5, hk5⟩
  have V5 : Hid (w5.heap[w.heap.size]? = some (.cells #[.int .u64 (b.seq : Int), .string b.prev, .string b.root, .slice sa sn sc, .slice ra rn rc] 26 (0, 0)) ∧ w5.heap[HH]? = some (.cells #[.int .u64 (b.seq : Int), .string b.prev, .string b.root, .int .u64 (rn : Int), .string sd] 46 (0, 0)) ∧ Below w.heap.size w w5 ∧ w5.ownsRow base 57 10 (.slice ua un uc) b.revs.length cs ∧ KeptR w5 base (.slice ua un uc) cs b.revs) := ⟨blk_call V4.out.1 hb5, blk_call V4.out.2.1 hb5, V4.out.2.2.trans (hb5.mono V4.out.2.2.size), ho5, hk5⟩
  clear hb5 hbs ho5 hk5 V4 CB p0 p1 p2 p3 p4
  go_upto_region 7 with fail
  obtain ⟨w6, hw6⟩ : ∃ w6, w6 = w5.alloc (.cells #[.int .u64 (b.seq : Int), .string b.prev, .string b.root, .slice ta sn tc, .slice ua un uc] 26) := ⟨_, rfl⟩
  obtain ⟨C, hC⟩ : ∃ C, C = w5.heap.size := ⟨_, rfl⟩
  have L5 : Hid (w.heap.size < w5.heap.size ∧ HH < w5.heap.size ∧ w.heap.size ≤ w5.heap.size) := ⟨(Array.getElem?_eq_some_iff.1 V5.out.1).1, (Array.getElem?_eq_some_iff.1 V5.out.2.1).1, V5.out.2.2.1.size⟩
  have V6 : Hid (w6.heap[w.heap.size]? = some (.cells #[.int .u64 (b.seq : Int), .string b.prev, .string b.root, .slice sa sn sc, .slice ra rn rc] 26 (0, 0)) ∧ w6.heap[HH]? = some (.cells #[.int .u64 (b.seq : Int), .string b.prev, .string b.root, .int .u64 (rn : Int), .string sd] 46 (0, 0)) ∧ Below w.heap.size w w6 ∧ w6.heap[C]? = some (.cells #[.int .u64 (b.seq : Int), .string b.prev, .string b.root, .slice ta sn tc, .slice ua un uc] 26 (0, 0)) ∧ w6.ownsRow base 57 10 (.slice ua un uc) b.revs.length cs ∧ (∀ W', (∀ g, g < C → W'.heap[g]? = w6.heap[g]?) → C ≤ W'.heap.size → KeptR W' base (.slice ua un uc) cs b.revs) ∧ (∀ k, (Value.slice ua un uc).ownBlock = some k → k < C) ∧ w.heap.size < C ∧ HH < C) := by
    have h5 := V5.out
    have hb := below_new w5 (.cells #[.int .u64 (b.seq : Int), .string b.prev, .string b.root, .slice ta sn tc, .slice ua un uc] 26)
    rw [hw6, hC]
    exact ⟨blk_call h5.1 hb, blk_call h5.2.1 hb, h5.2.2.1.trans (hb.mono h5.2.2.1.size), heap_alloc_new w5 _, own_call h5.2.2.2.1 hb, (fun W' h1 h2 => h5.2.2.2.2.step fun g hg => ⟨(h1 g hg.2.1).trans (hb.block g hg.2.1), hg.1, Nat.lt_of_lt_of_le hg.2.1 h2, hg.2.2⟩), fun k hk => (own_in h5.2.2.2.1 k hk).2, L5.out.1, L5.out.2.1⟩
  rw [← hw6, ← hC]
  clear hw6 V5 L5 hC
  have fz := row_freeV V6.out.2.2.2.1
  have p3 := block_cells V6.out.2.2.2.1 3 _ rfl
  go_upto_region 8 with fail
  obtain ⟨w7, hw7⟩ : ∃ w7, w7 = w6.setCell ⟨C, 3, none⟩ (.slice a n c) := ⟨_, rfl⟩
  have V7 : Hid (w7.heap[w.heap.size]? = some (.cells #[.int .u64 (b.seq : Int), .string b.prev, .string b.root, .slice sa sn sc, .slice ra rn rc] 26 (0, 0)) ∧ w7.heap[HH]? = some (.cells #[.int .u64 (b.seq : Int), .string b.prev, .string b.root, .int .u64 (rn : Int), .string sd] 46 (0, 0)) ∧ Below w.heap.size w w7 ∧ w7.heap[C]? = some (.cells #[.int .u64 (b.seq : Int), .string b.prev, .string b.root, .slice a n c, .slice ua un uc] 26 (0, 0)) ∧ (un = b.revs.length ∧ (0 < un → ∃ g o, ua = some ⟨g, o, none⟩ ∧ g < w7.heap.size ∧ ∀ i r, b.revs[i]? = some r → RevAt w7 w7.heap.size g (o + i * 10) r))) := by
    obtain ⟨h1, h2, h3, h4, h5, h6, h7, h8, h9⟩ := V6.out
    have ho : w7.ownsRow base 57 10 (.slice ua un uc) b.revs.length cs := by
      rw [hw7]; exact own_set h5 (fun e => by have := h7 C e.symm; omega)
    have hk : KeptR w7 base (.slice ua un uc) cs b.revs := h6 w7 (fun g hg => by rw [hw7]; exact heap_setCell_other _ _ _ _ (by show g ≠ C; omega)) (by have := (Array.getElem?_eq_some_iff.1 h4).1; rw [hw7]; simp; omega)
    rw [hw7] at ho hk ⊢
    exact ⟨(heap_setCell_other _ _ _ _ (by show w.heap.size ≠ C; omega)).trans h1, (heap_setCell_other _ _ _ _ (by show HH ≠ C; omega)).trans h2, h3.setCell (by show w.heap.size ≤ C; omega) _, heap_setCell_same w6 _ 3 _ 26 _ h4, revs_kept ho hk (by have := HRL.out; unfold maxLen; omega)⟩
  rw [← hw7]
  clear hw7 V6 fz p3
  have p0 := block_cells V7.out.2.2.2.1 0 _ rfl
  have p1 := block_cells V7.out.2.2.2.1 1 _ rfl
  have p2 := block_cells V7.out.2.2.2.1 2 _ rfl
  have p3 := block_cells V7.out.2.2.2.1 3 _ rfl
  have p4 := block_cells V7.out.2.2.2.1 4 _ rfl
  go_wp2_with fail
  refine (CG.out ua un uc _ V7.out.2.2.1 V7.out.2.2.2.2).mono ?_
  rintro e w8 ⟨he, hb8⟩
  have V8 : Hid (w8.heap[w.heap.size]? = some (.cells #[.int .u64 (b.seq : Int), .string b.prev, .string b.root, .slice sa sn sc, .slice ra rn rc] 26 (0, 0)) ∧ w8.heap[HH]? = some (.cells #[.int .u64 (b.seq : Int), .string b.prev, .string b.root, .int .u64 (rn : Int), .string sd] 46 (0, 0)) ∧ Below w.heap.size w w8) := ⟨blk_call V7.out.1 hb8, blk_call V7.out.2.1 hb8, V7.out.2.2.1.trans (hb8.mono V7.out.2.2.1.size)⟩
  clear hb8 V7 CG p0 p1 p2 p3 p4
  have beq0 : ((b.seq : Int) == (b.seq : Int)) = true := beq_self_eq_true _
  have beq1 : (b.prev.toList == b.prev.toList) = true := beq_self_eq_true _
  have beq2 : (b.root.toList == b.root.toList) = true := beq_self_eq_true _
  have beq3 : ((rn : Int) == (rn : Int)) = true := beq_self_eq_true _
  have beq4 : (sd.toList == sd.toList) = true := beq_self_eq_true _
  rcases he with ⟨h0, rfl⟩ | ⟨h0, rfl⟩
  · have H0 : Hid (be = 0) := h0
    clear h0
    go_upto_region 9 with fail
    obtain ⟨w9, hw9⟩ : ∃ w9, w9 = w8.alloc (.cells #[.int .u64 (b.seq : Int), .string b.prev, .string b.root, .int .u64 (rn : Int), .string se] 46) := ⟨_, rfl⟩
    obtain ⟨G, hG⟩ : ∃ G, G = w8.heap.size := ⟨_, rfl⟩
    have V9 : Hid (w9.heap[w.heap.size]? = some (.cells #[.int .u64 (b.seq : Int), .string b.prev, .string b.root, .slice sa sn sc, .slice ra rn rc] 26 (0, 0)) ∧ w9.heap[HH]? = some (.cells #[.int .u64 (b.seq : Int), .string b.prev, .string b.root, .int .u64 (rn : Int), .string sd] 46 (0, 0)) ∧ Below w.heap.size w w9 ∧ w9.heap[G]? = some (.cells #[.int .u64 (b.seq : Int), .string b.prev, .string b.root, .int .u64 (rn : Int), .string se] 46 (0, 0)) ∧ w.heap.size < G ∧ HH < G) := by
      have h8 := V8.out
      have hb := below_new w8 (.cells #[.int .u64 (b.seq : Int), .string b.prev, .string b.root, .int .u64 (rn : Int), .string se] 46)
      rw [hw9, hG]
      exact ⟨blk_call h8.1 hb, blk_call h8.2.1 hb, h8.2.2.trans (hb.mono h8.2.2.size), heap_alloc_new w8 _, (Array.getElem?_eq_some_iff.1 h8.1).1, (Array.getElem?_eq_some_iff.1 h8.2.1).1⟩
    rw [← hw9, ← hG]
    clear hw9 V8 hG
    have p4 := block_cells V9.out.2.1 4 _ rfl
    have q4 := block_cells V9.out.2.2.2.1 4 _ rfl
    have fz := row_freeV V9.out.2.2.2.1
    go_upto_region 12 with fail
    obtain ⟨w10, hw10⟩ : ∃ w10, w10 = w9.setCell ⟨G, 4, none⟩ (.string sd) := ⟨_, rfl⟩
    have V10 : Hid (w10.heap[w.heap.size]? = some (.cells #[.int .u64 (b.seq : Int), .string b.prev, .string b.root, .slice sa sn sc, .slice ra rn rc] 26 (0, 0)) ∧ w10.heap[HH]? = some (.cells #[.int .u64 (b.seq : Int), .string b.prev, .string b.root, .int .u64 (rn : Int), .string sd] 46 (0, 0)) ∧ Below w.heap.size w w10 ∧ w10.heap[G]? = some (.cells #[.int .u64 (b.seq : Int), .string b.prev, .string b.root, .int .u64 (rn : Int), .string sd] 46 (0, 0))) := by
      obtain ⟨h1, h2, h3, h4, h5, h6⟩ := V9.out
      rw [hw10]
      exact ⟨(heap_setCell_other _ _ _ _ (by show w.heap.size ≠ G; omega)).trans h1, (heap_setCell_other _ _ _ _ (by show HH ≠ G; omega)).trans h2, h3.setCell (by show w.heap.size ≤ G; omega) _, heap_setCell_same w9 _ 4 _ 46 _ h4⟩
    rw [← hw10]
    clear hw10 V9 fz p4 q4
    have c0 := block_cells V10.out.1 0 _ rfl
    have c1 := block_cells V10.out.1 1 _ rfl
    have c2 := block_cells V10.out.1 2 _ rfl
    have c4 := block_cells V10.out.1 4 _ rfl
    have h0 := block_cells V10.out.2.1 0 _ rfl
    have g0 := block_cells V10.out.2.2.2 0 _ rfl
    have h1 := block_cells V10.out.2.1 1 _ rfl
    have g1 := block_cells V10.out.2.2.2 1 _ rfl
    have h2 := block_cells V10.out.2.1 2 _ rfl
    have g2 := block_cells V10.out.2.2.2 2 _ rfl
    have h3 := block_cells V10.out.2.1 3 _ rfl
    have g3 := block_cells V10.out.2.2.2 3 _ rfl
    have h4 := block_cells V10.out.2.1 4 _ rfl
    have g4 := block_cells V10.out.2.2.2 4 _ rfl
    have HBW : Hid (Below w.heap.size w w10) := V10.out.2.2.1
    have z1 : ((sd.size : Int) == 32) = true := by rw [HSD.out]; rfl
    have z2 : ((dg.size : Int) == 32) = true := by rw [HDG.out]; rfl
    have z3 : IntKind.u64.wrap (rn : Int) = (rn : Int) := by show (rn : Int) % 18446744073709551616 = _; omega
    go_wp2_with fail
    refine (CD.out _ HBW.out).mono ?_
    rintro e w11 ⟨rfl, hb11⟩
    have HF := HBW.out.trans (hb11.mono HBW.out.size)
    clear hb11
    go_wp2
    go_ret
    exact ⟨rfl, HF⟩
  · have H0 : Hid (be ≠ 0) := h0
    have q0 : ((be : Int) == 0) = false := by rw [beq_eq_false_iff_ne]; omega
    clear h0
    go_upto_region 10 with fail
    obtain ⟨w9, hw9⟩ : ∃ w9, w9 = w8.alloc (.cells #[.int .u64 0, .string ⟨#[]⟩, .string ⟨#[]⟩, .int .u64 0, .string ⟨#[]⟩] 46) := ⟨_, rfl⟩
    have V9 : Hid (w9.heap[w.heap.size]? = some (.cells #[.int .u64 (b.seq : Int), .string b.prev, .string b.root, .slice sa sn sc, .slice ra rn rc] 26 (0, 0)) ∧ w9.heap[HH]? = some (.cells #[.int .u64 (b.seq : Int), .string b.prev, .string b.root, .int .u64 (rn : Int), .string sd] 46 (0, 0)) ∧ Below w.heap.size w w9) := by
      have h8 := V8.out
      have hb := below_new w8 (.cells #[.int .u64 0, .string ⟨#[]⟩, .string ⟨#[]⟩, .int .u64 0, .string ⟨#[]⟩] 46)
      rw [hw9]
      exact ⟨blk_call h8.1 hb, blk_call h8.2.1 hb, h8.2.2.trans (hb.mono h8.2.2.size)⟩
    rw [← hw9]
    clear hw9 V8
    have c0 := block_cells V9.out.1 0 _ rfl
    have c2 := block_cells V9.out.1 2 _ rfl
    have h0 := block_cells V9.out.2.1 0 _ rfl
    have h2 := block_cells V9.out.2.1 2 _ rfl
    have HF := V9.out.2.2
    go_wp2
    go_ret
    exact ⟨rfl, HF⟩
theorem heads_c (b : Jn.B) (sa : Option Addr) (sn sc : Nat) (ra : Option Addr) (rn rc : Nat) (a : Option Addr) (n c : Nat) (l : List ByteArray) (w : World) (hU : Bn.HasU w) (hK : HasK w) (hB : Bk w w.heap.size b sa sn sc ra rn rc) (hS : Sl w w.heap.size (.slice a n c) (l.map fun s => s.data.toList)) (hx : ∀ s ∈ l, s.size ≤ maxLen) :
    Calls Tryz.prog 6 #[.agg #[.int .u64 (b.seq : Int), .string b.prev, .string b.root, .slice sa sn sc, .slice ra rn rc], .slice a n c] w fun e w' => e = .returned (.bool true) ∧ Below w.heap.size w w' := by
  by_cases h : Jn.berr b = 0
  · refine heads_ok b sa sn sc ra rn rc a n c _ w hU hK hB hS (fun x hx1 => ?_) h
    obtain ⟨s, hs, rfl⟩ := List.mem_map.1 hx1
    have := hx s hs
    rw [Lib.size_eq] at this
    exact this
  · exact heads_no b sa sn sc ra rn rc _ w hU hK hB h
end Go.Proofs.YtipekiknmgbdgaaGreatDoor
