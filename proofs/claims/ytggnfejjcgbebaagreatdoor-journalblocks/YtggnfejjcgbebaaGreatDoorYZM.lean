/- JournalBlocks, walked: any parts make a block, or are told why not; any block is right or not, and has its texts. -/
import Derived.Test.YtggnfejjcgbebaaGreatDoorYEM
import Derived.Test.YtggnfejjcgbebaaGreatDoorQKM
import Derived.Test.YtggnfejjcgbebaaGreatDoorXEM
import Derived.Laws.StructEq
namespace Go.Proofs.YtggnfejjcgbebaaGreatDoor
open Go.RowKit
open Vl (V)
attribute [local go_sem ↓] Go.wp_at_zero Go.wp_at_succ
namespace Jn
/-- the block that is answered -/
def orB (c : B) : B := if berr c = 0 then c else B0
theorem orB_sts (c : B) : (orB c).sts.length ≤ 1048576 := by
  rw [orB]
  split
  · rename_i h
    have := (berr_seq h).2.2.2.2.1
    omega
  · decide
end Jn
theorem make_gave {c : Jn.B} {w w' : World} {en : Ending} (h : MakeGave c w en w') : ∃ (a : Option Addr) (n d : Nat) (e : Option Addr) (f g : Nat), en = .returned (.tuple #[.agg #[.int .u64 ((Jn.orB c).seq : Int), .string (Jn.orB c).prev, .string (Jn.orB c).root, .slice a n d, .slice e f g], .int .i64 (Jn.berr c : Int)]) ∧ Below w.heap.size w w' ∧ BkN w' w.heap.size (Jn.orB c) (.slice a n d) (.slice e f g) := by
  obtain ⟨hb, h | h⟩ := h
  · obtain ⟨h0, sv, rv, rfl, hn⟩ := h
    obtain ⟨ta, tn, tc, rfl⟩ : ∃ a n c, sv = .slice a n c := by obtain ⟨a, c, e⟩ := own_slc hn.row3; exact ⟨a, _, c, e⟩
    obtain ⟨ua, un, uc, rfl⟩ : ∃ a n c, rv = .slice a n c := by obtain ⟨cs, ho, _⟩ := hn.row4; obtain ⟨a, c, e⟩ := own_slc ho; exact ⟨a, _, c, e⟩
    have e1 : Jn.orB c = c := by rw [Jn.orB, if_pos h0]
    rw [e1, h0]
    exact ⟨_, _, _, _, _, _, rfl, hb, hn⟩
  · obtain ⟨h0, rfl⟩ := h
    have e1 : Jn.orB c = Jn.B0 := by rw [Jn.orB, if_neg h0]
    rw [e1]
    exact ⟨_, _, _, _, _, _, rfl, hb, BkN.zero _ _⟩
/-- the two variables that the arguments lie in -/
structure BS (w : World) (B D : Nat) (bc rc : Array Value) (W : World) : Prop where
  below : Below w.heap.size w W
  vb : W.heap[B]? = some (.cells bc 26 (0, 0))
  vr : W.heap[D]? = some (.cells rc 34 (0, 0))
theorem BS.call {w W W' : World} {B D : Nat} {bc rc : Array Value} (h : BS w B D bc rc W) (hb : Below W.heap.size W W') : BS w B D bc rc W' := ⟨h.below.trans (hb.mono h.below.size), blk_call h.vb hb, blk_call h.vr hb⟩
set_option maxHeartbeats 16000000 in
set_option maxRecDepth 100000 in
theorem blocks_c (sq : Nat) (pv : ByteArray) (sts : List ByteArray) (revs : List Jn.R) (za : Option Addr) (zn zc : Nat) (wa : Option Addr) (wn wc : Nat) (b : Jn.B) (sa : Option Addr) (sn sc : Nat) (ra : Option Addr) (rn rc : Nat) (r : Jn.R) (xk : Nat) (xb : Bool) (xn : Int) (xs : ByteArray) (xa : Option Addr) (xl xc : Nat) (ya : Option Addr) (yl yc : Nat) (w : World) (hU : Bn.HasU w) (hK : HasK w)
    (hA : Bk w w.heap.size ⟨sq, pv, Jn.ahead, sts, revs⟩ za zn zc wa wn wc) (hsm : ∀ r ∈ revs, Vl.small r.val) (hB : Bk w w.heap.size b sa sn sc ra rn rc)
    (hR : Rep w w.heap.size r.val (.agg #[.int .u8 (xk : Int), .bool xb, .int .i64 xn, .string xs, .slice xa xl xc, .slice ya yl yc])) (hx : xk = r.val.1) (hf : r.kind < 256 ∧ r.table.size ≤ maxLen ∧ r.doc < 18446744073709551616 ∧ r.ver < 18446744073709551616) :
    Calls Tryz.prog 3 #[.int .u64 (sq : Int), .string pv, .slice za zn zc, .slice wa wn wc, .agg #[.int .u64 (b.seq : Int), .string b.prev, .string b.root, .slice sa sn sc, .slice ra rn rc], .agg #[.int .u8 (r.kind : Int), .string r.table, .int .u64 (r.doc : Int), .int .u64 (r.ver : Int), .int .u8 (xk : Int), .bool xb, .int .i64 xn, .string xs, .slice xa xl xc, .slice ya yl yc]] w fun e w' => e = .returned (.bool true) ∧ Below w.heap.size w w' := by
  have HU : Hid (∀ W, Below w.heap.size w W → Bn.HasU W) := fun W hW => hU.stays hW
  have HK : Hid (∀ W, Below w.heap.size w W → HasK W) := fun W hW => hK.below hK.1 hW
  have HBK : Hid (∀ W, Below w.heap.size w W → Bk W W.heap.size b sa sn sc ra rn rc) := fun W hW => hB.stays hW hW.size
  have HAK : Hid (∀ W, Below w.heap.size w W → Bk W W.heap.size ⟨sq, pv, Jn.ahead, sts, revs⟩ za zn zc wa wn wc) := fun W hW => hA.stays hW hW.size
  have HR : Hid (∀ W, Below w.heap.size w W → Rep W W.heap.size r.val (.agg #[.int .u8 (xk : Int), .bool xb, .int .i64 xn, .string xs, .slice xa xl xc, .slice ya yl yc])) := fun W hW => rep_stays hW hW.size _ _ hR
  obtain ⟨m, hm⟩ : ∃ m, m = Jn.orB (Jn.made sq pv sts revs) := ⟨_, rfl⟩
  obtain ⟨me, hme⟩ : ∃ me, me = Jn.berr (Jn.made sq pv sts revs) := ⟨_, rfl⟩
  obtain ⟨be, hbe⟩ : ∃ be, be = Jn.berr b := ⟨_, rfl⟩
  obtain ⟨bx, hbx⟩ : ∃ bx, bx = Jn.btext b := ⟨_, rfl⟩
  obtain ⟨hd, hhd⟩ : ∃ hd : Jn.Hd, hd = if Jn.berr b = 0 then Jn.headOf b else ⟨0, ⟨#[]⟩, ⟨#[]⟩, 0, ⟨#[]⟩⟩ := ⟨_, rfl⟩
  obtain ⟨fx, hfx⟩ : ∃ fx, fx = if Jn.berr b = 0 then Jn.frameOf (Jn.btext b) else ⟨#[]⟩ := ⟨_, rfl⟩
  obtain ⟨rt, hrt⟩ : ∃ rt, rt = Jn.rtext r := ⟨_, rfl⟩
  obtain ⟨re, hre⟩ : ∃ re, re = Jn.rerr r := ⟨_, rfl⟩
  have HM : Hid (m.sts.length ≤ 1048576) := by show _ ≤ _; rw [hm]; exact Jn.orB_sts _
  have CM1 : Hid (∀ W, Below w.heap.size w W → Calls Tryz.prog 5 #[.int .u64 (sq : Int), .string pv, .slice za zn zc, .slice wa wn wc] W fun en w' => ∃ (a : Option Addr) (n d : Nat) (e : Option Addr) (f g : Nat), en = .returned (.tuple #[.agg #[.int .u64 (m.seq : Int), .string m.prev, .string m.root, .slice a n d, .slice e f g], .int .i64 (me : Int)]) ∧ Below W.heap.size W w' ∧ BkN w' W.heap.size m (.slice a n d) (.slice e f g)) := fun W hW => by
    rw [hm, hme]; exact (make_c sq pv sts revs za zn zc wa wn wc W (HU.out W hW) (HK.out W hW) (HAK.out W hW)).mono fun _ _ h => make_gave h
  have CM2 : Hid (∀ W, Below w.heap.size w W → Calls Tryz.prog 6 #[.int .u64 (sq : Int), .string pv, .slice za zn zc, .slice wa wn wc] W fun en w' => ∃ (a : Option Addr) (n d : Nat) (e : Option Addr) (f g : Nat), en = .returned (.tuple #[.agg #[.int .u64 (m.seq : Int), .string m.prev, .string m.root, .slice a n d, .slice e f g], .int .i64 (me : Int)]) ∧ Below W.heap.size W w' ∧ BkN w' W.heap.size m (.slice a n d) (.slice e f g)) := fun W hW => by
    rw [hm, hme]; exact (rmake_c sq pv sts revs za zn zc wa wn wc W (HAK.out W hW) hsm).mono fun _ _ h => make_gave h
  have CT1 : Hid (∀ W, Below w.heap.size w W → Calls Tryz.prog 7 #[.agg #[.int .u64 (b.seq : Int), .string b.prev, .string b.root, .slice sa sn sc, .slice ra rn rc]] W fun en w' => en = .returned (.tuple #[.string bx, .int .i64 (be : Int)]) ∧ Below W.heap.size W w') := fun W hW => by
    rw [hbx, hbe]; exact text_c b sa sn sc ra rn rc W (HU.out W hW) (HK.out W hW) (HBK.out W hW)
  have CT2 : Hid (∀ W, Below w.heap.size w W → Calls Tryz.prog 8 #[.agg #[.int .u64 (b.seq : Int), .string b.prev, .string b.root, .slice sa sn sc, .slice ra rn rc]] W fun en w' => en = .returned (.tuple #[.string bx, .int .i64 (be : Int)]) ∧ Below W.heap.size W w') := fun W hW => by
    rw [hbx, hbe]; exact rtextB_c b sa sn sc ra rn rc W (HBK.out W hW)
  have CS1 : Hid (∀ W, Below w.heap.size w W → Calls Tryz.prog 9 #[.agg #[.int .u64 (b.seq : Int), .string b.prev, .string b.root, .slice sa sn sc, .slice ra rn rc]] W fun en w' => en = .returned (.tuple #[.agg #[.int .u64 (hd.seq : Int), .string hd.prev, .string hd.root, .int .u64 (hd.revs : Int), .string hd.sts], .int .i64 (be : Int)]) ∧ Below W.heap.size W w') := fun W hW => by
    rw [hhd, hbe]; exact shortB_c b sa sn sc ra rn rc W (HU.out W hW) (HK.out W hW) (HBK.out W hW)
  have CS2 : Hid (∀ W, Below w.heap.size w W → Calls Tryz.prog 10 #[.agg #[.int .u64 (b.seq : Int), .string b.prev, .string b.root, .slice sa sn sc, .slice ra rn rc]] W fun en w' => en = .returned (.tuple #[.agg #[.int .u64 (hd.seq : Int), .string hd.prev, .string hd.root, .int .u64 (hd.revs : Int), .string hd.sts], .int .i64 (be : Int)]) ∧ Below W.heap.size W w') := fun W hW => by
    rw [hhd, hbe]; exact rshortB_c b sa sn sc ra rn rc W (HBK.out W hW)
  have CF1 : Hid (∀ W, Below w.heap.size w W → Calls Tryz.prog 11 #[.agg #[.int .u64 (b.seq : Int), .string b.prev, .string b.root, .slice sa sn sc, .slice ra rn rc]] W fun en w' => en = .returned (.tuple #[.string fx, .int .i64 (be : Int)]) ∧ Below W.heap.size W w') := fun W hW => by
    rw [hfx, hbe]; exact frame_c b sa sn sc ra rn rc W (HU.out W hW) (HK.out W hW) (HBK.out W hW)
  have CF2 : Hid (∀ W, Below w.heap.size w W → Calls Tryz.prog 12 #[.agg #[.int .u64 (b.seq : Int), .string b.prev, .string b.root, .slice sa sn sc, .slice ra rn rc]] W fun en w' => en = .returned (.tuple #[.string fx, .int .i64 (be : Int)]) ∧ Below W.heap.size W w') := fun W hW => by
    rw [hfx, hbe]; exact rframe_c b sa sn sc ra rn rc W (HBK.out W hW)
  have CC1 : Hid (∀ W, Below w.heap.size w W → Calls Tryz.prog 17 #[.agg #[.int .u64 (b.seq : Int), .string b.prev, .string b.root, .slice sa sn sc, .slice ra rn rc]] W fun en w' => en = .returned (.int .i64 (be : Int)) ∧ Below W.heap.size W w') := fun W hW => by
    rw [hbe]; exact check_c b sa sn sc ra rn rc W (HU.out W hW) (HK.out W hW) (HBK.out W hW)
  have CC2 : Hid (∀ W, Below w.heap.size w W → Calls Tryz.prog 18 #[.agg #[.int .u64 (b.seq : Int), .string b.prev, .string b.root, .slice sa sn sc, .slice ra rn rc]] W fun en w' => en = .returned (.int .i64 (be : Int)) ∧ Below W.heap.size W w') := fun W hW => by
    rw [hbe]; exact rcheckB_c b sa sn sc ra rn rc W (HBK.out W hW)
  have CR1 : Hid (∀ W, Below w.heap.size w W → Calls Tryz.prog 13 #[.agg #[.int .u8 (r.kind : Int), .string r.table, .int .u64 (r.doc : Int), .int .u64 (r.ver : Int), .int .u8 (xk : Int), .bool xb, .int .i64 xn, .string xs, .slice xa xl xc, .slice ya yl yc]] W fun en w' => en = .returned (.tuple #[.string rt, .int .i64 (re : Int)]) ∧ Below W.heap.size W w') := fun W hW => by
    rw [hrt, hre]; exact revText_c r.kind r.table r.doc r.ver r.val hf.1 hf.2.1 hf.2.2.1 hf.2.2.2 xk xb xn xs xa xl xc ya yl yc hx W (HU.out W hW) W.heap.size (Nat.le_refl _) (HR.out W hW)
  have CR2 : Hid (∀ W, Below w.heap.size w W → Calls Tryz.prog 14 #[.agg #[.int .u8 (r.kind : Int), .string r.table, .int .u64 (r.doc : Int), .int .u64 (r.ver : Int), .int .u8 (xk : Int), .bool xb, .int .i64 xn, .string xs, .slice xa xl xc, .slice ya yl yc]] W fun en w' => en = .returned (.tuple #[.string rt, .int .i64 (re : Int)]) ∧ Below W.heap.size W w') := fun W hW => by
    rw [hrt, hre]; exact rrevText_c r.kind r.table r.doc r.ver r.val hf.1 hf.2.1 hf.2.2.1 hf.2.2.2 xk xb xn xs xa xl xc ya yl yc hx W W.heap.size (Nat.le_refl _) (HR.out W hW)
  have CL : Hid (∀ W, Below w.heap.size w W → Calls Tryz.prog 15 #[] W fun e w' => e = .returned (.bool true) ∧ Below W.heap.size W w') := fun W hW => livesJ_c W (HU.out W hW) (HK.out W hW)
  clear hU hK hA hsm hB hR hx hf hm hme hbe hbx hhd hfx hrt hre HU HK HBK HAK HR
  obtain ⟨B, hBe⟩ : ∃ B, B = w.heap.size := ⟨_, rfl⟩
  obtain ⟨D, hDe⟩ : ∃ D, D = (w.alloc (.cells #[.int .u64 (b.seq : Int), .string b.prev, .string b.root, .slice sa sn sc, .slice ra rn rc] 26)).heap.size := ⟨_, rfl⟩
  obtain ⟨w1, hw1⟩ : ∃ w1, w1 = (w.alloc (.cells #[.int .u64 (b.seq : Int), .string b.prev, .string b.root, .slice sa sn sc, .slice ra rn rc] 26)).alloc (.cells #[.int .u8 (r.kind : Int), .string r.table, .int .u64 (r.doc : Int), .int .u64 (r.ver : Int), .int .u8 (xk : Int), .bool xb, .int .i64 xn, .string xs, .slice xa xl xc, .slice ya yl yc] 34) := ⟨_, rfl⟩
  have S1 : Hid (BS w B D #[.int .u64 (b.seq : Int), .string b.prev, .string b.root, .slice sa sn sc, .slice ra rn rc] #[.int .u8 (r.kind : Int), .string r.table, .int .u64 (r.doc : Int), .int .u64 (r.ver : Int), .int .u8 (xk : Int), .bool xb, .int .i64 xn, .string xs, .slice xa xl xc, .slice ya yl yc] w1) := by
    rw [hw1, hBe, hDe]
    exact ⟨(below_new _ _).trans ((below_new _ _).mono (by simp)), blk_call (heap_alloc_new w _) (below_new _ _), heap_alloc_new _ _⟩
  have hD1 : D = B + 1 := by rw [hDe, hBe]; simp
  go_enter Tryz.func3, Tryz.ntmps3
  go_upto_region 1 with fail
  rw [← hw1, ← hBe]
  first | rw [← hDe] | skip
  clear hw1 hBe hDe
  subst hD1
  have S := S1
  clear S1
  go_wp2_with fail
  refine (CM1.out _ S.out.below).mono ?_
  rintro e w2 ⟨a1, n1, c1, e1, f1, g1, rfl, hb, hn⟩
  have S : Hid (BS w B (B + 1) #[.int .u64 (b.seq : Int), .string b.prev, .string b.root, .slice sa sn sc, .slice ra rn rc] #[.int .u8 (r.kind : Int), .string r.table, .int .u64 (r.doc : Int), .int .u64 (r.ver : Int), .int .u8 (xk : Int), .bool xb, .int .i64 xn, .string xs, .slice xa xl xc, .slice ya yl yc] w2) := S.out.call hb
  have hn1 : Hid (∃ q, BkN w2 q m (.slice a1 n1 c1) (.slice e1 f1 g1)) := ⟨_, hn⟩
  clear hb hn CM1
  obtain ⟨w3, hw⟩ : ∃ w3, w3 = w2.alloc (.cells #[.int .u64 (m.seq : Int), .string m.prev, .string m.root, .slice a1 n1 c1, .slice e1 f1 g1] 26) := ⟨_, rfl⟩
  obtain ⟨F, hF⟩ : ∃ F, F = w2.heap.size := ⟨_, rfl⟩
  have hb : Below w2.heap.size w2 w3 := by rw [hw]; exact below_new _ _
  have S : Hid (BS w B (B + 1) #[.int .u64 (b.seq : Int), .string b.prev, .string b.root, .slice sa sn sc, .slice ra rn rc] #[.int .u8 (r.kind : Int), .string r.table, .int .u64 (r.doc : Int), .int .u64 (r.ver : Int), .int .u8 (xk : Int), .bool xb, .int .i64 xn, .string xs, .slice xa xl xc, .slice ya yl yc] w3) := S.out.call hb
  have VF : Hid (w3.heap[F]? = some (.cells #[.int .u64 (m.seq : Int), .string m.prev, .string m.root, .slice a1 n1 c1, .slice e1 f1 g1] 26 (0, 0))) := by show _ = _; rw [hw, hF]; exact heap_alloc_new _ _
  have NF : Hid (∃ q, BkN w3 q m (.slice a1 n1 c1) (.slice e1 f1 g1)) := hn1.out.imp fun _ hx => hx.stays hb
  clear hb hn1
  go_upto_region 2 with fail
  rw [← hw, ← hF]
  clear hw hF
  go_wp2_with fail
  refine (CM2.out _ S.out.below).mono ?_
  rintro e w4 ⟨a2, n2, c2, e2, f2, g2, rfl, hb, hn⟩
  have S : Hid (BS w B (B + 1) #[.int .u64 (b.seq : Int), .string b.prev, .string b.root, .slice sa sn sc, .slice ra rn rc] #[.int .u8 (r.kind : Int), .string r.table, .int .u64 (r.doc : Int), .int .u64 (r.ver : Int), .int .u8 (xk : Int), .bool xb, .int .i64 xn, .string xs, .slice xa xl xc, .slice ya yl yc] w4) := S.out.call hb
  have VF : Hid (w4.heap[F]? = some (.cells #[.int .u64 (m.seq : Int), .string m.prev, .string m.root, .slice a1 n1 c1, .slice e1 f1 g1] 26 (0, 0))) := blk_call VF.out hb
  have NF : Hid (∃ q, BkN w4 q m (.slice a1 n1 c1) (.slice e1 f1 g1)) := NF.out.imp fun _ hx => hx.stays hb
  have hn1 : Hid (∃ q, BkN w4 q m (.slice a2 n2 c2) (.slice e2 f2 g2)) := ⟨_, hn⟩
  clear hb hn CM2
  obtain ⟨w5, hw⟩ : ∃ w5, w5 = w4.alloc (.cells #[.int .u64 (m.seq : Int), .string m.prev, .string m.root, .slice a2 n2 c2, .slice e2 f2 g2] 26) := ⟨_, rfl⟩
  obtain ⟨G, hF⟩ : ∃ G, G = w4.heap.size := ⟨_, rfl⟩
  have hb : Below w4.heap.size w4 w5 := by rw [hw]; exact below_new _ _
  have S : Hid (BS w B (B + 1) #[.int .u64 (b.seq : Int), .string b.prev, .string b.root, .slice sa sn sc, .slice ra rn rc] #[.int .u8 (r.kind : Int), .string r.table, .int .u64 (r.doc : Int), .int .u64 (r.ver : Int), .int .u8 (xk : Int), .bool xb, .int .i64 xn, .string xs, .slice xa xl xc, .slice ya yl yc] w5) := S.out.call hb
  have VF : Hid (w5.heap[F]? = some (.cells #[.int .u64 (m.seq : Int), .string m.prev, .string m.root, .slice a1 n1 c1, .slice e1 f1 g1] 26 (0, 0))) := blk_call VF.out hb
  have NF : Hid (∃ q, BkN w5 q m (.slice a1 n1 c1) (.slice e1 f1 g1)) := NF.out.imp fun _ hx => hx.stays hb
  have VG : Hid (w5.heap[G]? = some (.cells #[.int .u64 (m.seq : Int), .string m.prev, .string m.root, .slice a2 n2 c2, .slice e2 f2 g2] 26 (0, 0))) := by show _ = _; rw [hw, hF]; exact heap_alloc_new _ _
  have NG : Hid (∃ q, BkN w5 q m (.slice a2 n2 c2) (.slice e2 f2 g2)) := hn1.out.imp fun _ hx => hx.stays hb
  clear hb hn1
  go_upto_region 3 with fail
  rw [← hw, ← hF]
  clear hw hF
  have p0 := block_cells S.out.vb 0 _ rfl
  have p1 := block_cells S.out.vb 1 _ rfl
  have p2 := block_cells S.out.vb 2 _ rfl
  have p3 := block_cells S.out.vb 3 _ rfl
  have p4 := block_cells S.out.vb 4 _ rfl
  go_wp2_with fail
  refine (CT1.out _ S.out.below).mono ?_
  rintro e w6 ⟨rfl, hb⟩
  have S : Hid (BS w B (B + 1) #[.int .u64 (b.seq : Int), .string b.prev, .string b.root, .slice sa sn sc, .slice ra rn rc] #[.int .u8 (r.kind : Int), .string r.table, .int .u64 (r.doc : Int), .int .u64 (r.ver : Int), .int .u8 (xk : Int), .bool xb, .int .i64 xn, .string xs, .slice xa xl xc, .slice ya yl yc] w6) := S.out.call hb
  have VF : Hid (w6.heap[F]? = some (.cells #[.int .u64 (m.seq : Int), .string m.prev, .string m.root, .slice a1 n1 c1, .slice e1 f1 g1] 26 (0, 0))) := blk_call VF.out hb
  have NF : Hid (∃ q, BkN w6 q m (.slice a1 n1 c1) (.slice e1 f1 g1)) := NF.out.imp fun _ hx => hx.stays hb
  have VG : Hid (w6.heap[G]? = some (.cells #[.int .u64 (m.seq : Int), .string m.prev, .string m.root, .slice a2 n2 c2, .slice e2 f2 g2] 26 (0, 0))) := blk_call VG.out hb
  have NG : Hid (∃ q, BkN w6 q m (.slice a2 n2 c2) (.slice e2 f2 g2)) := NG.out.imp fun _ hx => hx.stays hb
  clear hb CT1 p0 p1 p2 p3 p4
  have p0 := block_cells S.out.vb 0 _ rfl
  have p1 := block_cells S.out.vb 1 _ rfl
  have p2 := block_cells S.out.vb 2 _ rfl
  have p3 := block_cells S.out.vb 3 _ rfl
  have p4 := block_cells S.out.vb 4 _ rfl
  go_wp2_with fail
  refine (CT2.out _ S.out.below).mono ?_
  rintro e w7 ⟨rfl, hb⟩
  have S : Hid (BS w B (B + 1) #[.int .u64 (b.seq : Int), .string b.prev, .string b.root, .slice sa sn sc, .slice ra rn rc] #[.int .u8 (r.kind : Int), .string r.table, .int .u64 (r.doc : Int), .int .u64 (r.ver : Int), .int .u8 (xk : Int), .bool xb, .int .i64 xn, .string xs, .slice xa xl xc, .slice ya yl yc] w7) := S.out.call hb
  have VF : Hid (w7.heap[F]? = some (.cells #[.int .u64 (m.seq : Int), .string m.prev, .string m.root, .slice a1 n1 c1, .slice e1 f1 g1] 26 (0, 0))) := blk_call VF.out hb
  have NF : Hid (∃ q, BkN w7 q m (.slice a1 n1 c1) (.slice e1 f1 g1)) := NF.out.imp fun _ hx => hx.stays hb
  have VG : Hid (w7.heap[G]? = some (.cells #[.int .u64 (m.seq : Int), .string m.prev, .string m.root, .slice a2 n2 c2, .slice e2 f2 g2] 26 (0, 0))) := blk_call VG.out hb
  have NG : Hid (∃ q, BkN w7 q m (.slice a2 n2 c2) (.slice e2 f2 g2)) := NG.out.imp fun _ hx => hx.stays hb
  clear hb CT2 p0 p1 p2 p3 p4
  have p0 := block_cells S.out.vb 0 _ rfl
  have p1 := block_cells S.out.vb 1 _ rfl
  have p2 := block_cells S.out.vb 2 _ rfl
  have p3 := block_cells S.out.vb 3 _ rfl
  have p4 := block_cells S.out.vb 4 _ rfl
  go_wp2_with fail
  refine (CS1.out _ S.out.below).mono ?_
  rintro e w8 ⟨rfl, hb⟩
  have S : Hid (BS w B (B + 1) #[.int .u64 (b.seq : Int), .string b.prev, .string b.root, .slice sa sn sc, .slice ra rn rc] #[.int .u8 (r.kind : Int), .string r.table, .int .u64 (r.doc : Int), .int .u64 (r.ver : Int), .int .u8 (xk : Int), .bool xb, .int .i64 xn, .string xs, .slice xa xl xc, .slice ya yl yc] w8) := S.out.call hb
  have VF : Hid (w8.heap[F]? = some (.cells #[.int .u64 (m.seq : Int), .string m.prev, .string m.root, .slice a1 n1 c1, .slice e1 f1 g1] 26 (0, 0))) := blk_call VF.out hb
  have NF : Hid (∃ q, BkN w8 q m (.slice a1 n1 c1) (.slice e1 f1 g1)) := NF.out.imp fun _ hx => hx.stays hb
  have VG : Hid (w8.heap[G]? = some (.cells #[.int .u64 (m.seq : Int), .string m.prev, .string m.root, .slice a2 n2 c2, .slice e2 f2 g2] 26 (0, 0))) := blk_call VG.out hb
  have NG : Hid (∃ q, BkN w8 q m (.slice a2 n2 c2) (.slice e2 f2 g2)) := NG.out.imp fun _ hx => hx.stays hb
  clear hb CS1 p0 p1 p2 p3 p4
  obtain ⟨w9, hw⟩ : ∃ w9, w9 = w8.alloc (.cells #[.int .u64 (hd.seq : Int), .string hd.prev, .string hd.root, .int .u64 (hd.revs : Int), .string hd.sts] 41) := ⟨_, rfl⟩
  obtain ⟨H, hF⟩ : ∃ H, H = w8.heap.size := ⟨_, rfl⟩
  have hb : Below w8.heap.size w8 w9 := by rw [hw]; exact below_new _ _
  have S : Hid (BS w B (B + 1) #[.int .u64 (b.seq : Int), .string b.prev, .string b.root, .slice sa sn sc, .slice ra rn rc] #[.int .u8 (r.kind : Int), .string r.table, .int .u64 (r.doc : Int), .int .u64 (r.ver : Int), .int .u8 (xk : Int), .bool xb, .int .i64 xn, .string xs, .slice xa xl xc, .slice ya yl yc] w9) := S.out.call hb
  have VF : Hid (w9.heap[F]? = some (.cells #[.int .u64 (m.seq : Int), .string m.prev, .string m.root, .slice a1 n1 c1, .slice e1 f1 g1] 26 (0, 0))) := blk_call VF.out hb
  have NF : Hid (∃ q, BkN w9 q m (.slice a1 n1 c1) (.slice e1 f1 g1)) := NF.out.imp fun _ hx => hx.stays hb
  have VG : Hid (w9.heap[G]? = some (.cells #[.int .u64 (m.seq : Int), .string m.prev, .string m.root, .slice a2 n2 c2, .slice e2 f2 g2] 26 (0, 0))) := blk_call VG.out hb
  have NG : Hid (∃ q, BkN w9 q m (.slice a2 n2 c2) (.slice e2 f2 g2)) := NG.out.imp fun _ hx => hx.stays hb
  have VH : Hid (w9.heap[H]? = some (.cells #[.int .u64 (hd.seq : Int), .string hd.prev, .string hd.root, .int .u64 (hd.revs : Int), .string hd.sts] 41 (0, 0))) := by show _ = _; rw [hw, hF]; exact heap_alloc_new _ _
  clear hb
  go_upto_region 6 with fail
  rw [← hw, ← hF]
  clear hw hF
  have p0 := block_cells S.out.vb 0 _ rfl
  have p1 := block_cells S.out.vb 1 _ rfl
  have p2 := block_cells S.out.vb 2 _ rfl
  have p3 := block_cells S.out.vb 3 _ rfl
  have p4 := block_cells S.out.vb 4 _ rfl
  go_wp2_with fail
  refine (CS2.out _ S.out.below).mono ?_
  rintro e w10 ⟨rfl, hb⟩
  have S : Hid (BS w B (B + 1) #[.int .u64 (b.seq : Int), .string b.prev, .string b.root, .slice sa sn sc, .slice ra rn rc] #[.int .u8 (r.kind : Int), .string r.table, .int .u64 (r.doc : Int), .int .u64 (r.ver : Int), .int .u8 (xk : Int), .bool xb, .int .i64 xn, .string xs, .slice xa xl xc, .slice ya yl yc] w10) := S.out.call hb
  have VF : Hid (w10.heap[F]? = some (.cells #[.int .u64 (m.seq : Int), .string m.prev, .string m.root, .slice a1 n1 c1, .slice e1 f1 g1] 26 (0, 0))) := blk_call VF.out hb
  have NF : Hid (∃ q, BkN w10 q m (.slice a1 n1 c1) (.slice e1 f1 g1)) := NF.out.imp fun _ hx => hx.stays hb
  have VG : Hid (w10.heap[G]? = some (.cells #[.int .u64 (m.seq : Int), .string m.prev, .string m.root, .slice a2 n2 c2, .slice e2 f2 g2] 26 (0, 0))) := blk_call VG.out hb
  have NG : Hid (∃ q, BkN w10 q m (.slice a2 n2 c2) (.slice e2 f2 g2)) := NG.out.imp fun _ hx => hx.stays hb
  have VH : Hid (w10.heap[H]? = some (.cells #[.int .u64 (hd.seq : Int), .string hd.prev, .string hd.root, .int .u64 (hd.revs : Int), .string hd.sts] 41 (0, 0))) := blk_call VH.out hb
  clear hb CS2 p0 p1 p2 p3 p4
  obtain ⟨w11, hw⟩ : ∃ w11, w11 = w10.alloc (.cells #[.int .u64 (hd.seq : Int), .string hd.prev, .string hd.root, .int .u64 (hd.revs : Int), .string hd.sts] 41) := ⟨_, rfl⟩
  obtain ⟨I, hF⟩ : ∃ I, I = w10.heap.size := ⟨_, rfl⟩
  have hb : Below w10.heap.size w10 w11 := by rw [hw]; exact below_new _ _
  have S : Hid (BS w B (B + 1) #[.int .u64 (b.seq : Int), .string b.prev, .string b.root, .slice sa sn sc, .slice ra rn rc] #[.int .u8 (r.kind : Int), .string r.table, .int .u64 (r.doc : Int), .int .u64 (r.ver : Int), .int .u8 (xk : Int), .bool xb, .int .i64 xn, .string xs, .slice xa xl xc, .slice ya yl yc] w11) := S.out.call hb
  have VF : Hid (w11.heap[F]? = some (.cells #[.int .u64 (m.seq : Int), .string m.prev, .string m.root, .slice a1 n1 c1, .slice e1 f1 g1] 26 (0, 0))) := blk_call VF.out hb
  have NF : Hid (∃ q, BkN w11 q m (.slice a1 n1 c1) (.slice e1 f1 g1)) := NF.out.imp fun _ hx => hx.stays hb
  have VG : Hid (w11.heap[G]? = some (.cells #[.int .u64 (m.seq : Int), .string m.prev, .string m.root, .slice a2 n2 c2, .slice e2 f2 g2] 26 (0, 0))) := blk_call VG.out hb
  have NG : Hid (∃ q, BkN w11 q m (.slice a2 n2 c2) (.slice e2 f2 g2)) := NG.out.imp fun _ hx => hx.stays hb
  have VH : Hid (w11.heap[H]? = some (.cells #[.int .u64 (hd.seq : Int), .string hd.prev, .string hd.root, .int .u64 (hd.revs : Int), .string hd.sts] 41 (0, 0))) := blk_call VH.out hb
  have VI : Hid (w11.heap[I]? = some (.cells #[.int .u64 (hd.seq : Int), .string hd.prev, .string hd.root, .int .u64 (hd.revs : Int), .string hd.sts] 41 (0, 0))) := by show _ = _; rw [hw, hF]; exact heap_alloc_new _ _
  clear hb
  go_upto_region 7 with fail
  rw [← hw, ← hF]
  clear hw hF
  have p0 := block_cells S.out.vb 0 _ rfl
  have p1 := block_cells S.out.vb 1 _ rfl
  have p2 := block_cells S.out.vb 2 _ rfl
  have p3 := block_cells S.out.vb 3 _ rfl
  have p4 := block_cells S.out.vb 4 _ rfl
  go_wp2_with fail
  refine (CF1.out _ S.out.below).mono ?_
  rintro e w12 ⟨rfl, hb⟩
  have S : Hid (BS w B (B + 1) #[.int .u64 (b.seq : Int), .string b.prev, .string b.root, .slice sa sn sc, .slice ra rn rc] #[.int .u8 (r.kind : Int), .string r.table, .int .u64 (r.doc : Int), .int .u64 (r.ver : Int), .int .u8 (xk : Int), .bool xb, .int .i64 xn, .string xs, .slice xa xl xc, .slice ya yl yc] w12) := S.out.call hb
  have VF : Hid (w12.heap[F]? = some (.cells #[.int .u64 (m.seq : Int), .string m.prev, .string m.root, .slice a1 n1 c1, .slice e1 f1 g1] 26 (0, 0))) := blk_call VF.out hb
  have NF : Hid (∃ q, BkN w12 q m (.slice a1 n1 c1) (.slice e1 f1 g1)) := NF.out.imp fun _ hx => hx.stays hb
  have VG : Hid (w12.heap[G]? = some (.cells #[.int .u64 (m.seq : Int), .string m.prev, .string m.root, .slice a2 n2 c2, .slice e2 f2 g2] 26 (0, 0))) := blk_call VG.out hb
  have NG : Hid (∃ q, BkN w12 q m (.slice a2 n2 c2) (.slice e2 f2 g2)) := NG.out.imp fun _ hx => hx.stays hb
  have VH : Hid (w12.heap[H]? = some (.cells #[.int .u64 (hd.seq : Int), .string hd.prev, .string hd.root, .int .u64 (hd.revs : Int), .string hd.sts] 41 (0, 0))) := blk_call VH.out hb
  have VI : Hid (w12.heap[I]? = some (.cells #[.int .u64 (hd.seq : Int), .string hd.prev, .string hd.root, .int .u64 (hd.revs : Int), .string hd.sts] 41 (0, 0))) := blk_call VI.out hb
  clear hb CF1 p0 p1 p2 p3 p4
  have p0 := block_cells S.out.vb 0 _ rfl
  have p1 := block_cells S.out.vb 1 _ rfl
  have p2 := block_cells S.out.vb 2 _ rfl
  have p3 := block_cells S.out.vb 3 _ rfl
  have p4 := block_cells S.out.vb 4 _ rfl
  go_wp2_with fail
  refine (CF2.out _ S.out.below).mono ?_
  rintro e w13 ⟨rfl, hb⟩
  have S : Hid (BS w B (B + 1) #[.int .u64 (b.seq : Int), .string b.prev, .string b.root, .slice sa sn sc, .slice ra rn rc] #[.int .u8 (r.kind : Int), .string r.table, .int .u64 (r.doc : Int), .int .u64 (r.ver : Int), .int .u8 (xk : Int), .bool xb, .int .i64 xn, .string xs, .slice xa xl xc, .slice ya yl yc] w13) := S.out.call hb
  have VF : Hid (w13.heap[F]? = some (.cells #[.int .u64 (m.seq : Int), .string m.prev, .string m.root, .slice a1 n1 c1, .slice e1 f1 g1] 26 (0, 0))) := blk_call VF.out hb
  have NF : Hid (∃ q, BkN w13 q m (.slice a1 n1 c1) (.slice e1 f1 g1)) := NF.out.imp fun _ hx => hx.stays hb
  have VG : Hid (w13.heap[G]? = some (.cells #[.int .u64 (m.seq : Int), .string m.prev, .string m.root, .slice a2 n2 c2, .slice e2 f2 g2] 26 (0, 0))) := blk_call VG.out hb
  have NG : Hid (∃ q, BkN w13 q m (.slice a2 n2 c2) (.slice e2 f2 g2)) := NG.out.imp fun _ hx => hx.stays hb
  have VH : Hid (w13.heap[H]? = some (.cells #[.int .u64 (hd.seq : Int), .string hd.prev, .string hd.root, .int .u64 (hd.revs : Int), .string hd.sts] 41 (0, 0))) := blk_call VH.out hb
  have VI : Hid (w13.heap[I]? = some (.cells #[.int .u64 (hd.seq : Int), .string hd.prev, .string hd.root, .int .u64 (hd.revs : Int), .string hd.sts] 41 (0, 0))) := blk_call VI.out hb
  clear hb CF2 p0 p1 p2 p3 p4
  have p0 := block_cells S.out.vr 0 _ rfl
  have p1 := block_cells S.out.vr 1 _ rfl
  have p2 := block_cells S.out.vr 2 _ rfl
  have p3 := block_cells S.out.vr 3 _ rfl
  have p4 := block_cells S.out.vr 4 _ rfl
  have p5 := block_cells S.out.vr 5 _ rfl
  have p6 := block_cells S.out.vr 6 _ rfl
  have p7 := block_cells S.out.vr 7 _ rfl
  have p8 := block_cells S.out.vr 8 _ rfl
  have p9 := block_cells S.out.vr 9 _ rfl
  go_wp2_with fail
  refine (CR1.out _ S.out.below).mono ?_
  rintro e w14 ⟨rfl, hb⟩
  have S : Hid (BS w B (B + 1) #[.int .u64 (b.seq : Int), .string b.prev, .string b.root, .slice sa sn sc, .slice ra rn rc] #[.int .u8 (r.kind : Int), .string r.table, .int .u64 (r.doc : Int), .int .u64 (r.ver : Int), .int .u8 (xk : Int), .bool xb, .int .i64 xn, .string xs, .slice xa xl xc, .slice ya yl yc] w14) := S.out.call hb
  have VF : Hid (w14.heap[F]? = some (.cells #[.int .u64 (m.seq : Int), .string m.prev, .string m.root, .slice a1 n1 c1, .slice e1 f1 g1] 26 (0, 0))) := blk_call VF.out hb
  have NF : Hid (∃ q, BkN w14 q m (.slice a1 n1 c1) (.slice e1 f1 g1)) := NF.out.imp fun _ hx => hx.stays hb
  have VG : Hid (w14.heap[G]? = some (.cells #[.int .u64 (m.seq : Int), .string m.prev, .string m.root, .slice a2 n2 c2, .slice e2 f2 g2] 26 (0, 0))) := blk_call VG.out hb
  have NG : Hid (∃ q, BkN w14 q m (.slice a2 n2 c2) (.slice e2 f2 g2)) := NG.out.imp fun _ hx => hx.stays hb
  have VH : Hid (w14.heap[H]? = some (.cells #[.int .u64 (hd.seq : Int), .string hd.prev, .string hd.root, .int .u64 (hd.revs : Int), .string hd.sts] 41 (0, 0))) := blk_call VH.out hb
  have VI : Hid (w14.heap[I]? = some (.cells #[.int .u64 (hd.seq : Int), .string hd.prev, .string hd.root, .int .u64 (hd.revs : Int), .string hd.sts] 41 (0, 0))) := blk_call VI.out hb
  clear hb CR1 p0 p1 p2 p3 p4 p5 p6 p7 p8 p9
  have p0 := block_cells S.out.vr 0 _ rfl
  have p1 := block_cells S.out.vr 1 _ rfl
  have p2 := block_cells S.out.vr 2 _ rfl
  have p3 := block_cells S.out.vr 3 _ rfl
  have p4 := block_cells S.out.vr 4 _ rfl
  have p5 := block_cells S.out.vr 5 _ rfl
  have p6 := block_cells S.out.vr 6 _ rfl
  have p7 := block_cells S.out.vr 7 _ rfl
  have p8 := block_cells S.out.vr 8 _ rfl
  have p9 := block_cells S.out.vr 9 _ rfl
  go_wp2_with fail
  refine (CR2.out _ S.out.below).mono ?_
  rintro e w15 ⟨rfl, hb⟩
  have S : Hid (BS w B (B + 1) #[.int .u64 (b.seq : Int), .string b.prev, .string b.root, .slice sa sn sc, .slice ra rn rc] #[.int .u8 (r.kind : Int), .string r.table, .int .u64 (r.doc : Int), .int .u64 (r.ver : Int), .int .u8 (xk : Int), .bool xb, .int .i64 xn, .string xs, .slice xa xl xc, .slice ya yl yc] w15) := S.out.call hb
  have VF : Hid (w15.heap[F]? = some (.cells #[.int .u64 (m.seq : Int), .string m.prev, .string m.root, .slice a1 n1 c1, .slice e1 f1 g1] 26 (0, 0))) := blk_call VF.out hb
  have NF : Hid (∃ q, BkN w15 q m (.slice a1 n1 c1) (.slice e1 f1 g1)) := NF.out.imp fun _ hx => hx.stays hb
  have VG : Hid (w15.heap[G]? = some (.cells #[.int .u64 (m.seq : Int), .string m.prev, .string m.root, .slice a2 n2 c2, .slice e2 f2 g2] 26 (0, 0))) := blk_call VG.out hb
  have NG : Hid (∃ q, BkN w15 q m (.slice a2 n2 c2) (.slice e2 f2 g2)) := NG.out.imp fun _ hx => hx.stays hb
  have VH : Hid (w15.heap[H]? = some (.cells #[.int .u64 (hd.seq : Int), .string hd.prev, .string hd.root, .int .u64 (hd.revs : Int), .string hd.sts] 41 (0, 0))) := blk_call VH.out hb
  have VI : Hid (w15.heap[I]? = some (.cells #[.int .u64 (hd.seq : Int), .string hd.prev, .string hd.root, .int .u64 (hd.revs : Int), .string hd.sts] 41 (0, 0))) := blk_call VI.out hb
  clear hb CR2 p0 p1 p2 p3 p4 p5 p6 p7 p8 p9
  go_wp2_with fail
  refine (CL.out _ S.out.below).mono ?_
  rintro e w16 ⟨rfl, hb⟩
  have S : Hid (BS w B (B + 1) #[.int .u64 (b.seq : Int), .string b.prev, .string b.root, .slice sa sn sc, .slice ra rn rc] #[.int .u8 (r.kind : Int), .string r.table, .int .u64 (r.doc : Int), .int .u64 (r.ver : Int), .int .u8 (xk : Int), .bool xb, .int .i64 xn, .string xs, .slice xa xl xc, .slice ya yl yc] w16) := S.out.call hb
  have VF : Hid (w16.heap[F]? = some (.cells #[.int .u64 (m.seq : Int), .string m.prev, .string m.root, .slice a1 n1 c1, .slice e1 f1 g1] 26 (0, 0))) := blk_call VF.out hb
  have NF : Hid (∃ q, BkN w16 q m (.slice a1 n1 c1) (.slice e1 f1 g1)) := NF.out.imp fun _ hx => hx.stays hb
  have VG : Hid (w16.heap[G]? = some (.cells #[.int .u64 (m.seq : Int), .string m.prev, .string m.root, .slice a2 n2 c2, .slice e2 f2 g2] 26 (0, 0))) := blk_call VG.out hb
  have NG : Hid (∃ q, BkN w16 q m (.slice a2 n2 c2) (.slice e2 f2 g2)) := NG.out.imp fun _ hx => hx.stays hb
  have VH : Hid (w16.heap[H]? = some (.cells #[.int .u64 (hd.seq : Int), .string hd.prev, .string hd.root, .int .u64 (hd.revs : Int), .string hd.sts] 41 (0, 0))) := blk_call VH.out hb
  have VI : Hid (w16.heap[I]? = some (.cells #[.int .u64 (hd.seq : Int), .string hd.prev, .string hd.root, .int .u64 (hd.revs : Int), .string hd.sts] 41 (0, 0))) := blk_call VI.out hb
  clear hb CL
  have p0 := block_cells VF.out 0 _ rfl
  have p1 := block_cells VF.out 1 _ rfl
  have p2 := block_cells VF.out 2 _ rfl
  have p3 := block_cells VF.out 3 _ rfl
  have p4 := block_cells VF.out 4 _ rfl
  have q0 := block_cells VG.out 0 _ rfl
  have q1 := block_cells VG.out 1 _ rfl
  have q2 := block_cells VG.out 2 _ rfl
  have q3 := block_cells VG.out 3 _ rfl
  have q4 := block_cells VG.out 4 _ rfl
  have CS : Hid (Calls Tryz.prog 16 #[.agg #[.int .u64 (m.seq : Int), .string m.prev, .string m.root, .slice a1 n1 c1, .slice e1 f1 g1], .agg #[.int .u64 (m.seq : Int), .string m.prev, .string m.root, .slice a2 n2 c2, .slice e2 f2 g2]] w16 fun e w' => e = .returned (.bool true) ∧ Below w16.heap.size w16 w') := by
    obtain ⟨_, h1⟩ := NF.out
    obtain ⟨_, h2⟩ := NG.out
    exact sameB_c m a1 n1 c1 e1 f1 g1 a2 n2 c2 e2 f2 g2 w16 HM.out h1.bk h2.bk
  go_wp2_with fail
  refine CS.out.mono ?_
  rintro e w17 ⟨rfl, hb⟩
  clear NF NG HM
  have S : Hid (BS w B (B + 1) #[.int .u64 (b.seq : Int), .string b.prev, .string b.root, .slice sa sn sc, .slice ra rn rc] #[.int .u8 (r.kind : Int), .string r.table, .int .u64 (r.doc : Int), .int .u64 (r.ver : Int), .int .u8 (xk : Int), .bool xb, .int .i64 xn, .string xs, .slice xa xl xc, .slice ya yl yc] w17) := S.out.call hb
  have VF : Hid (w17.heap[F]? = some (.cells #[.int .u64 (m.seq : Int), .string m.prev, .string m.root, .slice a1 n1 c1, .slice e1 f1 g1] 26 (0, 0))) := blk_call VF.out hb
  have VG : Hid (w17.heap[G]? = some (.cells #[.int .u64 (m.seq : Int), .string m.prev, .string m.root, .slice a2 n2 c2, .slice e2 f2 g2] 26 (0, 0))) := blk_call VG.out hb
  have VH : Hid (w17.heap[H]? = some (.cells #[.int .u64 (hd.seq : Int), .string hd.prev, .string hd.root, .int .u64 (hd.revs : Int), .string hd.sts] 41 (0, 0))) := blk_call VH.out hb
  have VI : Hid (w17.heap[I]? = some (.cells #[.int .u64 (hd.seq : Int), .string hd.prev, .string hd.root, .int .u64 (hd.revs : Int), .string hd.sts] 41 (0, 0))) := blk_call VI.out hb
  clear hb CS p0 p1 p2 p3 p4 q0 q1 q2 q3 q4
  have p0 := block_cells VH.out 0 _ rfl
  have p1 := block_cells VH.out 1 _ rfl
  have p2 := block_cells VH.out 2 _ rfl
  have p3 := block_cells VH.out 3 _ rfl
  have p4 := block_cells VH.out 4 _ rfl
  have q0 := block_cells VI.out 0 _ rfl
  have q1 := block_cells VI.out 1 _ rfl
  have q2 := block_cells VI.out 2 _ rfl
  have q3 := block_cells VI.out 3 _ rfl
  have q4 := block_cells VI.out 4 _ rfl
  go_upto_region 13 with fail
  clear VF VG VH VI p0 p1 p2 p3 p4 q0 q1 q2 q3 q4
  have p0 := block_cells S.out.vb 0 _ rfl
  have p1 := block_cells S.out.vb 1 _ rfl
  have p2 := block_cells S.out.vb 2 _ rfl
  have p3 := block_cells S.out.vb 3 _ rfl
  have p4 := block_cells S.out.vb 4 _ rfl
  go_region_held3 (fun W' => W'.cell? ⟨B, 0, none⟩ = some (.int .u64 (b.seq : Int)) ∧ W'.cell? ⟨B, 1, none⟩ = some (.string b.prev) ∧ W'.cell? ⟨B, 2, none⟩ = some (.string b.root) ∧ W'.cell? ⟨B, 3, none⟩ = some (.slice sa sn sc) ∧ W'.cell? ⟨B, 4, none⟩ = some (.slice ra rn rc)) (go_keep) (first
    | (go_at_call 17; refine Calls.mono (CC1.out _ (by first | exact S.out.below | exact S.out.below.drew)) ?_; rintro e w50 ⟨rfl, hb⟩
       have S5 : Hid (BS w B (B + 1) #[.int .u64 (b.seq : Int), .string b.prev, .string b.root, .slice sa sn sc, .slice ra rn rc] #[.int .u8 (r.kind : Int), .string r.table, .int .u64 (r.doc : Int), .int .u64 (r.ver : Int), .int .u8 (xk : Int), .bool xb, .int .i64 xn, .string xs, .slice xa xl xc, .slice ya yl yc] w50) := (by first | exact S.out.call hb | exact (S.out.call (Below.refl _ _).drew).call hb)
       have p0 := block_cells S5.out.vb 0 _ rfl; have p1 := block_cells S5.out.vb 1 _ rfl; have p2 := block_cells S5.out.vb 2 _ rfl; have p3 := block_cells S5.out.vb 3 _ rfl; have p4 := block_cells S5.out.vb 4 _ rfl
       clear hb)
    | (go_at_call 18; refine Calls.mono (CC2.out _ S5.out.below) ?_; rintro e w51 ⟨rfl, hb⟩
       have S6 : Hid (BS w B (B + 1) #[.int .u64 (b.seq : Int), .string b.prev, .string b.root, .slice sa sn sc, .slice ra rn rc] #[.int .u8 (r.kind : Int), .string r.table, .int .u64 (r.doc : Int), .int .u64 (r.ver : Int), .int .u8 (xk : Int), .bool xb, .int .i64 xn, .string xs, .slice xa xl xc, .slice ya yl yc] w51) := S5.out.call hb
       have p0 := block_cells S6.out.vb 0 _ rfl; have p1 := block_cells S6.out.vb 1 _ rfl; have p2 := block_cells S6.out.vb 2 _ rfl; have p3 := block_cells S6.out.vb 3 _ rfl; have p4 := block_cells S6.out.vb 4 _ rfl
       clear hb)
    | fail "no arm")
  all_goals
    have HF := S6.out.below
    go_wp2
    go_ret
    exact ⟨by simp, HF⟩
end Go.Proofs.YtggnfejjcgbebaaGreatDoor
