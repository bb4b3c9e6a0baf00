/- Several texts, joined: JnLa, RgInv, JnLb -/
import Derived.Test.YtlafdlcpelkdpaaGreatDoorJnZcM
import Derived.Test.YtlafdlcpelkdpaaGreatDoorJIM
import Derived.Orders
import Derived.Deep.CutRange
/- The first frame of bytes that begin with one; the block of which 'lives' asks. -/
namespace Go.Proofs.YtlafdlcpelkdpaaGreatDoor
open Go.RowKit
open Vl (V)
attribute [local go_sem ↓] Go.wp_at_zero Go.wp_at_succ
namespace Jn
theorem low_lt (n k : Nat) : low n k < 256 := Nat.mod_lt _ (by decide)
theorem unc_cnt (n : Nat) (h : n < 4294967296) : unc (cnt n) = n := by
  have e : ∀ k, (UInt8.ofNat (low n k)).toNat = low n k := fun k => by
    have := low_lt n k
    simp; omega
  simp only [cnt, unc, e]
  simp only [low]
  omega
theorem sealOf_size (c t : ByteArray) : (sealOf c t).size = 8 := by rw [sealOf, bs_size, List.length_take, Mk.sum_length]; rfl
theorem cnt_size (n : Nat) : (bs (cnt n)).size = 4 := by rw [bs_size]; rfl
theorem frameOf_size (t : ByteArray) : (frameOf t).size = 12 + t.size := by
  rw [frameOf, ByteArray.size_append, ByteArray.size_append, sealOf_size, cnt_size]
theorem ba_ext {a b : ByteArray} (h : a.data.toList = b.data.toList) : a = b := Bn.data_ext h
theorem app_list (a b : ByteArray) : (a ++ b).data.toList = a.data.toList ++ b.data.toList := by simp
theorem ext_list (a : ByteArray) (i j : Nat) : (a.extract i j).data.toList = (a.data.toList.drop i).take (j - i) := by
  rw [ByteArray.data_extract, Array.toList_extract, List.extract_eq_take_drop]
theorem ff_frame (t r : ByteArray) (h : t.size ≤ 16384) : ff (frameOf t ++ r) = some t ∧ (frameOf t ++ r).extract (12 + t.size) (frameOf t ++ r).size = r := by
  obtain ⟨c, hc⟩ : ∃ c, c = bs (cnt t.size) := ⟨_, rfl⟩
  obtain ⟨k, hk⟩ : ∃ k, k = sealOf c t := ⟨_, rfl⟩
  have hcs : c.size = 4 := by rw [hc]; exact cnt_size _
  have hks : k.size = 8 := by rw [hk]; exact sealOf_size _ _
  have hcl : c.data.toList.length = 4 := by rw [← Lib.size_eq]; exact hcs
  have hkl : k.data.toList.length = 8 := by rw [← Lib.size_eq]; exact hks
  have htl : t.data.toList.length = t.size := by rw [← Lib.size_eq]
  have hf : frameOf t = (c ++ k) ++ t := by rw [frameOf, ← hc, ← hk]
  have hl : (frameOf t ++ r).data.toList = c.data.toList ++ (k.data.toList ++ (t.data.toList ++ r.data.toList)) := by
    rw [hf, app_list, app_list, app_list]; simp
  have hs : (frameOf t ++ r).size = 12 + t.size + r.size := by rw [ByteArray.size_append, frameOf_size]
  have e1 : (frameOf t ++ r).extract 0 4 = c := ba_ext (by rw [ext_list, hl, List.drop_zero, List.take_append_of_le_length (by omega), List.take_of_length_le (by omega)])
  have e2 : (frameOf t ++ r).extract 4 12 = k := ba_ext (by
    rw [ext_list, hl, List.drop_append_of_le_length (by omega), List.drop_of_length_le (by omega), List.nil_append, List.take_append_of_le_length (by omega), List.take_of_length_le (by omega)])
  have d12 : (frameOf t ++ r).data.toList.drop 12 = t.data.toList ++ r.data.toList := by
    rw [hl, ← List.append_assoc, show 12 = (c.data.toList ++ k.data.toList).length by rw [List.length_append]; omega, List.drop_left]
  have e3 : ((frameOf t ++ r).extract 12 (frameOf t ++ r).size).extract 0 t.size = t := ba_ext (by
    rw [ext_list, ext_list, d12, List.drop_zero, List.take_take, List.take_append_of_le_length (by rw [hs]; omega), List.take_of_length_le (by rw [hs]; omega)])
  have hu : unc c.data.toList = t.size := by
    have h0 := unc_cnt t.size (by omega)
    rw [hc, data_bs]; exact h0
  refine ⟨?_, ba_ext ?_⟩
  · rw [ff, if_neg (by rw [hs]; omega), e1, hu, if_neg (by rw [hs]; omega), e3, e2, if_pos hk.symm]
  · rw [ext_list, hl, ← List.append_assoc, ← List.append_assoc, show 12 + t.size = ((c.data.toList ++ k.data.toList) ++ t.data.toList).length by rw [List.length_append, List.length_append]; omega, List.drop_left, List.take_of_length_le]
    rw [← Lib.size_eq, hs, List.length_append, List.length_append]; omega
theorem frs_frame (t r : ByteArray) (h : t.size ≤ 16384) : frs (frameOf t ++ r) = t :: frs r := by
  obtain ⟨h1, h2⟩ := ff_frame t r h
  rw [frs_some h1, h2]
theorem frs_short (r : ByteArray) (h : r.size < 12) : frs r = [] := frs_none (by rw [ff, if_pos h])
/-- the revision of which 'lives' asks -/
def liveR : R := ⟨1, ⟨#[116]⟩, 0, 0, ⟨0, false, 0, ⟨#[]⟩, [], []⟩⟩
def liveB : B := made 1 ahead [] [liveR]
theorem live_u8 : Bn.u8 ⟨#[116]⟩ = true := by decide +kernel
theorem live_rwhy : rwhy liveR = 0 := by decide +kernel
theorem live_rbytes : Bn.bytes (rv liveR) = [6, 5, 3, 2, 4, 1, 116, 3, 0, 3, 0, 0] := by decide +kernel
theorem live_rcheck : Vl.check Bn.u8 0 (rv liveR) = 0 := by decide +kernel
theorem live_rerr : rerr liveR = 0 ∧ rtext liveR = ⟨#[6, 5, 3, 2, 4, 1, 116, 3, 0, 3, 0, 0]⟩ := by
  obtain ⟨h1, h2⟩ := Bn.werr_ok live_rcheck (by rw [live_rbytes]; decide)
  rw [live_rbytes] at h2
  have h3 : rerr liveR = 0 := by
    rw [rerr, if_neg (by rw [live_rwhy]; decide), if_neg]
    rw [h1, h2]; decide
  exact ⟨h3, by rw [rtext, if_pos h3, h2]⟩
theorem live_twhy : twhy ⟨1, ahead, ahead, [], [liveR]⟩ = 0 := by
  rw [twhy, if_neg (by decide), if_neg (by decide)]
  simp [first, live_rerr.1]
theorem live_bytes (rt : ByteArray) (h : rt.size = 32) : (Bn.bytes (lst [num 1, blob ahead, blob rt, lst [], lst [blob ⟨#[6, 5, 3, 2, 4, 1, 116, 3, 0, 3, 0, 0]⟩]])).length ≤ 16384 := by
  have h1 : (Bn.bytes (num 1)).length ≤ 100 := by decide +kernel
  have h2 : (Bn.bytes (blob ahead)).length ≤ 100 := by decide +kernel
  have h3 : (Bn.bytes (lst [])).length ≤ 100 := by decide +kernel
  have h4 : (Bn.bytes (lst [blob ⟨#[6, 5, 3, 2, 4, 1, 116, 3, 0, 3, 0, 0]⟩])).length ≤ 100 := by decide +kernel
  have h5 : (Bn.num 32).length ≤ 100 := by decide +kernel
  have h6 : (Bn.num 5).length ≤ 100 := by decide +kernel
  have h7 : (Bn.bytes (blob rt)).length ≤ 200 := by
    have hl : rt.data.toList.length = 32 := by rw [← Lib.size_eq]; exact h
    simp [blob, Bn.bytes, Bn.text, h]
    omega
  rw [lst, Bn.bytes]
  simp only [Bn.bytesL, List.length_cons, List.length_nil] at *
  simp
  omega
theorem check_lst (d : Nat) (l : List V) (hd : d ≤ 4) (hl : l.length ≤ 64) (h : Vl.checkL Bn.u8 (d + 1) l = 0) : Vl.check Bn.u8 d (lst l) = 0 := by
  have he : ({ data := #[] } : ByteArray) = ByteArray.empty := rfl
  have ha : Vl.alone Bn.u8 d ⟨5, false, 0, ⟨#[]⟩, l, []⟩ = 0 := by
    simp [Vl.alone, Vl.strange, he]
    rw [if_neg (by omega), if_neg (by omega)]
  rw [lst, Vl.check, if_neg (by simp [ha]), if_neg (by simp [h]), Vl.checkF]
theorem check_blob (d : Nat) (s : ByteArray) (hs : s.size ≤ 1024) : Vl.check Bn.u8 d (blob s) = 0 := by
  have ha : Vl.alone Bn.u8 d ⟨4, false, 0, s, [], []⟩ = 0 := by
    simp [Vl.alone, Vl.strange]
    omega
  rw [blob, Vl.check, if_neg (by simp [ha]), Vl.checkL, if_neg (by simp), Vl.checkF]
theorem live_check (rt : ByteArray) (h : rt.size = 32) : Vl.check Bn.u8 0 (lst [num 1, blob ahead, blob rt, lst [], lst [blob ⟨#[6, 5, 3, 2, 4, 1, 116, 3, 0, 3, 0, 0]⟩]]) = 0 := by
  refine check_lst 0 _ (by omega) (by simp) ?_
  have h1 : Vl.check Bn.u8 1 (num 1) = 0 := by decide +kernel
  have h2 := check_blob 1 ahead (by decide)
  have h3 := check_blob 1 rt (by omega)
  have h4 : Vl.check Bn.u8 1 (lst []) = 0 := by decide +kernel
  have h5 : Vl.check Bn.u8 1 (lst [blob ⟨#[6, 5, 3, 2, 4, 1, 116, 3, 0, 3, 0, 0]⟩]) = 0 := by decide +kernel
  simp [Vl.checkL, h1, h2, h3, h4, h5]
theorem live_berr : berr liveB = 0 := by
  rw [liveB, made_berr, if_neg (by rw [live_twhy]; decide)]
  obtain ⟨rt, hrt⟩ : ∃ rt, rt = rootOf ⟨1, ahead, ahead, [], [liveR]⟩ := ⟨_, rfl⟩
  have hs : rt.size = 32 := by rw [hrt]; exact rootOf_size _
  have e : bv (made 1 ahead [] [liveR]) = lst [num 1, blob ahead, blob rt, lst [], lst [blob ⟨#[6, 5, 3, 2, 4, 1, 116, 3, 0, 3, 0, 0]⟩]] := by
    rw [bv, made, ← hrt]
    simp [live_rerr.2]
  rw [e]
  exact (Bn.werr_ok (live_check rt hs) (by have := live_bytes rt hs; omega)).1
theorem live_root : liveB.root = bs (Sh.sum (0 :: (rtext liveR).data.toList)) := by
  show rootOf _ = _
  rw [rootOf, texts]
  simp [Mk.root_one, Mk.leaf, Mk.leafT]
end Jn
end Go.Proofs.YtlafdlcpelkdpaaGreatDoor
/- A region that draws its order, by an invariant: one obligation for each operation, whatever was carried out ahead of it. -/
namespace Go.Proofs.YtlafdlcpelkdpaaGreatDoor
open Go.RowKit
section
variable {P : Program} {md : Region.Mode} {ops : Array Oper} {Q : Exit → Act → World → Prop}
theorem ready_open {listed : Array Bool} {i : Nat} (h : i ∈ Region.ready md ops listed) : i < ops.size ∧ listed.getD i true = false := by
  unfold Region.ready at h
  rw [List.mem_filter, List.mem_range] at h
  refine ⟨h.1, ?_⟩
  have := h.2
  simp only [Bool.and_eq_true, Bool.not_eq_true'] at this
  exact this.1
theorem getD_set (listed : Array Bool) (i j : Nat) (h : (listed.setIfInBounds i true).getD j true = false) : j ≠ i ∧ listed.getD j true = false := by
  simp only [Array.getD_eq_getD_getElem?, Array.getElem?_setIfInBounds] at h ⊢
  by_cases e : i = j
  · subst e
    rw [if_pos rfl] at h
    split at h
    · cases h
    · cases h
  · rw [if_neg e] at h
    exact ⟨fun q => e q.symm, h⟩
theorem wpAny_inv (Inv : Array Bool → Act → World → Prop) (hdone : ∀ listed a w, Inv listed a w → Region.ready md ops listed = [] → Q .normal a w)
    (hstep : ∀ listed a w i, Inv listed a w → i ∈ Region.ready md ops listed → wpOp P ops Q i (Inv (listed.setIfInBounds i true)) a w) :
    ∀ (fuel : Nat) (L : List Nat) (listed : Array Bool) (a : Act) (w : World), (∀ j, j < ops.size → listed.getD j true = false → j ∈ L) → L.length ≤ fuel → Inv listed a w → wpAny P md ops Q fuel listed a w
  | 0, L, listed, a, w, hL, hl, hI => by
    have h0 : Region.ready md ops listed = [] := by
      cases hr : Region.ready md ops listed with
      | nil => rfl
      | cons i r =>
        exfalso
        have hi : i ∈ Region.ready md ops listed := by rw [hr]; simp
        have := hL i (ready_open hi).1 (ready_open hi).2
        have hn : L = [] := List.eq_nil_of_length_eq_zero (by omega)
        rw [hn] at this
        cases this
    exact ⟨h0, hdone _ _ _ hI h0⟩
  | fuel + 1, L, listed, a, w, hL, hl, hI => by
    refine ⟨hdone _ _ _ hI, fun i hi => wpOp_mono (fun a' w' h' => ?_) (hstep _ _ _ i hI hi)⟩
    have hm := hL i (ready_open hi).1 (ready_open hi).2
    refine wpAny_inv Inv hdone hstep fuel (L.erase i) _ a' w' (fun j hj hd => ?_) ?_ h'
    · obtain ⟨h1, h2⟩ := getD_set _ _ _ hd
      exact (List.mem_erase_of_ne h1).2 (hL j hj h2)
    · rw [List.length_erase_of_mem hm]; omega
theorem wpOp_of {i : Nat} {o : Oper} {a : Act} {w : World} {K : Act → World → Prop} (ho : ops[i]? = some o) (hg : o.guard = none) (h : ∀ K' : Act → World → Prop, (∀ a w, K a w → K' a w) → o.wp P a w K' Q) : wpOp P ops Q i K a w := by
  unfold wpOp
  rw [ho]
  have hw : Region.wanted o (yielded ops a.tmps) = true := by simp [Region.wanted, hg]
  simp only [hw, if_true]
  exact .inl (h K fun _ _ q => q)
/-- one obligation for each operation -/
theorem wp_region_inv {id : Nat} {a : Act} {w : World} (hm : P.follows .mixedOrders = true) (Inv : Array Bool → Act → World → Prop) (h0 : Inv (Array.replicate ops.size false) a w.drew)
    (hdone : ∀ listed a w, Inv listed a w → Region.ready .any ops listed = [] → Q .normal a w)
    (hstep : ∀ listed a w i, Inv listed a w → i ∈ Region.ready .any ops listed → wpOp P ops Q i (Inv (listed.setIfInBounds i true)) a w) :
    (Code.region id ops true).wp P Q a w :=
  wp_region_any hm (wpAny_inv Inv hdone hstep ops.size (List.range ops.size) _ a _ (fun j hj _ => List.mem_range.2 hj) (by simp) h0)
end
end Go.Proofs.YtlafdlcpelkdpaaGreatDoor
/- What 'lives' asks of the journal. -/
namespace Go.Proofs.YtlafdlcpelkdpaaGreatDoor
open Go.RowKit
open Vl (V)
attribute [local go_sem ↓] Go.wp_at_zero Go.wp_at_succ
namespace Jn
theorem live_rng : rngB liveB := by
  intro r hr
  have hr2 : r ∈ [liveR] := hr
  simp at hr2
  subst hr2
  rw [liveR, Bn.rng]
  exact ⟨by omega, rngL_of _ (fun x hx => by cases hx), rngF_nil⟩
theorem B0_berr : berr B0 = 2 := by
  rw [berr, twhy, sizes, B0]
  simp
theorem live_took {ts : List ByteArray} {bs : List B} {s : ByteArray} (hs : s = frameOf (btext liveB) ++ ⟨#[120]⟩) (h : Took ts bs) (hp : ts <+: frs s) (he : ts = frs s ∨ ∃ x, ts ++ [x] <+: frs s ∧ Ends bs x) : bs.length = 1 ∧ total ts = (frameOf (btext liveB)).size := by
  have hf : frs s = [btext liveB] := by rw [hs, frs_frame _ _ (btext_size _), frs_short _ (by decide)]
  rw [hf] at hp he
  have hts : ts = [btext liveB] := by
    rcases he with e | ⟨x, hx, hE⟩
    · exact e
    · exfalso
      have hl := hx.length_le
      rw [List.length_append] at hl
      have h0 : ts = [] := List.eq_nil_of_length_eq_zero (by simp only [List.length_cons, List.length_nil] at hl; omega)
      subst h0
      have hb : bs = [] := List.eq_nil_of_length_eq_zero (by rw [← h.len]; rfl)
      subst hb
      obtain ⟨r, er⟩ := hx
      simp at er
      exact hE liveB live_berr live_rng er.1.symm rfl rfl
  subst hts
  exact ⟨by rw [← h.len]; rfl, by rw [frameOf_size]; simp [total]⟩
end Jn
/-- the revision's variable is there -/
structure LV (w W : World) : Prop where
  below : Below w.heap.size w W
  box : W.heap[w.heap.size]? = some (.cells #[.int .u8 1, .string ⟨#[116]⟩, .int .u64 0, .int .u64 0, .int .u8 0, .bool false, .int .i64 0, .string ⟨#[]⟩, .slice none 0 0, .slice none 0 0] 110 (0, 0))
theorem LV.call {w W W' : World} (h : LV w W) (hb : Below W.heap.size W W') : LV w W' := ⟨h.below.trans (hb.mono h.below.size), blk_call h.box hb⟩
theorem LV.drew {w W : World} (h : LV w W) : LV w W.drew := ⟨h.below.drew, h.box⟩
theorem drew_blk {W : World} {k : Nat} {o : Obj} (h : W.heap[k]? = some o) : W.drew.heap[k]? = some o := h
theorem LV.set {w W : World} {k : Nat} (h : LV w W) (hk : w.heap.size < k) (vs : List Value) : LV w (W.setCells k 0 vs) := ⟨below_setCellsV (by omega) _ _ h.below, (setCells_block (by omega) _).trans h.box⟩
theorem sl_none (W : World) : Sl W W.heap.size (.slice none 0 0) [] := own_sl (base := 0) (l := []) ⟨rfl, .inl ⟨rfl, rfl⟩⟩
theorem LV.cells {w W : World} (h : LV w W) : W.cell? ⟨w.heap.size, 0, none⟩ = some (.int .u8 1) ∧ W.cell? ⟨w.heap.size, 1, none⟩ = some (.string ⟨#[116]⟩) ∧ W.cell? ⟨w.heap.size, 2, none⟩ = some (.int .u64 0) ∧ W.cell? ⟨w.heap.size, 3, none⟩ = some (.int .u64 0) ∧ W.cell? ⟨w.heap.size, 4, none⟩ = some (.int .u8 0) ∧ W.cell? ⟨w.heap.size, 5, none⟩ = some (.bool false) ∧ W.cell? ⟨w.heap.size, 6, none⟩ = some (.int .i64 0) ∧ W.cell? ⟨w.heap.size, 7, none⟩ = some (.string ⟨#[]⟩) ∧ W.cell? ⟨w.heap.size, 8, none⟩ = some (.slice none 0 0) ∧ W.cell? ⟨w.heap.size, 9, none⟩ = some (.slice none 0 0) :=
  ⟨block_cells h.box 0 _ rfl, block_cells h.box 1 _ rfl, block_cells h.box 2 _ rfl, block_cells h.box 3 _ rfl, block_cells h.box 4 _ rfl, block_cells h.box 5 _ rfl, block_cells h.box 6 _ rfl, block_cells h.box 7 _ rfl, block_cells h.box 8 _ rfl, block_cells h.box 9 _ rfl⟩
/-- which operations were carried out, and what they left -/
structure LI (w : World) (ah rt : ByteArray) (l0 l1 l2 l3 l4 l5 l6 l7 l8 l9 : Bool) (s2 s3 s11 s12 s13 s14 s15 s16 s17 : Value) (g k : Nat) (sa : Option Addr) (sn sc : Nat) (ra : Option Addr) (rn rc : Nat) (W : World) : Prop where
  lv : LV w W
  h0 : l0 = true → s12 = .string ah
  h1 : l1 = true → s13 = .agg #[.int .u8 1, .string ⟨#[116]⟩, .int .u64 0, .int .u64 0, .int .u8 0, .bool false, .int .i64 0, .string ⟨#[]⟩, .slice none 0 0, .slice none 0 0]
  h2 : l2 = true → s14 = .slice (some ⟨g, 0, none⟩) 1 1 ∧ W.heap[g]? = some (.cells #[.int .u8 1, .string ⟨#[116]⟩, .int .u64 0, .int .u64 0, .int .u8 0, .bool false, .int .i64 0, .string ⟨#[]⟩, .slice none 0 0, .slice none 0 0] 110 (0, 0)) ∧ (l7 = true → g ≠ k)
  h3 : l3 = true → s15 = .tuple #[.agg #[.int .u64 1, .string ah, .string rt, .slice sa sn sc, .slice ra rn rc], .int .i64 0] ∧ ∃ A, BkI W A Jn.liveB (.slice sa sn sc) (.slice ra rn rc) ∧ (l7 = true → ¬ A k)
  h4 : l4 = true → s11 = .tuple #[.agg #[.int .u64 1, .string ah, .string rt, .slice sa sn sc, .slice ra rn rc], .int .i64 0]
  h5 : l5 = true → s16 = .agg #[.int .u64 1, .string ah, .string rt, .slice sa sn sc, .slice ra rn rc]
  h6 : l6 = true → s17 = .int .i64 0
  h7 : l7 = true → s2 = .pointer (some ⟨k, 0, none⟩) ∧ w.heap.size < k ∧ ∃ c0 c1 c2 c3 c4, W.heap[k]? = some (.cells #[c0, c1, c2, c3, c4] 32 (0, 0))
  h8 : l8 = true → W.heap[k]? = some (.cells #[.int .u64 1, .string ah, .string rt, .slice sa sn sc, .slice ra rn rc] 32 (0, 0))
  h9 : l9 = true → s3 = .int .i64 0
  ord : (l4 = true → l3 = true) ∧ (l5 = true → l3 = true) ∧ (l8 = true → l3 = true) ∧ (l8 = true → l7 = true)
theorem LI.call {w W W' : World} {ah rt : ByteArray} {l0 l1 l2 l3 l4 l5 l6 l7 l8 l9 : Bool} {s2 s3 s11 s12 s13 s14 s15 s16 s17 : Value} {g k : Nat} {sa : Option Addr} {sn sc : Nat} {ra : Option Addr} {rn rc : Nat} (h : LI w ah rt l0 l1 l2 l3 l4 l5 l6 l7 l8 l9 s2 s3 s11 s12 s13 s14 s15 s16 s17 g k sa sn sc ra rn rc W) (hb : Below W.heap.size W W') : LI w ah rt l0 l1 l2 l3 l4 l5 l6 l7 l8 l9 s2 s3 s11 s12 s13 s14 s15 s16 s17 g k sa sn sc ra rn rc W' :=
  ⟨h.lv.call hb, h.h0, h.h1, fun q => ⟨(h.h2 q).1, blk_call (h.h2 q).2.1 hb, (h.h2 q).2.2⟩, fun q => ⟨(h.h3 q).1, (h.h3 q).2.imp fun _ hA => ⟨hA.1.stays fun x hx => hb.block x (hA.1.cells x hx).lt, hA.2⟩⟩, h.h4, h.h5, h.h6, fun q => ⟨(h.h7 q).1, (h.h7 q).2.1, by
    obtain ⟨c0, c1, c2, c3, c4, e⟩ := (h.h7 q).2.2
    exact ⟨c0, c1, c2, c3, c4, blk_call e hb⟩⟩, fun q => blk_call (h.h8 q) hb, h.h9, h.ord⟩
theorem LI.put {w W : World} {ah rt : ByteArray} {l0 l1 l2 l3 l4 l5 l6 l7 l8 l9 : Bool} {s2 s3 s11 s12 s13 s14 s15 s16 s17 : Value} {g k : Nat} {sa : Option Addr} {sn sc : Nat} {ra : Option Addr} {rn rc : Nat} (h : LI w ah rt l0 l1 l2 l3 l4 l5 l6 l7 l8 l9 s2 s3 s11 s12 s13 s14 s15 s16 s17 g k sa sn sc ra rn rc W) (q7 : l7 = true) (q3 : l3 = true) : LI w ah rt l0 l1 l2 l3 l4 l5 l6 l7 true l9 s2 s3 s11 s12 s13 s14 s15 s16 s17 g k sa sn sc ra rn rc (W.setCells k 0 [.int .u64 1, .string ah, .string rt, .slice sa sn sc, .slice ra rn rc]) := by
  obtain ⟨c0, c1, c2, c3, c4, e⟩ := (h.h7 q7).2.2
  have o : ∀ x, x ≠ k → (W.setCells k 0 [.int .u64 1, .string ah, .string rt, .slice sa sn sc, .slice ra rn rc]).heap[x]? = W.heap[x]? := fun x hx => setCells_block hx _
  have f := putB5 e (.int .u64 1) (.string ah) (.string rt) (.slice sa sn sc) (.slice ra rn rc)
  obtain ⟨w6, hw6⟩ : ∃ w6, w6 = W.setCells k 0 [.int .u64 1, .string ah, .string rt, .slice sa sn sc, .slice ra rn rc] := ⟨_, rfl⟩
  have lv := h.lv.set (h.h7 q7).2.1 [.int .u64 1, .string ah, .string rt, .slice sa sn sc, .slice ra rn rc]
  rw [← hw6] at o f lv ⊢
  exact ⟨lv, h.h0, h.h1, fun q => ⟨(h.h2 q).1, (o g ((h.h2 q).2.2 q7)).trans (h.h2 q).2.1, (h.h2 q).2.2⟩, fun q => ⟨(h.h3 q).1, (h.h3 q).2.imp fun _ hA => ⟨hA.1.stays fun x hx => o x fun e => hA.2 q7 (e ▸ hx), hA.2⟩⟩, h.h4, h.h5, h.h6, fun _ => ⟨(h.h7 q7).1, (h.h7 q7).2.1, _, _, _, _, _, f⟩, fun _ => f, h.h9, h.ord.1, h.ord.2.1, fun _ => q3, fun _ => q7⟩
end Go.Proofs.YtlafdlcpelkdpaaGreatDoor
