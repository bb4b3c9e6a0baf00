/- Several texts, joined: JnTa, JnTm, TpR -/
import Derived.Test.YtlafdlcpelkdpaaGreatDoorXCM
/- Blocks that are made one behind the other, and their frames: chain, walked. -/
namespace Go.Proofs.YtlafdlcpelkdpaaGreatDoor
open Go.RowKit
open Vl (V)
attribute [local go_sem ↓] Go.wp_at_zero Go.wp_at_succ
/-- blocks in a row, beside a row of something else -/
def BRX (W : World) (n₀ : Nat) (X : Option Nat) (lv : Value) (bs : List Jn.B) : Prop := ∃ cs, W.ownsRow n₀ 32 5 lv bs.length cs ∧ cs.length = bs.length * 5 ∧ (∀ g, lv.ownBlock = some g → X ≠ some g) ∧ ∀ j b, bs[j]? = some b → ∃ sv rv A, (∀ i v, (BC b sv rv)[i]? = some v → cs[j * 5 + i]? = some v) ∧ BkI W A b sv rv ∧ ∀ g, A g → n₀ ≤ g ∧ g < W.heap.size ∧ lv.ownBlock ≠ some g ∧ X ≠ some g
theorem BRX.none (W : World) (n₀ : Nat) (X : Option Nat) : BRX W n₀ X (.slice none 0 0) [] := ⟨[], ⟨rfl, .inl ⟨rfl, rfl⟩⟩, rfl, fun g h => by simp [Value.ownBlock] at h, fun j b h => by simp at h⟩
theorem BRX.row {W : World} {n₀ : Nat} {X : Option Nat} {lv : Value} {bs : List Jn.B} (h : BRX W n₀ X lv bs) : BlkRow W n₀ lv bs := by
  obtain ⟨cs, h1, h2, _, h3⟩ := h
  refine ⟨cs, h1, h2, fun j b hj => ?_⟩
  obtain ⟨sv, rv, A, k1, k2, k3⟩ := h3 j b hj
  exact ⟨sv, rv, A, k1, k2, fun g hg => ⟨(k3 g hg).1, (k3 g hg).2.1, (k3 g hg).2.2.1⟩⟩
theorem BRX.step {W W' : World} {n₀ : Nat} {X X' : Option Nat} {lv : Value} {bs : List Jn.B} (h : BRX W n₀ X lv bs) (hs : W.heap.size ≤ W'.heap.size) (hb : ∀ g, n₀ ≤ g → g < W.heap.size → X ≠ some g → W'.heap[g]? = W.heap[g]? ∧ X' ≠ some g) : BRX W' n₀ X' lv bs := by
  obtain ⟨cs, h1, h2, h0, h3⟩ := h
  refine ⟨cs, own_block h1 fun g hg => ?_, h2, fun g hg => ?_, fun j b hj => ?_⟩
  · obtain ⟨k1, k2⟩ := own_in h1 g hg
    exact (hb g k1 k2 (h0 g hg)).1
  · obtain ⟨k1, k2⟩ := own_in h1 g hg
    exact (hb g k1 k2 (h0 g hg)).2
  · obtain ⟨sv, rv, A, k1, k2, k3⟩ := h3 j b hj
    exact ⟨sv, rv, A, k1, k2.stays fun g hg => (hb g (k3 g hg).1 (k3 g hg).2.1 (k3 g hg).2.2.2).1, fun g hg => ⟨(k3 g hg).1, Nat.lt_of_lt_of_le (k3 g hg).2.1 hs, (k3 g hg).2.2.1, (hb g (k3 g hg).1 (k3 g hg).2.1 (k3 g hg).2.2.2).2⟩⟩
theorem BRX.call {W W' : World} {n₀ : Nat} {X : Option Nat} {lv : Value} {bs : List Jn.B} (h : BRX W n₀ X lv bs) (hb : Below W.heap.size W W') : BRX W' n₀ X lv bs := h.step hb.size fun g _ hg hX => ⟨hb.block g hg, hX⟩
/-- one more -/
theorem BRX.more {W W' : World} {n₀ : Nat} {X : Option Nat} {lv lv' : Value} {bs : List Jn.B} {b : Jn.B} {sv rv : Value} {A : Nat → Prop} {cs : List Value} (hc : cs.length = bs.length * 5) (hX : ∀ g, X = some g → g < W.heap.size) (hlX : ∀ g, lv.ownBlock = some g → X ≠ some g) (h3 : ∀ j b, bs[j]? = some b → ∃ sv rv A, (∀ i v, (BC b sv rv)[i]? = some v → cs[j * 5 + i]? = some v) ∧ BkI W A b sv rv ∧ ∀ g, A g → n₀ ≤ g ∧ g < W.heap.size ∧ lv.ownBlock ≠ some g ∧ X ≠ some g)
    (hb : BkI W A b sv rv) (hA : ∀ g, A g → n₀ ≤ g ∧ g < W.heap.size ∧ lv.ownBlock ≠ some g ∧ X ≠ some g) (hg : W.grownBy W' lv.ownBlock) (hat : lv'.ownBlock = lv.ownBlock ∨ lv'.ownBlock = some W.heap.size) (hn : W'.ownsRow n₀ 32 5 lv' (bs.length + 1) (cs ++ BC b sv rv)) : BRX W' n₀ X lv' (bs ++ [b]) := by
  have move : ∀ A : Nat → Prop, (∀ g, A g → n₀ ≤ g ∧ g < W.heap.size ∧ lv.ownBlock ≠ some g ∧ X ≠ some g) → ∀ g, A g → W'.heap[g]? = W.heap[g]? ∧ n₀ ≤ g ∧ g < W'.heap.size ∧ lv'.ownBlock ≠ some g ∧ X ≠ some g := by
    intro A hA g hg'
    obtain ⟨k1, k2, k3, k4⟩ := hA g hg'
    refine ⟨hg.block g k2 (fun q => k3 q.symm), k1, Nat.lt_of_lt_of_le k2 hg.size, ?_, k4⟩
    rcases hat with e | e
    · rw [e]; exact k3
    · rw [e]; intro q; simp at q; omega
  refine ⟨cs ++ BC b sv rv, by rw [List.length_append]; exact hn, by simp [hc, BC]; omega, fun g hg' q => ?_, fun j u hj => ?_⟩
  · rcases hat with e | e
    · rw [e] at hg'; exact hlX g hg' q
    · rw [e] at hg'
      have := hX g q
      simp at hg'
      omega
  rcases Nat.lt_or_ge j bs.length with hlt | hge
  · rw [List.getElem?_append_left hlt] at hj
    obtain ⟨sv', rv', A', k1, k2, k3⟩ := h3 j u hj
    refine ⟨sv', rv', A', fun i v hi => ?_, k2.stays fun g hg' => (move A' k3 g hg').1, fun g hg' => (move A' k3 g hg').2⟩
    have hi5 : i < 5 := by have := (List.getElem?_eq_some_iff.1 hi).1; simpa [BC] using this
    rw [List.getElem?_append_left (by omega)]
    exact k1 i v hi
  · have hj2 : j = bs.length := by
      have := (List.getElem?_eq_some_iff.1 hj).1
      simp at this; omega
    subst hj2
    rw [List.getElem?_append_right (Nat.le_refl _), Nat.sub_self] at hj
    simp at hj
    subst hj
    refine ⟨sv, rv, A, fun i v hi => ?_, hb.stays fun g hg' => (move A hA g hg').1, fun g hg' => (move A hA g hg').2⟩
    rw [List.getElem?_append_right (by omega), ← hc, Nat.add_sub_cancel_left]
    exact hi
namespace Jn
/-- the frames of blocks -/
def fms (bs : List B) : List (List UInt8) := bs.map fun b => (frameOf (btext b)).data.toList
theorem fms_snoc (bs : List B) (b : B) : fms (bs ++ [b]) = fms bs ++ [(frameOf (btext b)).data.toList] := by simp [fms]
theorem fms_len (bs : List B) : (fms bs).length = bs.length := by simp [fms]
/-- a block that is made behind others -/
theorem Took.made {ts : List ByteArray} {bs : List B} (h : Took ts bs) {sts : List ByteArray} {revs : List R} (he : berr (made (bs.length + 1) (prevOf bs) sts revs) = 0) (hr : rngB (made (bs.length + 1) (prevOf bs) sts revs)) : Took (ts ++ [btext (made (bs.length + 1) (prevOf bs) sts revs)]) (bs ++ [made (bs.length + 1) (prevOf bs) sts revs]) :=
  Took.more h he hr rfl rfl
end Jn
/-- lists of revisions that are handed in -/
def RV1 (W : World) (H : Nat) (ra : Option Addr) (rn : Nat) (revs : List Jn.R) : Prop := rn = revs.length ∧ rn ≤ maxLen ∧ (0 < rn → ∃ g o, ra = some ⟨g, o, none⟩ ∧ g < H ∧ ∀ i r, revs[i]? = some r → RevAt W H g (o + i * 10) r)
theorem RV1.stays {W W' : World} {H K : Nat} {ra : Option Addr} {rn : Nat} {revs : List Jn.R} (h : RV1 W H ra rn revs) (hb : Below H W W') (hK : H ≤ K) : RV1 W' K ra rn revs := by
  refine ⟨h.1, h.2.1, fun hp => ?_⟩
  obtain ⟨g, o, e, hg, hr⟩ := h.2.2 hp
  exact ⟨g, o, e, Nat.lt_of_lt_of_le hg hK, fun i r hi => (hr i r hi).stays hb hg hK⟩
def LL (W : World) (v : Value) (ll : List (List Jn.R)) : Prop := ∃ a c, v = .slice a ll.length c ∧ (0 < ll.length → ∃ g o, a = some ⟨g, o, none⟩ ∧ g < W.heap.size ∧ ∀ j revs, ll[j]? = some revs → ∃ ra rn rc, W.cell? ⟨g, o + j, none⟩ = some (.slice ra rn rc) ∧ RV1 W W.heap.size ra rn revs)
theorem LL.call {W W' : World} {v : Value} {ll : List (List Jn.R)} (h : LL W v ll) (hb : Below W.heap.size W W') : LL W' v ll := by
  obtain ⟨a, c, e, h1⟩ := h
  refine ⟨a, c, e, fun hp => ?_⟩
  obtain ⟨g, o, e2, hg, hc⟩ := h1 hp
  refine ⟨g, o, e2, Nat.lt_of_lt_of_le hg hb.size, fun j revs hj => ?_⟩
  obtain ⟨ra, rn, rc, h2, h3⟩ := hc j revs hj
  exact ⟨ra, rn, rc, (hb.cell (p := ⟨g, _, none⟩) hg).trans h2, h3.stays hb hb.size⟩
/-- blocks and frames so far -/
structure CS (w W : World) (bs : List Jn.B) (ov fv : Value) : Prop where
  below : Below w.heap.size w W
  took : Jn.Took (bs.map Jn.btext) bs
  row : BRX W w.heap.size fv.ownBlock ov bs
  frm : W.ownsRow w.heap.size 9 1 fv bs.length (scs (Jn.fms bs))
theorem CS.call {w W W' : World} {bs : List Jn.B} {ov fv : Value} (h : CS w W bs ov fv) (hb : Below W.heap.size W W') : CS w W' bs ov fv :=
  ⟨h.below.trans (hb.mono h.below.size), h.took, h.row.call hb, own_call h.frm hb⟩
/-- a block more, and then its frame -/
structure CS2 (w W : World) (bs : List Jn.B) (b : Jn.B) (ov fv : Value) : Prop where
  below : Below w.heap.size w W
  took : Jn.Took ((bs ++ [b]).map Jn.btext) (bs ++ [b])
  row : BRX W w.heap.size fv.ownBlock ov (bs ++ [b])
  frm : W.ownsRow w.heap.size 9 1 fv bs.length (scs (Jn.fms bs))
theorem CS.block {w W W1 W' : World} {bs : List Jn.B} {b : Jn.B} {ov ov' fv sv rv : Value} {A : Nat → Prop} {cs : List Value} {o : Obj} (h : CS w W bs ov fv) (hb1 : Below W.heap.size W W1) (ht : Jn.Took ((bs ++ [b]).map Jn.btext) (bs ++ [b]))
    (hc : cs.length = bs.length * 5) (hlX : ∀ g, ov.ownBlock = some g → fv.ownBlock ≠ some g) (h3 : ∀ j b, bs[j]? = some b → ∃ sv rv A, (∀ i v, (BC b sv rv)[i]? = some v → cs[j * 5 + i]? = some v) ∧ BkI (W1.alloc o) A b sv rv ∧ ∀ g, A g → w.heap.size ≤ g ∧ g < (W1.alloc o).heap.size ∧ ov.ownBlock ≠ some g ∧ fv.ownBlock ≠ some g)
    (ho : (W1.alloc o).ownsRow w.heap.size 32 5 ov bs.length cs) (hb : BkI (W1.alloc o) A b sv rv) (hA : ∀ g, A g → w.heap.size ≤ g ∧ g < (W1.alloc o).heap.size ∧ ov.ownBlock ≠ some g ∧ fv.ownBlock ≠ some g) (hg : (W1.alloc o).grownBy W' ov.ownBlock) (hat : ov'.ownBlock = ov.ownBlock ∨ ov'.ownBlock = some (W1.alloc o).heap.size) (hn : W'.ownsRow w.heap.size 32 5 ov' (bs.length + 1) (cs ++ BC b sv rv)) : CS2 w W' bs b ov' fv := by
  have hw1 := h.below.trans (hb1.mono h.below.size)
  have hw2 : Below w.heap.size w (W1.alloc o) := hw1.alloc hw1.size o
  have hf1 := own_call h.frm (hb1.trans ((Below.refl W1.heap.size W1).alloc (Nat.le_refl _) o |>.mono hb1.size))
  have hfl : ∀ g, fv.ownBlock = some g → g < (W1.alloc o).heap.size := fun g hg => (own_in hf1 g hg).2
  refine ⟨hw2.grown hg hw2.size (fun k hk => (own_in ho k hk).1), ht, BRX.more hc hfl hlX h3 hb hA hg hat hn, ?_⟩
  refine own_block hf1 fun g hgf => hg.block g (hfl g hgf) fun q => ?_
  exact hlX g q.symm hgf
theorem CS2.frame {w W W' : World} {bs : List Jn.B} {b : Jn.B} {ov fv fv' : Value} {o : Obj} (h : CS2 w W bs b ov fv) (hg : (W.alloc o).grownBy W' fv.ownBlock) (hat : fv'.ownBlock = fv.ownBlock ∨ fv'.ownBlock = some (W.alloc o).heap.size)
    (hn : W'.ownsRow w.heap.size 9 1 fv' (bs.length + 1) (scs (Jn.fms bs) ++ [.string (Jn.frameOf (Jn.btext b))])) : CS w W' (bs ++ [b]) ov fv' := by
  have hbn : Below W.heap.size W (W.alloc o) := (Below.refl _ _).alloc (Nat.le_refl _) o
  have hw2 : Below w.heap.size w (W.alloc o) := h.below.alloc h.below.size o
  refine ⟨hw2.grown hg hw2.size (fun k hk => (own_in h.frm k hk).1), h.took, ?_, ?_⟩
  · refine (h.row.call hbn).step hg.size fun g h1 h2 h3 => ⟨hg.block g h2 (fun q => h3 q.symm), ?_⟩
    rcases hat with e | e
    · rw [e]; exact h3
    · rw [e]; intro q; simp at q; simp at h2; omega
  · rw [List.length_append, Jn.fms_snoc]
    have e : scs (Jn.fms bs ++ [(Jn.frameOf (Jn.btext b)).data.toList]) = scs (Jn.fms bs) ++ [.string (Jn.frameOf (Jn.btext b))] := by simp [scs, encS, bs_data]
    rw [e]
    exact hn
end Go.Proofs.YtlafdlcpelkdpaaGreatDoor
/- Frames behind one another that are cut anywhere: plain mathematics. -/
namespace Go.Proofs.YtlafdlcpelkdpaaGreatDoor
open Go.RowKit
open Vl (V)
namespace Jn
theorem bs_app (a b : List UInt8) : (bs (a ++ b) : ByteArray) = bs a ++ bs b := ba_ext (by rw [app_list])
theorem frs_cat : ∀ (l : List B) (r : List UInt8), frs (bs ((fms l).flatten ++ r)) = l.map btext ++ frs (bs r)
  | [], r => rfl
  | b :: l, r => by
    have e : (fms (b :: l)).flatten ++ r = (frameOf (btext b)).data.toList ++ ((fms l).flatten ++ r) := by simp [fms]
    rw [e, bs_app, bs_data, frs_frame _ _ (btext_size b), frs_cat l r]
    rfl
/-- a part of a frame is none -/
theorem frs_part (t : ByteArray) (r : List UInt8) (ht : t.size ≤ 16384) (hp : r <+: (frameOf t).data.toList) (hl : r.length < 12 + t.size) : frs (bs r) = [] := by
  refine frs_none ?_
  rw [ff]
  have hs : (bs r).size = r.length := bs_size r
  by_cases h12 : r.length < 12
  · rw [if_pos (by rw [hs]; exact h12)]
  rw [if_neg (by rw [hs]; exact h12)]
  have hfl : (frameOf t).data.toList = cnt t.size ++ ((sealOf (bs (cnt t.size)) t).data.toList ++ t.data.toList) := by
    rw [frameOf, app_list, app_list, List.append_assoc]
  have h4 : (bs r).extract 0 4 = bs (cnt t.size) := by
    refine ba_ext ?_
    rw [ext_list]
    obtain ⟨q, hq⟩ := hp
    have e : (r ++ q).take 4 = cnt t.size := by
      rw [hq, hfl]
      rfl
    rw [List.take_append_of_le_length (by omega)] at e
    exact e
  rw [h4]
  have hu : unc (bs (cnt t.size)).data.toList = t.size := unc_cnt t.size (by omega)
  rw [hu, if_pos (by rw [hs]; omega)]
theorem fms_take (l : List B) (k : Nat) : fms (l.take k) = (fms l).take k := by rw [fms, fms, List.map_take]
theorem total_fms : ∀ l : List B, total (l.map btext) = (fms l).flatten.length
  | [] => rfl
  | b :: l => by
    have h := total_fms l
    have hf : (frameOf (btext b)).data.toList.length = 12 + (btext b).size := by rw [← Lib.size_eq]; exact frameOf_size _
    simp only [total, fms, List.map_cons, List.sum_cons, List.flatten_cons, List.length_append, hf] at h ⊢
    rw [h]
theorem Took.pre {ts : List ByteArray} {bs : List B} (h : Took ts bs) : ∀ k, Took (ts.take k) (bs.take k) := by
  induction h with
  | none => intro k; simp; exact Took.none
  | @more ts bs b h1 h2 h3 h4 h5 ih =>
    intro k
    have hl := h1.len
    by_cases hk : k ≤ bs.length
    · rw [List.take_append_of_le_length (by omega), List.take_append_of_le_length hk]
      exact ih k
    · rw [List.take_of_length_le (by simp; omega), List.take_of_length_le (by simp; omega)]
      exact Took.more h1 h2 h3 h4 h5
/-- of frames that are cut those that are whole are read -/
theorem torn (l : List B) (cut k : Nat) (hk : k ≤ l.length) (h1 : ((fms l).take k).flatten.length ≤ cut) (h2 : k < l.length → ∀ f, (fms l)[k]? = some f → cut < ((fms l).take k).flatten.length + f.length) : frs (bs ((fms l).flatten.take cut)) = (l.take k).map btext := by
  have e : (fms l).flatten = ((fms l).take k).flatten ++ ((fms l).drop k).flatten := by rw [← List.flatten_append, List.take_append_drop]
  rw [e, List.take_append, List.take_of_length_le h1, ← fms_take, frs_cat]
  have : frs (bs (((fms l).drop k).flatten.take (cut - (fms (l.take k)).flatten.length))) = [] := by
    by_cases hlt : k < l.length
    · obtain ⟨b, hb⟩ : ∃ b, l[k]? = some b := ⟨_, List.getElem?_eq_getElem hlt⟩
      have hf : (fms l)[k]? = some (frameOf (btext b)).data.toList := by rw [fms, List.getElem?_map, hb]; rfl
      have h3 := h2 hlt _ hf
      have hd : (fms l).drop k = (frameOf (btext b)).data.toList :: (fms l).drop (k + 1) := by
        obtain ⟨h4, h5⟩ := List.getElem?_eq_some_iff.1 hf
        rw [List.drop_eq_getElem_cons h4, h5]
      rw [fms_take, hd, List.flatten_cons, List.take_append_of_le_length (by omega)]
      refine frs_part (btext b) _ (btext_size b) (List.take_prefix _ _) ?_
      have hfl : (frameOf (btext b)).data.toList.length = 12 + (btext b).size := by rw [← Lib.size_eq]; exact frameOf_size _
      rw [List.length_take]
      omega
    · rw [List.drop_of_length_le (by rw [fms_len]; omega)]
      exact frs_short _ (by rw [bs_size]; simp)
  rw [this, List.append_nil]
end Jn
end Go.Proofs.YtlafdlcpelkdpaaGreatDoor
/- Blocks that are made one behind the other, at most twenty: row, walked. -/
namespace Go.Proofs.YtlafdlcpelkdpaaGreatDoor
open Go.RowKit
open Vl (V)
attribute [local go_sem ↓] Go.wp_at_zero Go.wp_at_succ
set_option maxHeartbeats 2000000 in
theorem firstT_c (w : World) : Calls Tryz.prog 15 #[] w fun e w' => e = .returned (.string Jn.ahead) ∧ Below w.heap.size w w' := by
  obtain ⟨i0, hi, hz0, hz1, hz2⟩ := info_parts info5
  obtain ⟨M, hM⟩ : ∃ M, M = madeCells (Value.int .u8 0).cells (32 * i0.size) := ⟨_, rfl⟩
  have hmk : ∀ u : World, (Instr.makeSlice 74 (.int .i64 32) (.int .i64 32)).run Tryz.prog u = .ok (.slice (some ⟨u.heap.size, 0, none⟩) 32 32) (u.alloc (.cells M 5)) := fun u => by
    have h := run_make (P := Tryz.prog) u 74 5 i0 (.int .u8 0) Tryz.underlying74 hi hz0 .i64 .i64 32 32 (by omega) (by omega) (by rw [hz2]; omega) (by omega)
    rw [show (32 : Int).toNat = 32 by omega, ← hM] at h
    exact h
  have HO : (w.alloc (.cells M 5)).ownsRow w.heap.size 5 1 (.slice (some ⟨w.heap.size, 0, none⟩) 32 32) (List.replicate 32 (0 : UInt8)).length (Lib.byteCells (List.replicate 32 (0 : UInt8))) := by
    have e : M = (Lib.byteCells (List.replicate 32 (0 : UInt8))).toArray := by rw [hM, hz1]; exact made_bytes 32
    rw [e]
    exact ⟨by simp [Lib.byteCells], .inr ⟨w.heap.size, 32, _, rfl, Nat.le_refl _, heap_alloc_new w _, by simp, by unfold maxLen; omega, by simp [Lib.byteCells], by simp [Lib.byteCells]⟩⟩
  obtain ⟨g, n, cap, str, hv, hc, hs⟩ := own_string HO (by decide)
  injection hv with h1 h2 h3
  injection h1 with h1
  injection h1 with h1
  subst h1 h2 h3
  clear hM HO
  go_enter Tryz.func15, Tryz.ntmps15
  go_wp2
  go_ret
  exact ⟨by rw [hs.out]; rfl, below_new _ _⟩
theorem prev_sz {bs : List Jn.B} : (Jn.prevOf bs).size = 32 := by
  unfold Jn.prevOf
  split
  · rfl
  · rw [Jn.digest, bs_size, Mk.sum_length]
/-- blocks so far -/
structure RW (w W : World) (bs : List Jn.B) (ov : Value) : Prop where
  below : Below w.heap.size w W
  took : Jn.Took (bs.map Jn.btext) bs
  row : BRX W w.heap.size none ov bs
theorem RW.call {w W W' : World} {bs : List Jn.B} {ov : Value} (h : RW w W bs ov) (hb : Below W.heap.size W W') : RW w W' bs ov :=
  ⟨h.below.trans (hb.mono h.below.size), h.took, h.row.call hb⟩
theorem RW.put {w w1 w2 wx : World} {bs : List Jn.B} {c : Jn.B} {ov sv rv : Value} (h : RW w w1 bs ov) (h12 : Below w1.heap.size w1 w2) (hbn : BkN w2 w1.heap.size c sv rv) (h2x : Below w2.heap.size w2 wx) (ht : Jn.Took ((bs ++ [c]).map Jn.btext) (bs ++ [c])) :
    ∃ cs, wx.ownsRow w.heap.size 32 5 ov bs.length cs ∧ ∀ ov' w9, w9.ownsRow w.heap.size 32 5 ov' (bs.length + 1) (cs ++ BC c sv rv) → wx.grownBy w9 ov.ownBlock → (ov'.ownBlock = ov.ownBlock ∨ ov'.ownBlock = some wx.heap.size) → RW w w9 (bs ++ [c]) ov' := by
  have h09 : Below w1.heap.size w1 wx := h12.trans (h2x.mono h12.size)
  have hI : BkI wx (fun g => w1.heap.size ≤ g ∧ g < w2.heap.size ∧ CellsAt w2 g) c sv rv := hbn.bki.stays fun g hg => h2x.block g hg.2.1
  obtain ⟨cs0, ho0, _⟩ := h.row
  have hovl : ∀ g, ov.ownBlock = some g → g < w1.heap.size := fun g hg => (own_in ho0 g hg).2
  obtain ⟨cs, k1, k2, k3, k4⟩ := h.row.call h09
  refine ⟨cs, k1, fun ov' w9 hn hg hat => ?_⟩
  have s1 := h.below.size
  have s3 := h12.size
  have s4 := h2x.size
  have hw2 : Below w.heap.size w wx := h.below.trans (h09.mono h.below.size)
  refine ⟨hw2.grown hg hw2.size (fun k hk => (own_in k1 k hk).1), ht, BRX.more (A := fun g => w1.heap.size ≤ g ∧ g < w2.heap.size ∧ CellsAt w2 g) k2 (fun g hg => by cases hg) k3 k4 hI (fun g hg => ⟨by have := hg.1; omega, by have := hg.2.1; omega, fun q => ?_, fun q => by cases q⟩) hg hat hn⟩
  have := hovl g q; have := hg.1; omega
theorem arJ2 {j m : Nat} (h : j < m) : m - (((j : Int) + 1)).toNat < m - ((j : Int)).toNat := by omega
set_option maxHeartbeats 16000000 in
set_option maxRecDepth 100000 in
theorem row_c (ll : List (List Jn.R)) (hn : ll.length ≤ 9223372036854775807) (v : Value) (w : World) (hU : Bn.HasU w) (hK : HasK w) (hL : LL w v ll) : Calls Tryz.prog 5 #[v] w fun e w' => ∃ bs ov, e = .returned ov ∧ RW w w' bs ov ∧ bs.length ≤ 20 := by
  have HU : Hid (∀ W, Below w.heap.size w W → Bn.HasU W) := fun W hW => hU.stays hW
  have HK : Hid (∀ W, Below w.heap.size w W → HasK W) := fun W hW => hK.below hK.1 hW
  have HL : Hid (∀ W, Below w.heap.size w W → LL W v ll) := fun W hW => hL.call hW
  obtain ⟨la, lc, rfl, _⟩ := hL
  obtain ⟨m, hm⟩ : ∃ m, m = ll.length := ⟨_, rfl⟩
  have HM : Hid (m = ll.length) := hm
  rw [← hm] at HL hn
  rw [← hm]
  clear hU hK hm
  obtain ⟨ib, hib, hb0, hb1, hb2⟩ := info_parts infoBlk3
  go_enter Tryz.func5, Tryz.ntmps5
  go_wp2_with fail
  refine Calls.mono (firstT_c _) ?_
  rintro e w0 ⟨rfl, hb0'⟩
  have HB0 : Hid (Below w.heap.size w w0) := hb0'
  clear hb0'
  go_wp2
  go_loopw [3, 4, 14] (fun o p i wr => ∃ (j : Nat) (bs : List Jn.B) (ov : Value) (pv : ByteArray), ov = o ∧ p = .string pv ∧ i = .int .i64 (j : Int) ∧ j ≤ m ∧ bs.length ≤ 20 ∧ pv = Jn.prevOf bs ∧ RW w wr bs ov) (fun _ _ i _ => m - (intOf i).toNat)
  case atStart => exact ⟨0, [], _, _, rfl, rfl, rfl, Nat.zero_le _, Nat.zero_le _, rfl, HB0.out, Jn.Took.none, BRX.none _ _ _⟩
  case round =>
    obtain ⟨j, bs, ov, pv, hov, rfl, rfl, hj, hbj, hpv, hS⟩ := hrel
    subst hov
    have S : Hid (RW w wr bs ov) := hS
    have HPV : Hid (pv = Jn.prevOf bs) := hpv
    obtain ⟨oa, oc, rfl⟩ : ∃ a c, ov = .slice a bs.length c := by obtain ⟨cs, ho, _⟩ := hS.row; exact own_slc ho
    obtain ⟨n, hnn⟩ : ∃ n, n = bs.length := ⟨_, rfl⟩
    have HN : Hid (n = bs.length) := hnn
    rw [← hnn] at S hbj
    rw [← hnn]
    clear hS hpv HB0 hnn
    by_cases hlt : j < m
    · have q1 : (j : Int) < (m : Int) := by omega
      have a1 : (j : Int) + 1 ≤ 9223372036854775807 := by omega
      obtain ⟨a1', c1', e1, k1⟩ := HL.out wr S.out.below
      rw [← HM.out] at e1 k1
      injection e1 with e1 _ e3
      subst e1 e3
      obtain ⟨g, o, rfl, hg, hc⟩ := k1 (by omega)
      obtain ⟨revs, hrv⟩ : ∃ revs, ll[j]? = some revs := ⟨_, List.getElem?_eq_getElem (by rw [← HM.out]; exact hlt)⟩
      obtain ⟨ra, rn, rc, d0, hR⟩ := hc j revs hrv
      have HR : Hid (RV1 wr wr.heap.size ra rn revs) := hR
      clear k1 hc hrv hR hg
      have v1 : IntKind.u64.wrap (n : Int) = (n : Int) := by rw [IntKind.wrap_u64]; omega
      have v2 : IntKind.u64.wrap ((n : Int) + 1) = (n : Int) + 1 := by rw [IntKind.wrap_u64]; omega
      obtain ⟨c, hcd⟩ : ∃ c, c = Jn.made (n + 1) pv [] revs := ⟨_, rfl⟩
      have CM : Hid (Calls Tryz.prog 16 #[.int .u64 ((n : Int) + 1), .string pv, .slice none 0 0, .slice ra rn rc] wr (MakeGave c wr)) := by
        have hr1 := HR.out
        have hsl : Sl wr wr.heap.size (.slice none 0 0) [] := .inl ⟨rfl, none, 0, rfl⟩
        have hsize : pv.size = 32 := by rw [HPV.out]; exact prev_sz
        have hB : Bk wr wr.heap.size ⟨n + 1, pv, Jn.ahead, [], revs⟩ none 0 0 ra rn rc := ⟨by show n + 1 < _; omega, by show pv.size ≤ _; rw [hsize]; decide, by show Jn.ahead.size ≤ _; decide, hsl, (fun s hs => by cases hs), hr1.1, hr1.2.1, hr1.2.2⟩
        have h := make_c (n + 1) pv [] revs none 0 0 ra rn rc wr (HU.out _ S.out.below) (HK.out _ S.out.below) hB
        rw [← hcd] at h
        exact h
      have HC : Hid (c.seq = n + 1 ∧ c.prev = pv) := by rw [hcd]; exact ⟨rfl, rfl⟩
      clear hcd
      go_wp2_with fail
      refine Calls.mono CM.out ?_
      rintro e w2 ⟨hb2, h2⟩
      have HB2 : Hid (Below wr.heap.size wr w2 ∧ Below w.heap.size w w2) := ⟨hb2, S.out.below.trans (hb2.mono S.out.below.size)⟩
      clear hb2 CM d0 v1 v2
      rcases h2 with ⟨hce, sv, rv, rfl, hbn⟩ | ⟨hce, rfl⟩
      · obtain ⟨sa, sn, sc, rfl⟩ : ∃ a n c, sv = .slice a n c := by obtain ⟨a, c, e⟩ := own_slc hbn.row3; exact ⟨a, _, c, e⟩
        obtain ⟨xa, xn, xc, rfl⟩ : ∃ a n c, rv = .slice a n c := by obtain ⟨cs, ho, _⟩ := hbn.row4; obtain ⟨a, c, e⟩ := own_slc ho; exact ⟨a, _, c, e⟩
        have HCE : Hid (Jn.berr c = 0 ∧ BkN w2 wr.heap.size c (.slice sa sn sc) (.slice xa xn xc)) := ⟨hce, hbn⟩
        have HBK : Hid (∀ W, Below w2.heap.size w2 W → Bk W W.heap.size c sa sn sc xa xn xc) := fun W hW => hbn.bk.stays hW hW.size
        have HTK : Hid (Jn.Took ((bs ++ [c]).map Jn.btext) (bs ++ [c])) := by
          have h := Jn.Took.more S.out.took hce hbn.rngB (by rw [HC.out.1, HN.out]) (by rw [HC.out.2, HPV.out])
          simp only [List.map_append, List.map_cons, List.map_nil]
          exact h
        obtain ⟨cq, hcq⟩ : ∃ cq : Int, cq = (c.seq : Int) := ⟨_, rfl⟩
        obtain ⟨cp, hcp⟩ : ∃ cp, cp = c.prev := ⟨_, rfl⟩
        obtain ⟨cr, hcr⟩ : ∃ cr, cr = c.root := ⟨_, rfl⟩
        obtain ⟨rl, hrl⟩ : ∃ rl, rl = c.revs.length := ⟨_, rfl⟩
        obtain ⟨st, hst⟩ : ∃ st, st = (Jn.headOf c).sts := ⟨_, rfl⟩
        obtain ⟨dg, hdg⟩ : ∃ dg, dg = Jn.digest (Jn.headOf c) := ⟨_, rfl⟩
        have hok := Jn.berr_seq hce
        have HW : Hid (∀ W, Below w2.heap.size w2 W → Below w.heap.size w W) := fun W hW => HB2.out.2.trans (hW.mono HB2.out.2.size)
        have CSH : Hid (∀ W, Below w2.heap.size w2 W → Calls Tryz.prog 17 #[.agg #[.int .u64 cq, .string cp, .string cr, .slice sa sn sc, .slice xa xn xc]] W fun e w' => e = .returned (.tuple #[.agg #[.int .u64 cq, .string cp, .string cr, .int .u64 (rl : Int), .string st], .int .i64 0]) ∧ Below W.heap.size W w') := fun W hW => by
          have h := shortB_c c sa sn sc xa xn xc W (HU.out W (HW.out W hW)) (HK.out W (HW.out W hW)) (HBK.out W hW)
          rw [hd_of HCE.out.1, HCE.out.1, ← hcq, ← hcp, ← hcr, ← hrl, ← hst] at h
          exact h
        have CDG : Hid (∀ W, Below w.heap.size w W → Calls Tryz.prog 18 #[.agg #[.int .u64 cq, .string cp, .string cr, .int .u64 (rl : Int), .string st]] W fun e w' => e = .returned (.string dg) ∧ Below W.heap.size W w') := fun W hW => by
          have hsz : st.size ≤ maxLen := by rw [hst, Jn.headOf]; show (Jn.stsDigest _).size ≤ _; rw [Jn.stsDigest, bs_size, Mk.sum_length]; decide
          have h := digest_c c.seq c.prev c.root c.revs.length st (by omega) (by unfold maxLen; omega) (by unfold maxLen; omega) (by omega) hsz W (HU.out W hW) (HK.out W hW)
          rw [← hcq, ← hcp, ← hcr] at h
          rw [hrl, hdg]
          have e : Jn.headOf c = ⟨c.seq, c.prev, c.root, c.revs.length, st⟩ := by rw [hst]; rfl
          rw [e, ← hcp, ← hcr]
          exact h
        have HNX : Hid (dg = Jn.prevOf (bs ++ [c])) := by show _ = _; rw [hdg, Jn.prevOf_snoc]
        have HQ3 : Hid (cq = (c.seq : Int) ∧ cp = c.prev ∧ cr = c.root) := ⟨hcq, hcp, hcr⟩
        rw [← hcq, ← hcp, ← hcr]
        clear hcq hcp hcr hrl hst hdg hok hce hbn
        go_upto_region 7 with fail
        obtain ⟨w3, hw3⟩ : ∃ w3, w3 = w2.alloc (.cells #[.int .u64 cq, .string cp, .string cr, .slice sa sn sc, .slice xa xn xc] 32) := ⟨_, rfl⟩
        obtain ⟨Q, hQ⟩ : ∃ Q, Q = w2.heap.size := ⟨_, rfl⟩
        have V3 : Hid (w3.heap[Q]? = some (.cells #[.int .u64 cq, .string cp, .string cr, .slice sa sn sc, .slice xa xn xc] 32 (0, 0)) ∧ Below w2.heap.size w2 w3) := by rw [hw3, hQ]; exact ⟨heap_alloc_new w2 _, below_new _ _⟩
        rw [← hw3, ← hQ]
        clear hw3 hQ
        by_cases hfull : 20 ≤ n
        · have q20 : (20 : Int) ≤ (n : Int) := by omega
          have S3 : Hid (RW w w3 bs (.slice oa n oc)) := (S.out.call HB2.out.1).call (V3.out.2)
          go_wp2
          go_roundw
          case rel => exact ⟨j + 1, bs, _, _, rfl, rfl, by first | go_num | (rw [arW a1]; go_num), hlt, by rw [← HN.out]; exact hbj, HPV.out, S3.out⟩
          case measure =>
            simp only [intOf]
            first | exact arJ2 hlt | (rw [arW a1]; exact arJ2 hlt)
        have q20 : ¬ (20 : Int) ≤ (n : Int) := by omega
        have x0 := block_cells V3.out.1 0 _ rfl
        have x1 := block_cells V3.out.1 1 _ rfl
        have x2 := block_cells V3.out.1 2 _ rfl
        have x3 := block_cells V3.out.1 3 _ rfl
        have x4 := block_cells V3.out.1 4 _ rfl
        go_wp2_with fail
        refine Calls.mono (CSH.out _ V3.out.2) ?_
        rintro e w5 ⟨rfl, hb5⟩
        have V5 : Hid (w5.heap[Q]? = some (.cells #[.int .u64 cq, .string cp, .string cr, .slice sa sn sc, .slice xa xn xc] 32 (0, 0)) ∧ Below w2.heap.size w2 w5) := ⟨blk_call V3.out.1 hb5, V3.out.2.trans (hb5.mono V3.out.2.size)⟩
        clear hb5 V3 CSH x0 x1 x2 x3 x4
        go_upto_region 9 with fail
        obtain ⟨w6, hw6⟩ : ∃ w6, w6 = w5.alloc (.cells #[.int .u64 cq, .string cp, .string cr, .int .u64 (rl : Int), .string st] 58) := ⟨_, rfl⟩
        obtain ⟨P, hP⟩ : ∃ P, P = w5.heap.size := ⟨_, rfl⟩
        have V6 : Hid (w6.heap[Q]? = some (.cells #[.int .u64 cq, .string cp, .string cr, .slice sa sn sc, .slice xa xn xc] 32 (0, 0)) ∧ Below w2.heap.size w2 w6 ∧ w6.heap[P]? = some (.cells #[.int .u64 cq, .string cp, .string cr, .int .u64 (rl : Int), .string st] 58 (0, 0)) ∧ w2.heap.size ≤ P) := by
          have hn := below_new w5 (.cells #[.int .u64 cq, .string cp, .string cr, .int .u64 (rl : Int), .string st] 58)
          rw [hw6, hP]
          exact ⟨blk_call V5.out.1 hn, V5.out.2.trans (hn.mono V5.out.2.size), heap_alloc_new w5 _, V5.out.2.size⟩
        rw [← hw6, ← hP]
        clear hw6 hP V5
        have x0 := block_cells V6.out.1 0 _ rfl
        have x1 := block_cells V6.out.1 1 _ rfl
        have x2 := block_cells V6.out.1 2 _ rfl
        have x3 := block_cells V6.out.1 3 _ rfl
        have x4 := block_cells V6.out.1 4 _ rfl
        have y0 := block_cells V6.out.2.2.1 0 _ rfl
        have y1 := block_cells V6.out.2.2.1 1 _ rfl
        have y2 := block_cells V6.out.2.2.1 2 _ rfl
        have y3 := block_cells V6.out.2.2.1 3 _ rfl
        have y4 := block_cells V6.out.2.2.1 4 _ rfl
        have ltQ := (Array.getElem?_eq_some_iff.1 V6.out.1).1
        have ltP := (Array.getElem?_eq_some_iff.1 V6.out.2.2.1).1
        have HX6 : Hid (Below w2.heap.size w2 (w6.alloc (.cells #[.int .u64 cq, .string cp, .string cr, .slice sa sn sc, .slice xa xn xc] 32)).drew) := (V6.out.2.1.trans ((below_new w6 _).mono V6.out.2.1.size)).drew
        have HNB : Hid ((w6.alloc (.cells #[.int .u64 cq, .string cp, .string cr, .slice sa sn sc, .slice xa xn xc] 32)).drew.heap[w6.heap.size]? = some (.cells #[.int .u64 cq, .string cp, .string cr, .slice sa sn sc, .slice xa xn xc] 32 (0, 0))) := heap_alloc_new w6 _
        obtain ⟨cs, hown, hput⟩ := RW.put S.out HB2.out.1 HCE.out.2 HX6.out HTK.out
        have HOWN : Hid ((w6.alloc (.cells #[.int .u64 cq, .string cp, .string cr, .slice sa sn sc, .slice xa xn xc] 32)).drew.ownsRow w.heap.size 32 5 (.slice oa n oc) n cs) := by rw [HN.out] at hown ⊢; exact hown
        have HOV : Hid (∀ k, (Value.slice oa n oc).ownBlock = some k → k < wr.heap.size) := fun k hk => by
          obtain ⟨cs0, ho0, _⟩ := S.out.row
          rw [← HN.out] at ho0
          exact (own_in ho0 k hk).2
        have HPUT : Hid (∀ ov' w9, w9.ownsRow w.heap.size 32 5 ov' (n + 1) (cs ++ [.int .u64 cq, .string cp, .string cr, .slice sa sn sc, .slice xa xn xc]) → (w6.alloc (.cells #[.int .u64 cq, .string cp, .string cr, .slice sa sn sc, .slice xa xn xc] 32)).drew.grownBy w9 (Value.slice oa n oc).ownBlock → (ov'.ownBlock = (Value.slice oa n oc).ownBlock ∨ ov'.ownBlock = some (w6.alloc (.cells #[.int .u64 cq, .string cp, .string cr, .slice sa sn sc, .slice xa xn xc] 32)).drew.heap.size) → RW w w9 (bs ++ [c]) ov' ∧ w9.heap[P]? = some (.cells #[.int .u64 cq, .string cp, .string cr, .int .u64 (rl : Int), .string st] 58 (0, 0))) := by
          intro ov' w9 h1 h2 h3
          refine ⟨hput ov' w9 ?_ ?_ ?_, ?_⟩
          · rw [← HN.out]
            have e : BC c (.slice sa sn sc) (.slice xa xn xc) = [.int .u64 cq, .string cp, .string cr, .slice sa sn sc, .slice xa xn xc] := by rw [BC, HQ3.out.1, HQ3.out.2.1, HQ3.out.2.2]
            rw [e]
            exact h1
          · exact h2
          · exact h3
          · have hPl := (Array.getElem?_eq_some_iff.1 V6.out.2.2.1).1
            refine (h2.block P (by simp; omega) (fun q => ?_)).trans ?_
            · have h4 := HOV.out P q.symm
              have h5 := V6.out.2.2.2
              have h6 := HB2.out.1.size
              omega
            · exact ((below_new w6 _).block P hPl).trans V6.out.2.2.1
        clear hown hput
        have fit63 : Hid (n + 1 ≤ maxLen) := by show _ ≤ _; unfold maxLen; omega
        have fit47 : Hid ((n + 1) * 88 ≤ 140737488355328) := by show _ ≤ _; omega
        have HSZ : w.heap.size ≤ w6.heap.size := (HW.out w6 V6.out.2.1).size
        go_region_law (first
          | (revert S8; intro S8
             go_simp; go_at_call 18; refine Calls.mono (CDG.out _ S8.out.below) ?_; rintro e w9 ⟨rfl, hb9⟩
             have S9 : Hid (RW w w9 (bs ++ [c]) (.slice (some ⟨gg, 0, none⟩) (n + 1) cap)) := S8.out.call hb9
             clear hb9)
          | (refine step_append_lies _ (by rfl) _ _ _ (by rfl) w.heap.size 32 ib _ 5 88 Tryz.underlying24 hib hb0 hb1 hb2 rfl (by decide) _ _ _ (by rfl) HOWN.out ⟨w6.heap.size, 0, none⟩ 1 1 [.int .u64 cq, .string cp, .string cr, .slice sa sn sc, .slice xa xn xc] (by rfl) (by rfl) (World.news_of_block HNB.out) (by simp [Value.oneCell']) (by decide) fit63.out fit47.out (by simp; omega) (w6.heap.size + 1) (by simp) ?_; intro gg cap w8 hown8 hgrow hat hglt
             have S8p := HPUT.out _ w8 hown8 hgrow (hat.elim (fun e => .inl e.symm) (fun e => .inr (by rw [e]; simp [Value.ownBlock])))
             have S8 : Hid (RW w w8 (bs ++ [c]) (.slice (some ⟨gg, 0, none⟩) (n + 1) cap)) := S8p.1
             have z0 := block_cells S8p.2 0 _ rfl
             have z1 := block_cells S8p.2 1 _ rfl
             have z2 := block_cells S8p.2 2 _ rfl
             have z3 := block_cells S8p.2 3 _ rfl
             have z4 := block_cells S8p.2 4 _ rfl
             clear S8p hown8 hgrow hat hglt)
          | fail "no arm")
        all_goals
          go_wp2
          go_roundw
          case rel => exact ⟨j + 1, bs ++ [c], _, _, rfl, rfl, by first | go_num | (rw [arW a1]; go_num), hlt, by rw [List.length_append, ← HN.out]; simp; omega, HNX.out, S9.out⟩
          case measure =>
            simp only [intOf]
            first | exact arJ2 hlt | (rw [arW a1]; exact arJ2 hlt)
      · have HCE : Hid (Jn.berr c ≠ 0) := hce
        obtain ⟨er, her⟩ : ∃ er, er = Jn.berr c := ⟨_, rfl⟩
        have q2 : ((er : Int) != 0) = true := by have := HCE.out; simp; omega
        have q3 : ((er : Int) == 0) = false := by rw [beq_eq_false_iff_ne]; have := HCE.out; omega
        rw [← her]
        have S2 : Hid (RW w w2 bs (.slice oa n oc)) := S.out.call HB2.out.1
        clear her hce
        go_upto_region 7 with fail
        obtain ⟨w3, hw3⟩ : ∃ w3, w3 = w2.alloc (.cells #[.int .u64 0, .string ⟨#[]⟩, .string ⟨#[]⟩, .slice none 0 0, .slice none 0 0] 32) := ⟨_, rfl⟩
        have S3 : Hid (RW w w3 bs (.slice oa n oc)) := by rw [hw3]; exact S2.out.call (below_new _ _)
        rw [← hw3]
        clear hw3
        go_wp2
        go_roundw
        case rel => exact ⟨j + 1, bs, _, _, rfl, rfl, by first | go_num | (rw [arW a1]; go_num), hlt, by rw [← HN.out]; exact hbj, HPV.out, S3.out⟩
        case measure =>
          simp only [intOf]
          first | exact arJ2 hlt | (rw [arW a1]; exact arJ2 hlt)
    · have q1 : ¬ (j : Int) < (m : Int) := by omega
      have hF := S.out
      go_wp2
      go_ret
      exact ⟨bs, _, rfl, hF, by rw [← HN.out]; exact hbj⟩
end Go.Proofs.YtlafdlcpelkdpaaGreatDoor
