/- Several texts, joined: JnTa, JnTb, JnTm, JnTc, TnOpen -/
import Derived.Test.YtipekiknmgbdgaaGreatDoorXCM
import Derived.Test.YtipekiknmgbdgaaGreatDoorJnOpenM
/- Blocks that are made one behind the other, and their frames: chain, walked. -/
namespace Go.Proofs.YtipekiknmgbdgaaGreatDoor
open Go.RowKit
open Vl (V)
attribute [local go_sem ↓] Go.wp_at_zero Go.wp_at_succ
/-- blocks in a row, beside a row of something else -/
def BRX (W : World) (n₀ : Nat) (X : Option Nat) (lv : Value) (bs : List Jn.B) : Prop := ∃ cs, W.ownsRow n₀ 26 5 lv bs.length cs ∧ cs.length = bs.length * 5 ∧ (∀ g, lv.ownBlock = some g → X ≠ some g) ∧ ∀ j b, bs[j]? = some b → ∃ sv rv A, (∀ i v, (BC b sv rv)[i]? = some v → cs[j * 5 + i]? = some v) ∧ BkI W A b sv rv ∧ ∀ g, A g → n₀ ≤ g ∧ g < W.heap.size ∧ lv.ownBlock ≠ some g ∧ X ≠ some g
theorem BRX.none (W : World) (n₀ : Nat) (X : Option Nat) : BRX W n₀ X (.slice none 0 0) [] := ⟨[], ⟨rfl, .inl ⟨rfl, rfl⟩⟩, rfl, fun g h => by simp [Value.ownBlock] at h, fun j b h => by simp at h⟩
theorem BRX.row {W : World} {n₀ : Nat} {X : Option Nat} {lv : Value} {bs : List Jn.B} (h : BRX W n₀ X lv bs) : BlkRow W n₀ lv bs := by
  obtain ⟨cs, h1, h2, _, h3⟩ := h
  refine ⟨cs, h1, h2, fun j b hj => ?_⟩
  obtain ⟨sv, rv, A, k1, k2, k3⟩ := h3 j b hj
  exact ⟨sv, rv, A, k1, k2, fun g hg => ⟨(k3 g hg).1, (k3 g hg).2.1, (k3 g hg).2.2.1⟩⟩
theorem BRX.step {W W' : World} {n₀ : Nat} {X X' : Option Nat} {lv : Value} {bs : List Jn.B} (h : BRX W n₀ X lv bs) (hs : W.heap.size ≤ W'.heap.size) (hb : ∀ g, n₀ ≤ g → g < W.heap.size → X ≠ some g → W'.heap[g]? = W.heap[g]? ∧ X' ≠ some g) : BRX W' n₀ X' lv bs := by
  obtain ⟨cs, h1, h2, h0, h3⟩ := h
  refine ⟨cs, own_block h1 fun g hg => ?_, h2, fun g hg => ?_, fun j b hj => ?_⟩
  · obtain ⟨k1, k2⟩ := own_in h1 g hg
    exact (hb g k1 k2 (h0 g hg)).1
  · obtain ⟨k1, k2⟩ := own_in h1 g hg
    exact (hb g k1 k2 (h0 g hg)).2
  · obtain ⟨sv, rv, A, k1, k2, k3⟩ := h3 j b hj
    exact ⟨sv, rv, A, k1, k2.stays fun g hg => (hb g (k3 g hg).1 (k3 g hg).2.1 (k3 g hg).2.2.2).1, fun g hg => ⟨(k3 g hg).1, Nat.lt_of_lt_of_le (k3 g hg).2.1 hs, (k3 g hg).2.2.1, (hb g (k3 g hg).1 (k3 g hg).2.1 (k3 g hg).2.2.2).2⟩⟩
theorem BRX.call {W W' : World} {n₀ : Nat} {X : Option Nat} {lv : Value} {bs : List Jn.B} (h : BRX W n₀ X lv bs) (hb : Below W.heap.size W W') : BRX W' n₀ X lv bs := h.step hb.size fun g _ hg hX => ⟨hb.block g hg, hX⟩
/-- one more -/
theorem BRX.more {W W' : World} {n₀ : Nat} {X : Option Nat} {lv lv' : Value} {bs : List Jn.B} {b : Jn.B} {sv rv : Value} {A : Nat → Prop} {cs : List Value} (hc : cs.length = bs.length * 5) (hX : ∀ g, X = some g → g < W.heap.size) (hlX : ∀ g, lv.ownBlock = some g → X ≠ some g) (h3 : ∀ j b, bs[j]? = some b → ∃ sv rv A, (∀ i v, (BC b sv rv)[i]? = some v → cs[j * 5 + i]? = some v) ∧ BkI W A b sv rv ∧ ∀ g, A g → n₀ ≤ g ∧ g < W.heap.size ∧ lv.ownBlock ≠ some g ∧ X ≠ some g)
    (hb : BkI W A b sv rv) (hA : ∀ g, A g → n₀ ≤ g ∧ g < W.heap.size ∧ lv.ownBlock ≠ some g ∧ X ≠ some g) (hg : W.grownBy W' lv.ownBlock) (hat : lv'.ownBlock = lv.ownBlock ∨ lv'.ownBlock = some W.heap.size) (hn : W'.ownsRow n₀ 26 5 lv' (bs.length + 1) (cs ++ BC b sv rv)) : BRX W' n₀ X lv' (bs ++ [b]) := by
  have move : ∀ A : Nat → Prop, (∀ g, A g → n₀ ≤ g ∧ g < W.heap.size ∧ lv.ownBlock ≠ some g ∧ X ≠ some g) → ∀ g, A g → W'.heap[g]? = W.heap[g]? ∧ n₀ ≤ g ∧ g < W'.heap.size ∧ lv'.ownBlock ≠ some g ∧ X ≠ some g := by
    intro A hA g hg'
    obtain ⟨k1, k2, k3, k4⟩ := hA g hg'
    refine ⟨hg.block g k2 (fun q => k3 q.symm), k1, Nat.lt_of_lt_of_le k2 hg.size, ?_, k4⟩
    rcases hat with e | e
    · rw [e]; exact k3
    · rw [e]; intro q; simp at q; omega
  refine ⟨cs ++ BC b sv rv, by rw [List.length_append]; exact hn, by simp [hc, BC]; omega, fun g hg' q => ?_, fun j u hj => ?_⟩
  · rcases hat with e | e
    · rw [e] at hg'; exact hlX g hg' q
    · rw [e] at hg'
      have := hX g q
      simp at hg'
      omega
  rcases Nat.lt_or_ge j bs.length with hlt | hge
  · rw [List.getElem?_append_left hlt] at hj
    obtain ⟨sv', rv', A', k1, k2, k3⟩ := h3 j u hj
    refine ⟨sv', rv', A', fun i v hi => ?_, k2.stays fun g hg' => (move A' k3 g hg').1, fun g hg' => (move A' k3 g hg').2⟩
    have hi5 : i < 5 := by have := (List.getElem?_eq_some_iff.1 hi).1; simpa [BC] using this
    rw [List.getElem?_append_left (by omega)]
    exact k1 i v hi
  · have hj2 : j = bs.length := by
      have := (List.getElem?_eq_some_iff.1 hj).1
      simp at this; omega
    subst hj2
    rw [List.getElem?_append_right (Nat.le_refl _), Nat.sub_self] at hj
    simp at hj
    subst hj
    refine ⟨sv, rv, A, fun i v hi => ?_, hb.stays fun g hg' => (move A hA g hg').1, fun g hg' => (move A hA g hg').2⟩
    rw [List.getElem?_append_right (by omega), ← hc, Nat.add_sub_cancel_left]
    exact hi
namespace Jn
/-- the frames of blocks -/
def fms (bs : List B) : List (List UInt8) := bs.map fun b => (frameOf (btext b)).data.toList
theorem fms_snoc (bs : List B) (b : B) : fms (bs ++ [b]) = fms bs ++ [(frameOf (btext b)).data.toList] := by simp [fms]
theorem fms_len (bs : List B) : (fms bs).length = bs.length := by simp [fms]
/-- a block that is made behind others -/
theorem Took.made {ts : List ByteArray} {bs : List B} (h : Took ts bs) {sts : List ByteArray} {revs : List R} (he : berr (made (bs.length + 1) (prevOf bs) sts revs) = 0) (hr : rngB (made (bs.length + 1) (prevOf bs) sts revs)) : Took (ts ++ [btext (made (bs.length + 1) (prevOf bs) sts revs)]) (bs ++ [made (bs.length + 1) (prevOf bs) sts revs]) :=
  Took.more h he hr rfl rfl
end Jn
/-- lists of revisions that are handed in -/
def RV1 (W : World) (H : Nat) (ra : Option Addr) (rn : Nat) (revs : List Jn.R) : Prop := rn = revs.length ∧ rn ≤ maxLen ∧ (0 < rn → ∃ g o, ra = some ⟨g, o, none⟩ ∧ g < H ∧ ∀ i r, revs[i]? = some r → RevAt W H g (o + i * 10) r)
theorem RV1.stays {W W' : World} {H K : Nat} {ra : Option Addr} {rn : Nat} {revs : List Jn.R} (h : RV1 W H ra rn revs) (hb : Below H W W') (hK : H ≤ K) : RV1 W' K ra rn revs := by
  refine ⟨h.1, h.2.1, fun hp => ?_⟩
  obtain ⟨g, o, e, hg, hr⟩ := h.2.2 hp
  exact ⟨g, o, e, Nat.lt_of_lt_of_le hg hK, fun i r hi => (hr i r hi).stays hb hg hK⟩
def LL (W : World) (v : Value) (ll : List (List Jn.R)) : Prop := ∃ a c, v = .slice a ll.length c ∧ (0 < ll.length → ∃ g o, a = some ⟨g, o, none⟩ ∧ g < W.heap.size ∧ ∀ j revs, ll[j]? = some revs → ∃ ra rn rc, W.cell? ⟨g, o + j, none⟩ = some (.slice ra rn rc) ∧ RV1 W W.heap.size ra rn revs)
theorem LL.call {W W' : World} {v : Value} {ll : List (List Jn.R)} (h : LL W v ll) (hb : Below W.heap.size W W') : LL W' v ll := by
  obtain ⟨a, c, e, h1⟩ := h
  refine ⟨a, c, e, fun hp => ?_⟩
  obtain ⟨g, o, e2, hg, hc⟩ := h1 hp
  refine ⟨g, o, e2, Nat.lt_of_lt_of_le hg hb.size, fun j revs hj => ?_⟩
  obtain ⟨ra, rn, rc, h2, h3⟩ := hc j revs hj
  exact ⟨ra, rn, rc, (hb.cell (p := ⟨g, _, none⟩) hg).trans h2, h3.stays hb hb.size⟩
/-- blocks and frames so far -/
structure CS (w W : World) (bs : List Jn.B) (ov fv : Value) : Prop where
  below : Below w.heap.size w W
  took : Jn.Took (bs.map Jn.btext) bs
  row : BRX W w.heap.size fv.ownBlock ov bs
  frm : W.ownsRow w.heap.size 9 1 fv bs.length (scs (Jn.fms bs))
theorem CS.call {w W W' : World} {bs : List Jn.B} {ov fv : Value} (h : CS w W bs ov fv) (hb : Below W.heap.size W W') : CS w W' bs ov fv :=
  ⟨h.below.trans (hb.mono h.below.size), h.took, h.row.call hb, own_call h.frm hb⟩
/-- a block more, and then its frame -/
structure CS2 (w W : World) (bs : List Jn.B) (b : Jn.B) (ov fv : Value) : Prop where
  below : Below w.heap.size w W
  took : Jn.Took ((bs ++ [b]).map Jn.btext) (bs ++ [b])
  row : BRX W w.heap.size fv.ownBlock ov (bs ++ [b])
  frm : W.ownsRow w.heap.size 9 1 fv bs.length (scs (Jn.fms bs))
theorem CS.block {w W W1 W' : World} {bs : List Jn.B} {b : Jn.B} {ov ov' fv sv rv : Value} {A : Nat → Prop} {cs : List Value} {o : Obj} (h : CS w W bs ov fv) (hb1 : Below W.heap.size W W1) (ht : Jn.Took ((bs ++ [b]).map Jn.btext) (bs ++ [b]))
    (hc : cs.length = bs.length * 5) (hlX : ∀ g, ov.ownBlock = some g → fv.ownBlock ≠ some g) (h3 : ∀ j b, bs[j]? = some b → ∃ sv rv A, (∀ i v, (BC b sv rv)[i]? = some v → cs[j * 5 + i]? = some v) ∧ BkI (W1.alloc o) A b sv rv ∧ ∀ g, A g → w.heap.size ≤ g ∧ g < (W1.alloc o).heap.size ∧ ov.ownBlock ≠ some g ∧ fv.ownBlock ≠ some g)
    (ho : (W1.alloc o).ownsRow w.heap.size 26 5 ov bs.length cs) (hb : BkI (W1.alloc o) A b sv rv) (hA : ∀ g, A g → w.heap.size ≤ g ∧ g < (W1.alloc o).heap.size ∧ ov.ownBlock ≠ some g ∧ fv.ownBlock ≠ some g) (hg : (W1.alloc o).grownBy W' ov.ownBlock) (hat : ov'.ownBlock = ov.ownBlock ∨ ov'.ownBlock = some (W1.alloc o).heap.size) (hn : W'.ownsRow w.heap.size 26 5 ov' (bs.length + 1) (cs ++ BC b sv rv)) : CS2 w W' bs b ov' fv := by
  have hw1 := h.below.trans (hb1.mono h.below.size)
  have hw2 : Below w.heap.size w (W1.alloc o) := hw1.alloc hw1.size o
  have hf1 := own_call h.frm (hb1.trans ((Below.refl W1.heap.size W1).alloc (Nat.le_refl _) o |>.mono hb1.size))
  have hfl : ∀ g, fv.ownBlock = some g → g < (W1.alloc o).heap.size := fun g hg => (own_in hf1 g hg).2
  refine ⟨hw2.grown hg hw2.size (fun k hk => (own_in ho k hk).1), ht, BRX.more hc hfl hlX h3 hb hA hg hat hn, ?_⟩
  refine own_block hf1 fun g hgf => hg.block g (hfl g hgf) fun q => ?_
  exact hlX g q.symm hgf
theorem CS2.frame {w W W' : World} {bs : List Jn.B} {b : Jn.B} {ov fv fv' : Value} {o : Obj} (h : CS2 w W bs b ov fv) (hg : (W.alloc o).grownBy W' fv.ownBlock) (hat : fv'.ownBlock = fv.ownBlock ∨ fv'.ownBlock = some (W.alloc o).heap.size)
    (hn : W'.ownsRow w.heap.size 9 1 fv' (bs.length + 1) (scs (Jn.fms bs) ++ [.string (Jn.frameOf (Jn.btext b))])) : CS w W' (bs ++ [b]) ov fv' := by
  have hbn : Below W.heap.size W (W.alloc o) := (Below.refl _ _).alloc (Nat.le_refl _) o
  have hw2 : Below w.heap.size w (W.alloc o) := h.below.alloc h.below.size o
  refine ⟨hw2.grown hg hw2.size (fun k hk => (own_in h.frm k hk).1), h.took, ?_, ?_⟩
  · refine (h.row.call hbn).step hg.size fun g h1 h2 h3 => ⟨hg.block g h2 (fun q => h3 q.symm), ?_⟩
    rcases hat with e | e
    · rw [e]; exact h3
    · rw [e]; intro q; simp at q; simp at h2; omega
  · rw [List.length_append, Jn.fms_snoc]
    have e : scs (Jn.fms bs ++ [(Jn.frameOf (Jn.btext b)).data.toList]) = scs (Jn.fms bs) ++ [.string (Jn.frameOf (Jn.btext b))] := by simp [scs, encS, bs_data]
    rw [e]
    exact hn
end Go.Proofs.YtipekiknmgbdgaaGreatDoor
/- chain, walked: blocks that are made one behind the other, and their frames. -/
namespace Go.Proofs.YtipekiknmgbdgaaGreatDoor
open Go.RowKit
open Vl (V)
attribute [local go_sem ↓] Go.wp_at_zero Go.wp_at_succ
theorem CS.put {w wr w1 w2 w8 : World} {bs : List Jn.B} {c : Jn.B} {ov fv sv rv : Value} {o : Obj} (h : CS w wr bs ov fv) (h01 : Below wr.heap.size wr w1) (h12 : Below w1.heap.size w1 w2) (hbn : BkN w2 w1.heap.size c sv rv) (h28 : Below w2.heap.size w2 w8) (ht : Jn.Took ((bs ++ [c]).map Jn.btext) (bs ++ [c])) :
    ∃ cs, (w8.alloc o).ownsRow w.heap.size 26 5 ov bs.length cs ∧ ∀ ov' w9, w9.ownsRow w.heap.size 26 5 ov' (bs.length + 1) (cs ++ BC c sv rv) → (w8.alloc o).grownBy w9 ov.ownBlock → (ov'.ownBlock = ov.ownBlock ∨ ov'.ownBlock = some (w8.alloc o).heap.size) → CS2 w w9 bs c ov' fv := by
  have h02 : Below wr.heap.size wr w2 := h01.trans (h12.mono h01.size)
  have h08 : Below wr.heap.size wr w8 := h02.trans (h28.mono h02.size)
  have hn8 : Below w8.heap.size w8 (w8.alloc o) := (Below.refl _ _).alloc (Nat.le_refl _) o
  have h09 : Below wr.heap.size wr (w8.alloc o) := h08.trans (hn8.mono h08.size)
  have hI : BkI (w8.alloc o) (fun g => w1.heap.size ≤ g ∧ g < w2.heap.size ∧ CellsAt w2 g) c sv rv := hbn.bki.stays fun g hg => (hn8.block g (Nat.lt_of_lt_of_le hg.2.1 h28.size)).trans (h28.block g hg.2.1)
  obtain ⟨cs0, ho0, _⟩ := h.row
  have hovl : ∀ g, ov.ownBlock = some g → g < wr.heap.size := fun g hg => (own_in ho0 g hg).2
  have hfvl : ∀ g, fv.ownBlock = some g → g < wr.heap.size := fun g hg => (own_in h.frm g hg).2
  obtain ⟨cs, k1, k2, k3, k4⟩ := h.row.call h09
  refine ⟨cs, k1, fun ov' w9 hn hg hat => ?_⟩
  have s1 := h.below.size
  have s2 := h01.size
  have s3 := h12.size
  have s4 := h28.size
  refine CS.block (A := fun g => w1.heap.size ≤ g ∧ g < w2.heap.size ∧ CellsAt w2 g) h h08 ht k2 k3 k4 k1 hI (fun g hg => ⟨by have := hg.1; omega, by have := hg.2.1; simp; omega, fun q => ?_, fun q => ?_⟩) hg hat hn
  · have := hovl g q; have := hg.1; omega
  · have := hfvl g q; have := hg.1; omega
theorem prev_size {bs : List Jn.B} : (Jn.prevOf bs).size = 32 := by
  unfold Jn.prevOf
  split
  · rfl
  · rw [Jn.digest, bs_size, Mk.sum_length]
set_option maxHeartbeats 16000000 in
set_option maxRecDepth 100000 in
theorem chainB_c (ll : List (List Jn.R)) (hn : ll.length ≤ 1048576) (v : Value) (w : World) (hU : Bn.HasU w) (hK : HasK w) (hL : LL w v ll) : Calls Tryz.prog 13 #[v] w fun e w' => ∃ bs ov fv, e = .returned (.tuple #[ov, fv]) ∧ CS w w' bs ov fv ∧ bs.length ≤ ll.length := by
  have HU : Hid (∀ W, Below w.heap.size w W → Bn.HasU W) := fun W hW => hU.stays hW
  have HK : Hid (∀ W, Below w.heap.size w W → HasK W) := fun W hW => hK.below hK.1 hW
  have HL : Hid (∀ W, Below w.heap.size w W → LL W v ll) := fun W hW => hL.call hW
  obtain ⟨la, lc, rfl, _⟩ := hL
  obtain ⟨m, hm⟩ : ∃ m, m = ll.length := ⟨_, rfl⟩
  have HM : Hid (m = ll.length) := hm
  rw [← hm] at HL hn
  rw [← hm]
  clear hU hK hm
  obtain ⟨ib, hib, hb0, hb1, hb2⟩ := info_parts infoBlk3
  obtain ⟨i9, hi9, hr0, hr1, hr2⟩ := info_parts info9s
  go_enter Tryz.func13, Tryz.ntmps13
  go_wp2_with fail
  refine Calls.mono (firstL_c _) ?_
  rintro e w0 ⟨rfl, hb0'⟩
  have HB0 : Hid (Below w.heap.size w w0) := hb0'
  clear hb0'
  go_wp2
  go_loopw [4, 5, 6, 18] (fun o f p i wr => ∃ (j : Nat) (bs : List Jn.B) (ov fv : Value) (pv : ByteArray), ov = o ∧ fv = f ∧ p = .string pv ∧ i = .int .i64 (j : Int) ∧ j ≤ m ∧ bs.length ≤ j ∧ pv = Jn.prevOf bs ∧ CS w wr bs ov fv) (fun _ _ _ i _ => m - (intOf i).toNat)
  case atStart => exact ⟨0, [], _, _, _, rfl, rfl, rfl, rfl, Nat.zero_le _, Nat.le_refl _, rfl, HB0.out, Jn.Took.none, BRX.none _ _ _, World.ownsRow_nil _ _ _ _⟩
  case round =>
    obtain ⟨j, bs, ov, fv, pv, hov, hfv, rfl, rfl, hj, hbj, hpv, hS⟩ := hrel
    subst hov hfv
    have S : Hid (CS w wr bs ov fv) := hS
    have HPV : Hid (pv = Jn.prevOf bs) := hpv
    obtain ⟨oa, oc, rfl⟩ : ∃ a c, ov = .slice a bs.length c := by obtain ⟨cs, ho, _⟩ := hS.row; exact own_slc ho
    obtain ⟨n, hnn⟩ : ∃ n, n = bs.length := ⟨_, rfl⟩
    have HN : Hid (n = bs.length) := hnn
    rw [← hnn] at S hbj
    rw [← hnn]
    clear hS hpv HB0 hnn
    by_cases hlt : j < m
    · have q1 : (j : Int) < (m : Int) := by omega
      obtain ⟨a1', c1', e1, k1⟩ := HL.out wr S.out.below
      rw [← HM.out] at e1 k1
      injection e1 with e1 _ e3
      subst e1 e3
      obtain ⟨g, o, rfl, hg, hc⟩ := k1 (by omega)
      obtain ⟨revs, hrv⟩ : ∃ revs, ll[j]? = some revs := ⟨_, List.getElem?_eq_getElem (by rw [← HM.out]; exact hlt)⟩
      obtain ⟨ra, rn, rc, d0, hR⟩ := hc j revs hrv
      have HR : Hid (RV1 wr wr.heap.size ra rn revs) := hR
      clear k1 hc hrv hR hg
      obtain ⟨w1, hw1⟩ : ∃ w1, w1 = wr.alloc (.cells #[.string { data := #[115] }] 9) := ⟨_, rfl⟩
      have hb1 : Below wr.heap.size wr w1 := by rw [hw1]; exact below_new _ _
      have HB1 : Hid (Below wr.heap.size wr w1 ∧ Below w.heap.size w w1) := ⟨hb1, S.out.below.trans (hb1.mono S.out.below.size)⟩
      have v1 : IntKind.u64.wrap (n : Int) = (n : Int) := by rw [IntKind.wrap_u64]; omega
      have v2 : IntKind.u64.wrap ((n : Int) + 1) = (n : Int) + 1 := by rw [IntKind.wrap_u64]; omega
      obtain ⟨c, hcd⟩ : ∃ c, c = Jn.made (n + 1) pv [{ data := #[115] }] revs := ⟨_, rfl⟩
      have CM : Hid (Calls Tryz.prog 24 #[.int .u64 ((n : Int) + 1), .string pv, .slice (some ⟨wr.heap.size, 0, none⟩) 1 1, .slice ra rn rc] w1 (MakeGave c w1)) := by
        have hr1 := HR.out.stays hb1 hb1.size
        have hsl : Sl w1 w1.heap.size (.slice (some ⟨wr.heap.size, 0, none⟩) 1 1) [[115]] := by
          refine .inr ⟨wr.heap.size, 0, 1, rfl, by rw [hw1]; simp, fun k x hk => ?_⟩
          have : k = 0 := by have := (List.getElem?_eq_some_iff.1 hk).1; simpa using this
          subst this
          simp at hk
          subst hk
          rw [hw1]
          exact block_cells (heap_alloc_new wr _) 0 _ rfl
        have hsize : pv.size = 32 := by rw [HPV.out]; exact prev_size
        have hB : Bk w1 w1.heap.size ⟨n + 1, pv, Jn.ahead, [{ data := #[115] }], revs⟩ (some ⟨wr.heap.size, 0, none⟩) 1 1 ra rn rc := ⟨by show n + 1 < _; omega, by show pv.size ≤ _; rw [hsize]; decide, by show Jn.ahead.size ≤ _; decide, hsl, fun s hs => by rw [List.mem_singleton] at hs; rw [hs]; decide, hr1.1, hr1.2.1, hr1.2.2⟩
        have h := make_c (n + 1) pv [{ data := #[115] }] revs (some ⟨wr.heap.size, 0, none⟩) 1 1 ra rn rc w1 (HU.out _ HB1.out.2) (HK.out _ HB1.out.2) hB
        rw [← hcd] at h
        exact h
      have HC : Hid (c.seq = n + 1 ∧ c.prev = pv) := by rw [hcd]; exact ⟨rfl, rfl⟩
      clear hcd hb1
      go_wp2_with fail
      rw [← hw1]
      refine Calls.mono CM.out ?_
      rintro e w2 ⟨hb2, h2⟩
      have HB2 : Hid (Below w1.heap.size w1 w2 ∧ Below wr.heap.size wr w2 ∧ Below w.heap.size w w2) := ⟨hb2, HB1.out.1.trans (hb2.mono HB1.out.1.size), HB1.out.2.trans (hb2.mono HB1.out.2.size)⟩
      clear hb2 hw1 CM d0 v1 v2
      rcases h2 with ⟨hce, sv, rv, rfl, hbn⟩ | ⟨hce, rfl⟩
      · obtain ⟨sa, sn, sc, rfl⟩ : ∃ a n c, sv = .slice a n c := by obtain ⟨a, c, e⟩ := own_slc hbn.row3; exact ⟨a, _, c, e⟩
        obtain ⟨xa, xn, xc, rfl⟩ : ∃ a n c, rv = .slice a n c := by obtain ⟨cs, ho, _⟩ := hbn.row4; obtain ⟨a, c, e⟩ := own_slc ho; exact ⟨a, _, c, e⟩
        have HCE : Hid (Jn.berr c = 0 ∧ BkN w2 w1.heap.size c (.slice sa sn sc) (.slice xa xn xc)) := ⟨hce, hbn⟩
        have HBK : Hid (∀ W, Below w2.heap.size w2 W → Bk W W.heap.size c sa sn sc xa xn xc) := fun W hW => hbn.bk.stays hW hW.size
        have HTK : Hid (Jn.Took ((bs ++ [c]).map Jn.btext) (bs ++ [c])) := by
          have h := Jn.Took.more S.out.took hce hbn.rngB (by rw [HC.out.1, HN.out]) (by rw [HC.out.2, HPV.out])
          simp only [List.map_append, List.map_cons, List.map_nil]
          exact h
        obtain ⟨cq, hcq⟩ : ∃ cq : Int, cq = (c.seq : Int) := ⟨_, rfl⟩
        obtain ⟨cp, hcp⟩ : ∃ cp, cp = c.prev := ⟨_, rfl⟩
        obtain ⟨cr, hcr⟩ : ∃ cr, cr = c.root := ⟨_, rfl⟩
        obtain ⟨rl, hrl⟩ : ∃ rl, rl = c.revs.length := ⟨_, rfl⟩
        obtain ⟨st, hst⟩ : ∃ st, st = (Jn.headOf c).sts := ⟨_, rfl⟩
        obtain ⟨dg, hdg⟩ : ∃ dg, dg = Jn.digest (Jn.headOf c) := ⟨_, rfl⟩
        obtain ⟨fx, hfx⟩ : ∃ fx, fx = Jn.frameOf (Jn.btext c) := ⟨_, rfl⟩
        have hok := Jn.berr_seq hce
        have HW : Hid (∀ W, Below w2.heap.size w2 W → Below w.heap.size w W) := fun W hW => HB2.out.2.2.trans (hW.mono HB2.out.2.2.size)
        have CFR : Hid (∀ W, Below w2.heap.size w2 W → Calls Tryz.prog 26 #[.agg #[.int .u64 cq, .string cp, .string cr, .slice sa sn sc, .slice xa xn xc]] W fun e w' => e = .returned (.tuple #[.string fx, .int .i64 0]) ∧ Below W.heap.size W w') := fun W hW => by
          have h := frame_c c sa sn sc xa xn xc W (HU.out W (HW.out W hW)) (HK.out W (HW.out W hW)) (HBK.out W hW)
          rw [if_pos HCE.out.1, HCE.out.1, ← hcq, ← hcp, ← hcr, ← hfx] at h
          exact h
        have CSH : Hid (∀ W, Below w2.heap.size w2 W → Calls Tryz.prog 17 #[.agg #[.int .u64 cq, .string cp, .string cr, .slice sa sn sc, .slice xa xn xc]] W fun e w' => e = .returned (.tuple #[.agg #[.int .u64 cq, .string cp, .string cr, .int .u64 (rl : Int), .string st], .int .i64 0]) ∧ Below W.heap.size W w') := fun W hW => by
          have h := shortB_c c sa sn sc xa xn xc W (HU.out W (HW.out W hW)) (HK.out W (HW.out W hW)) (HBK.out W hW)
          rw [hd_of HCE.out.1, HCE.out.1, ← hcq, ← hcp, ← hcr, ← hrl, ← hst] at h
          exact h
        have CDG : Hid (∀ W, Below w2.heap.size w2 W → Calls Tryz.prog 18 #[.agg #[.int .u64 cq, .string cp, .string cr, .int .u64 (rl : Int), .string st]] W fun e w' => e = .returned (.string dg) ∧ Below W.heap.size W w') := fun W hW => by
          have hsz : st.size ≤ maxLen := by rw [hst, Jn.headOf]; show (Jn.stsDigest _).size ≤ _; rw [Jn.stsDigest, bs_size, Mk.sum_length]; decide
          have h := digest_c c.seq c.prev c.root c.revs.length st (by omega) (by unfold maxLen; omega) (by unfold maxLen; omega) (by omega) hsz W (HU.out W (HW.out W hW)) (HK.out W (HW.out W hW))
          rw [← hcq, ← hcp, ← hcr] at h
          rw [hrl, hdg]
          have e : Jn.headOf c = ⟨c.seq, c.prev, c.root, c.revs.length, st⟩ := by rw [hst]; rfl
          rw [e, ← hcp, ← hcr]
          exact h
        have HNX : Hid (dg = Jn.prevOf (bs ++ [c])) := by show _ = _; rw [hdg, Jn.prevOf_snoc]
        have HQ3 : Hid (cq = (c.seq : Int) ∧ cp = c.prev ∧ cr = c.root ∧ fx = Jn.frameOf (Jn.btext c)) := ⟨hcq, hcp, hcr, hfx⟩
        rw [← hcq, ← hcp, ← hcr]
        clear hcq hcp hcr hrl hst hdg hfx hok hce hbn
        go_upto_region 8 with fail
        obtain ⟨w3, hw3⟩ : ∃ w3, w3 = w2.alloc (.cells #[.int .u64 cq, .string cp, .string cr, .slice sa sn sc, .slice xa xn xc] 26) := ⟨_, rfl⟩
        obtain ⟨Q, hQ⟩ : ∃ Q, Q = w2.heap.size := ⟨_, rfl⟩
        have V3 : Hid (w3.heap[Q]? = some (.cells #[.int .u64 cq, .string cp, .string cr, .slice sa sn sc, .slice xa xn xc] 26 (0, 0)) ∧ Below w2.heap.size w2 w3) := by rw [hw3, hQ]; exact ⟨heap_alloc_new w2 _, below_new _ _⟩
        rw [← hw3, ← hQ]
        clear hw3 hQ
        have x0 := block_cells V3.out.1 0 _ rfl
        have x1 := block_cells V3.out.1 1 _ rfl
        have x2 := block_cells V3.out.1 2 _ rfl
        have x3 := block_cells V3.out.1 3 _ rfl
        have x4 := block_cells V3.out.1 4 _ rfl
        go_wp2_with fail
        refine Calls.mono (CFR.out _ V3.out.2) ?_
        rintro e w4 ⟨rfl, hb4⟩
        have V4 : Hid (w4.heap[Q]? = some (.cells #[.int .u64 cq, .string cp, .string cr, .slice sa sn sc, .slice xa xn xc] 26 (0, 0)) ∧ Below w2.heap.size w2 w4) := ⟨blk_call V3.out.1 hb4, V3.out.2.trans (hb4.mono V3.out.2.size)⟩
        clear hb4 V3 CFR x0 x1 x2 x3 x4
        have x0 := block_cells V4.out.1 0 _ rfl
        have x1 := block_cells V4.out.1 1 _ rfl
        have x2 := block_cells V4.out.1 2 _ rfl
        have x3 := block_cells V4.out.1 3 _ rfl
        have x4 := block_cells V4.out.1 4 _ rfl
        go_wp2_with fail
        refine Calls.mono (CSH.out _ V4.out.2) ?_
        rintro e w5 ⟨rfl, hb5⟩
        have V5 : Hid (w5.heap[Q]? = some (.cells #[.int .u64 cq, .string cp, .string cr, .slice sa sn sc, .slice xa xn xc] 26 (0, 0)) ∧ Below w2.heap.size w2 w5) := ⟨blk_call V4.out.1 hb5, V4.out.2.trans (hb5.mono V4.out.2.size)⟩
        clear hb5 V4 CSH x0 x1 x2 x3 x4
        go_upto_region 11 with fail
        obtain ⟨w6, hw6⟩ : ∃ w6, w6 = w5.alloc (.cells #[.int .u64 cq, .string cp, .string cr, .int .u64 (rl : Int), .string st] 46) := ⟨_, rfl⟩
        obtain ⟨P, hP⟩ : ∃ P, P = w5.heap.size := ⟨_, rfl⟩
        have V6 : Hid (w6.heap[Q]? = some (.cells #[.int .u64 cq, .string cp, .string cr, .slice sa sn sc, .slice xa xn xc] 26 (0, 0)) ∧ Below w2.heap.size w2 w6 ∧ w6.heap[P]? = some (.cells #[.int .u64 cq, .string cp, .string cr, .int .u64 (rl : Int), .string st] 46 (0, 0))) := by
          have hn := below_new w5 (.cells #[.int .u64 cq, .string cp, .string cr, .int .u64 (rl : Int), .string st] 46)
          rw [hw6, hP]
          exact ⟨blk_call V5.out.1 hn, V5.out.2.trans (hn.mono V5.out.2.size), heap_alloc_new w5 _⟩
        rw [← hw6, ← hP]
        clear hw6 hP V5
        have y0 := block_cells V6.out.2.2 0 _ rfl
        have y1 := block_cells V6.out.2.2 1 _ rfl
        have y2 := block_cells V6.out.2.2 2 _ rfl
        have y3 := block_cells V6.out.2.2 3 _ rfl
        have y4 := block_cells V6.out.2.2 4 _ rfl
        go_wp2_with fail
        refine Calls.mono (CDG.out _ V6.out.2.1) ?_
        rintro e w7 ⟨rfl, hb7⟩
        have V7 : Hid (w7.heap[Q]? = some (.cells #[.int .u64 cq, .string cp, .string cr, .slice sa sn sc, .slice xa xn xc] 26 (0, 0)) ∧ Below w2.heap.size w2 w7) := ⟨blk_call V6.out.1 hb7, V6.out.2.1.trans (hb7.mono V6.out.2.1.size)⟩
        clear hb7 V6 CDG y0 y1 y2 y3 y4
        have x0 := block_cells V7.out.1 0 _ rfl
        have x1 := block_cells V7.out.1 1 _ rfl
        have x2 := block_cells V7.out.1 2 _ rfl
        have x3 := block_cells V7.out.1 3 _ rfl
        have x4 := block_cells V7.out.1 4 _ rfl
        obtain ⟨cs, hown, hput⟩ := CS.put (o := .cells #[.int .u64 cq, .string cp, .string cr, .slice sa sn sc, .slice xa xn xc] 26) S.out HB1.out.1 HB2.out.1 HCE.out.2 V7.out.2 HTK.out
        have HOWN : Hid ((w7.alloc (.cells #[.int .u64 cq, .string cp, .string cr, .slice sa sn sc, .slice xa xn xc] 26)).ownsRow w.heap.size 26 5 (.slice oa n oc) n cs) := by rw [HN.out] at hown ⊢; exact hown
        have HPUT : Hid (∀ ov' w9, w9.ownsRow w.heap.size 26 5 ov' (n + 1) (cs ++ [.int .u64 cq, .string cp, .string cr, .slice sa sn sc, .slice xa xn xc]) → (w7.alloc (.cells #[.int .u64 cq, .string cp, .string cr, .slice sa sn sc, .slice xa xn xc] 26)).grownBy w9 (Value.slice oa n oc).ownBlock → (ov'.ownBlock = (Value.slice oa n oc).ownBlock ∨ ov'.ownBlock = some (w7.alloc (.cells #[.int .u64 cq, .string cp, .string cr, .slice sa sn sc, .slice xa xn xc] 26)).heap.size) → CS2 w w9 bs c ov' fv) := by
          intro ov' w9 h1 h2 h3
          refine hput ov' w9 ?_ ?_ ?_
          · rw [← HN.out]
            have e : BC c (.slice sa sn sc) (.slice xa xn xc) = [.int .u64 cq, .string cp, .string cr, .slice sa sn sc, .slice xa xn xc] := by rw [BC, HQ3.out.1, HQ3.out.2.1, HQ3.out.2.2.1]
            rw [e]
            exact h1
          · exact h2
          · exact h3
        clear hown hput
        have fit63 : Hid (n + 1 ≤ maxLen) := by show _ ≤ _; unfold maxLen; omega
        have fit47 : Hid ((n + 1) * 88 ≤ 140737488355328) := by show _ ≤ _; omega
        have fit48 : Hid ((n + 1) * 16 ≤ 140737488355328) := by show _ ≤ _; omega
        have HSZ : Hid (w.heap.size ≤ (w7.alloc (.cells #[.int .u64 cq, .string cp, .string cr, .slice sa sn sc, .slice xa xn xc] 26)).heap.size) := by
          have h1 := (HW.out w7 V7.out.2).size
          show _ ≤ _
          simp; omega
        go_upto_region 13 with (first | (at_builtin; refine wpList_append_lies _ rfl _ _ 37 rfl w.heap.size 26 ib _ 5 88 Tryz.underlying37 hib hb0 hb1 hb2 rfl (by decide) _ _ _ rfl HOWN.out ⟨w7.heap.size, 0, none⟩ 1 1 [.int .u64 cq, .string cp, .string cr, .slice sa sn sc, .slice xa xn xc] rfl rfl (World.news_of_block (heap_alloc_new w7 _)) (by simp [Value.oneCell']) (by decide) fit63.out fit47.out HSZ.out _ rfl ?_; intro gg cap w8 hown8 hgrow hat hglt; have S8 : Hid (CS2 w w8 bs c (.slice (some ⟨gg, 0, none⟩) (n + 1) cap) fv) := HPUT.out _ w8 hown8 hgrow (hat.elim (fun e => .inl e.symm) (fun e => .inr (by rw [e]; rfl))); clear hown8 hgrow hat hglt))
        clear x0 x1 x2 x3 x4 HPUT HOWN HSZ
        have HOWN2 : Hid ((w8.alloc (.cells #[.string fx] 9)).ownsRow w.heap.size 9 1 fv n (scs (Jn.fms bs))) := by
          have h := own_call S8.out.frm (below_new w8 (.cells #[.string fx] 9))
          rw [HN.out]
          exact h
        have HSZ2 : Hid (w.heap.size ≤ (w8.alloc (.cells #[.string fx] 9)).heap.size) := by have h1 := S8.out.below.size; show _ ≤ _; simp; omega
        have HFR : Hid (∀ fv' w9, w9.ownsRow w.heap.size 9 1 fv' (n + 1) (scs (Jn.fms bs) ++ [.string fx]) → (w8.alloc (.cells #[.string fx] 9)).grownBy w9 fv.ownBlock → (fv'.ownBlock = fv.ownBlock ∨ fv'.ownBlock = some (w8.alloc (.cells #[.string fx] 9)).heap.size) → CS w w9 (bs ++ [c]) (.slice (some ⟨gg, 0, none⟩) (n + 1) cap) fv') := by
          intro fv' w9 h1 h2 h3
          rw [HN.out, HQ3.out.2.2.2] at h1
          exact S8.out.frame h2 h3 h1
        go_upto_region 14 with (first | (at_builtin; refine wpList_append_lies _ rfl _ _ 23 rfl w.heap.size 9 i9 _ 1 16 Tryz.underlying23 hi9 hr0 hr1 hr2 rfl (by decide) _ _ _ rfl HOWN2.out ⟨w8.heap.size, 0, none⟩ 1 1 [.string fx] rfl rfl (World.news_of_block (heap_alloc_new w8 _)) (by intro u hu; simp at hu; subst hu; rfl) (by decide) fit63.out fit48.out HSZ2.out _ rfl ?_; intro gf cf w9 hown9 hgrow hat hglt; have S9 : Hid (CS w w9 (bs ++ [c]) (.slice (some ⟨gg, 0, none⟩) (n + 1) cap) (.slice (some ⟨gf, 0, none⟩) (n + 1) cf)) := HFR.out _ w9 hown9 hgrow (hat.elim (fun e => .inl e.symm) (fun e => .inr (by rw [e]; rfl))); clear hown9 hgrow hat hglt))
        go_wp2
        go_roundw
        case rel => exact ⟨j + 1, bs ++ [c], _, _, _, rfl, rfl, rfl, by go_num, hlt, by rw [List.length_append, ← HN.out]; exact Nat.succ_le_succ hbj, HNX.out, S9.out⟩
        case measure =>
          simp only [intOf]
          first | exact arJ hlt | (rw [arW (by omega)]; exact arJ hlt)
      · have HCE : Hid (Jn.berr c ≠ 0) := hce
        obtain ⟨er, her⟩ : ∃ er, er = Jn.berr c := ⟨_, rfl⟩
        have q2 : ((er : Int) != 0) = true := by have := HCE.out; simp; omega
        have q3 : ((er : Int) == 0) = false := by rw [beq_eq_false_iff_ne]; have := HCE.out; omega
        rw [← her]
        have S2 : Hid (CS w w2 bs (.slice oa n oc) fv) := S.out.call HB2.out.2.1
        clear her hce
        go_upto_region 8 with fail
        obtain ⟨w3, hw3⟩ : ∃ w3, w3 = w2.alloc (.cells #[.int .u64 0, .string ⟨#[]⟩, .string ⟨#[]⟩, .slice none 0 0, .slice none 0 0] 26) := ⟨_, rfl⟩
        have S3 : Hid (CS w w3 bs (.slice oa n oc) fv) := by rw [hw3]; exact S2.out.call (below_new _ _)
        rw [← hw3]
        clear hw3
        go_wp2
        go_roundw
        case rel => exact ⟨j + 1, bs, _, _, _, rfl, rfl, rfl, by go_num, hlt, by have := HN.out; omega, HPV.out, S3.out⟩
        case measure =>
          simp only [intOf]
          first | exact arJ hlt | (rw [arW (by omega)]; exact arJ hlt)
    · have q1 : ¬ (j : Int) < (m : Int) := by omega
      have hF := S.out
      go_wp2
      refine bodyPost_ret (results_tmp2 rfl _ _ _) rfl ?_
      exact ⟨bs, _, _, rfl, hF, by have := HN.out; omega⟩
end Go.Proofs.YtipekiknmgbdgaaGreatDoor
/- Frames behind one another that are cut anywhere: plain mathematics. -/
namespace Go.Proofs.YtipekiknmgbdgaaGreatDoor
open Go.RowKit
open Vl (V)
namespace Jn
theorem bs_app (a b : List UInt8) : (bs (a ++ b) : ByteArray) = bs a ++ bs b := ba_ext (by rw [app_list])
theorem frs_cat : ∀ (l : List B) (r : List UInt8), frs (bs ((fms l).flatten ++ r)) = l.map btext ++ frs (bs r)
  | [], r => rfl
  | b :: l, r => by
    have e : (fms (b :: l)).flatten ++ r = (frameOf (btext b)).data.toList ++ ((fms l).flatten ++ r) := by simp [fms]
    rw [e, bs_app, bs_data, frs_frame _ _ (btext_size b), frs_cat l r]
    rfl
/-- a part of a frame is none -/
theorem frs_part (t : ByteArray) (r : List UInt8) (ht : t.size ≤ 16384) (hp : r <+: (frameOf t).data.toList) (hl : r.length < 12 + t.size) : frs (bs r) = [] := by
  refine frs_none ?_
  rw [ff]
  have hs : (bs r).size = r.length := bs_size r
  by_cases h12 : r.length < 12
  · rw [if_pos (by rw [hs]; exact h12)]
  rw [if_neg (by rw [hs]; exact h12)]
  have hfl : (frameOf t).data.toList = cnt t.size ++ ((sealOf (bs (cnt t.size)) t).data.toList ++ t.data.toList) := by
    rw [frameOf, app_list, app_list, List.append_assoc]
  have h4 : (bs r).extract 0 4 = bs (cnt t.size) := by
    refine ba_ext ?_
    rw [ext_list]
    obtain ⟨q, hq⟩ := hp
    have e : (r ++ q).take 4 = cnt t.size := by
      rw [hq, hfl]
      rfl
    rw [List.take_append_of_le_length (by omega)] at e
    exact e
  rw [h4]
  have hu : unc (bs (cnt t.size)).data.toList = t.size := unc_cnt t.size (by omega)
  rw [hu, if_pos (by rw [hs]; omega)]
theorem fms_take (l : List B) (k : Nat) : fms (l.take k) = (fms l).take k := by rw [fms, fms, List.map_take]
theorem total_fms : ∀ l : List B, total (l.map btext) = (fms l).flatten.length
  | [] => rfl
  | b :: l => by
    have h := total_fms l
    have hf : (frameOf (btext b)).data.toList.length = 12 + (btext b).size := by rw [← Lib.size_eq]; exact frameOf_size _
    simp only [total, fms, List.map_cons, List.sum_cons, List.flatten_cons, List.length_append, hf] at h ⊢
    rw [h]
theorem Took.pre {ts : List ByteArray} {bs : List B} (h : Took ts bs) : ∀ k, Took (ts.take k) (bs.take k) := by
  induction h with
  | none => intro k; simp; exact Took.none
  | @more ts bs b h1 h2 h3 h4 h5 ih =>
    intro k
    have hl := h1.len
    by_cases hk : k ≤ bs.length
    · rw [List.take_append_of_le_length (by omega), List.take_append_of_le_length hk]
      exact ih k
    · rw [List.take_of_length_le (by simp; omega), List.take_of_length_le (by simp; omega)]
      exact Took.more h1 h2 h3 h4 h5
/-- of frames that are cut those that are whole are read -/
theorem torn (l : List B) (cut k : Nat) (hk : k ≤ l.length) (h1 : ((fms l).take k).flatten.length ≤ cut) (h2 : k < l.length → ∀ f, (fms l)[k]? = some f → cut < ((fms l).take k).flatten.length + f.length) : frs (bs ((fms l).flatten.take cut)) = (l.take k).map btext := by
  have e : (fms l).flatten = ((fms l).take k).flatten ++ ((fms l).drop k).flatten := by rw [← List.flatten_append, List.take_append_drop]
  rw [e, List.take_append, List.take_of_length_le h1, ← fms_take, frs_cat]
  have : frs (bs (((fms l).drop k).flatten.take (cut - (fms (l.take k)).flatten.length))) = [] := by
    by_cases hlt : k < l.length
    · obtain ⟨b, hb⟩ : ∃ b, l[k]? = some b := ⟨_, List.getElem?_eq_getElem hlt⟩
      have hf : (fms l)[k]? = some (frameOf (btext b)).data.toList := by rw [fms, List.getElem?_map, hb]; rfl
      have h3 := h2 hlt _ hf
      have hd : (fms l).drop k = (frameOf (btext b)).data.toList :: (fms l).drop (k + 1) := by
        obtain ⟨h4, h5⟩ := List.getElem?_eq_some_iff.1 hf
        rw [List.drop_eq_getElem_cons h4, h5]
      rw [fms_take, hd, List.flatten_cons, List.take_append_of_le_length (by omega)]
      refine frs_part (btext b) _ (btext_size b) (List.take_prefix _ _) ?_
      have hfl : (frameOf (btext b)).data.toList.length = 12 + (btext b).size := by rw [← Lib.size_eq]; exact frameOf_size _
      rw [List.length_take]
      omega
    · rw [List.drop_of_length_le (by rw [fms_len]; omega)]
      exact frs_short _ (by rw [bs_size]; simp)
  rw [this, List.append_nil]
end Jn
end Go.Proofs.YtipekiknmgbdgaaGreatDoor
/- JournalTorn, walked: of frames behind one another that are cut anywhere those that are whole are read. -/
namespace Go.Proofs.YtipekiknmgbdgaaGreatDoor
open Go.RowKit
open Vl (V)
attribute [local go_sem ↓] Go.wp_at_zero Go.wp_at_succ
theorem fms_small (bs : List Jn.B) : ∀ f ∈ Jn.fms bs, f.length ≤ 16396 := by
  intro f hf
  rw [Jn.fms] at hf
  obtain ⟨b, _, rfl⟩ := List.mem_map.1 hf
  rw [← Lib.size_eq, Jn.frameOf_size]
  have := Jn.btext_size b
  omega
theorem flat_le : ∀ (l : List (List UInt8)), (∀ f ∈ l, f.length ≤ 16396) → l.flatten.length ≤ l.length * 16396
  | [], _ => Nat.zero_le _
  | f :: l, h => by
    have h1 := h f (by simp)
    have h2 := flat_le l (fun x hx => h x (by simp [hx]))
    simp only [List.flatten_cons, List.length_append, List.length_cons]
    omega
theorem flat_take {l : List (List UInt8)} {k : Nat} {f : List UInt8} (h : l[k]? = some f) : (l.take (k + 1)).flatten = (l.take k).flatten ++ f := by
  rw [List.take_add_one, h]
  simp
theorem flat_mono (l : List (List UInt8)) (k : Nat) : (l.take k).flatten.length ≤ l.flatten.length := by
  have e : l.flatten = (l.take k).flatten ++ (l.drop k).flatten := by rw [← List.flatten_append, List.take_append_drop]
  rw [e, List.length_append]
  omega
theorem arS {a b c : Nat} (h : c = a + b) (hc : c ≤ 9223372036854775807) : wrap64 ((a : Int) + (b : Int)) = (c : Int) := by unfold wrap64; omega
theorem arT {k n : Nat} (h : k < n) (hn : n ≤ 1048576) : (k : Int) + 1 ≤ 9223372036854775807 := by omega
theorem arU {a b c f : Nat} (h : c = a + b) (hb : b = f) (hf : f ≤ 16396) (ha : a ≤ 17192452096) : c ≤ 9223372036854775807 := by omega
/-- the first blocks of a row -/
theorem BV.cut {W : World} {a : Option Addr} {n c : Nat} {bs : List Jn.B} (h : BV W (.slice a n c) bs) (k : Nat) (hk : k ≤ bs.length) (c' : Nat) : BV W (.slice a k c') (bs.take k) := by
  obtain ⟨a1, c1, e, h1⟩ := h
  injection e with e1 e2 e3
  subst e1
  refine ⟨a, c', by rw [List.length_take, Nat.min_eq_left hk], fun hp => ?_⟩
  rw [List.length_take] at hp
  obtain ⟨g, e4, hg, hc⟩ := h1 (by omega)
  refine ⟨g, e4, hg, fun j b hj => hc j b ?_⟩
  have hlt := (List.getElem?_eq_some_iff.1 hj).1
  rw [List.length_take] at hlt
  rw [List.getElem?_take_of_lt (by omega)] at hj
  exact hj
/-- frames in a row -/
def FV (W : World) (v : Value) (l : List (List UInt8)) : Prop := ∃ a c, v = .slice a l.length c ∧ (0 < l.length → ∃ g, a = some ⟨g, 0, none⟩ ∧ g < W.heap.size ∧ ∀ j x, l[j]? = some x → W.cell? ⟨g, j, none⟩ = some (.string (bs x)))
theorem FV.of {W : World} {B n : Nat} {v : Value} {l : List (List UInt8)} (hn : n = l.length) (h : W.ownsRow B 9 1 v n (scs l)) : FV W v l := by
  subst hn
  obtain ⟨a, c, e⟩ := own_slc h
  refine ⟨a, c, e, fun hp => ?_⟩
  obtain ⟨g, cap, e2, hg, hc⟩ := own_cellsJ hp h
  rw [e] at e2
  injection e2 with e2 _ _
  exact ⟨g, e2, hg, fun j x hx => hc j _ (by rw [scs, List.getElem?_map, hx]; rfl)⟩
theorem FV.call {W W' : World} {v : Value} {l : List (List UInt8)} (h : FV W v l) (hb : Below W.heap.size W W') : FV W' v l := by
  obtain ⟨a, c, e, h1⟩ := h
  refine ⟨a, c, e, fun hp => ?_⟩
  obtain ⟨g, e2, hg, hc⟩ := h1 hp
  exact ⟨g, e2, Nat.lt_of_lt_of_le hg hb.size, fun j x hx => (hb.cell (p := ⟨g, j, none⟩) hg).trans (hc j x hx)⟩
theorem own_cap {W : World} {B n m c size : Nat} {t : TypeId} {a : Option Addr} {L : List Value} (h : W.ownsRow B t size (.slice a m c) n L) : n ≤ c := by
  rcases h.2 with ⟨e, h1⟩ | ⟨g, cap, cur, e, _, _, h4, _⟩
  · omega
  · injection e with _ _ e3
    omega
theorem elemBlks : Tryz.prog.elem 37 = 26 := by kernel_rfl
theorem slice_blks (a : Option Addr) (n c k : Nat) (hk : k ≤ c) : ∃ c', ∀ wx : World, (Instr.slice 37 (.slice a n c) none (some (.int .i64 (k : Int))) none).run Tryz.prog wx = .ok (.slice a k c') wx := by
  refine ⟨c, fun wx => ?_⟩
  have hu : Tryz.prog.underlying 37 = some (.slice (Tryz.prog.elem 37)) := by rw [elemBlks]; exact Tryz.underlying37
  rw [run_slice_h (P := Tryz.prog) wx 37 a n c hu .i64 (k : Int) (by omega) (by omega), elemBlks]
  simp [sliced, go_sem]
set_option maxHeartbeats 16000000 in
set_option maxRecDepth 100000 in
theorem torn_c (ll : List (List Jn.R)) (hn : ll.length ≤ 1048576) (v : Value) (cut : Int) (w : World) (hU : Bn.HasU w) (hK : HasK w) (hL : LL w v ll) : Calls Tryz.prog 4 #[v, .int .i64 cut] w fun e w' => e = .returned (.bool true) ∧ Below w.heap.size w w' := by
  have HU : Hid (∀ W, Below w.heap.size w W → Bn.HasU W) := fun W hW => hU.stays hW
  have HK : Hid (∀ W, Below w.heap.size w W → HasK W) := fun W hW => hK.below hK.1 hW
  have HL : Hid (∀ W, Below w.heap.size w W → LL W v ll) := fun W hW => hL.call hW
  have HN0 : Hid (ll.length ≤ 1048576) := hn
  clear hU hK hL hn
  go_enter Tryz.func4, Tryz.ntmps4
  go_wp2_with fail
  refine Calls.mono (livesJ_c _ (HU.out _ (Below.refl _ _)) (HK.out _ (Below.refl _ _))) ?_
  rintro e w1 ⟨rfl, hb1⟩
  have HB1 : Hid (Below w.heap.size w w1) := hb1
  clear hb1
  go_wp2_with fail
  refine Calls.mono (chainB_c ll HN0.out v _ (HU.out _ HB1.out) (HK.out _ HB1.out) (HL.out _ HB1.out)) ?_
  rintro e w2 ⟨bs, ov, fv, rfl, hS, hbl⟩
  have HB2 : Hid (Below w.heap.size w w2) := HB1.out.trans (hS.below.mono HB1.out.size)
  have HTK : Hid (Jn.Took (bs.map Jn.btext) bs) := hS.took
  have HBV : Hid (BV w2 ov bs) := BV.of hS.row.row
  have HCAP : Hid (∀ a m c, ov = .slice a m c → bs.length ≤ c) := fun a m c e => by
    obtain ⟨cs, ho, _⟩ := hS.row
    rw [e] at ho
    exact own_cap ho
  obtain ⟨fl, hfl⟩ : ∃ fl, fl = Jn.fms bs := ⟨_, rfl⟩
  have HFV : Hid (FV w2 fv fl) := by rw [hfl]; exact FV.of (Jn.fms_len bs).symm hS.frm
  have HFL : Hid (fl = Jn.fms bs ∧ fl.length = bs.length ∧ (∀ f ∈ fl, f.length ≤ 16396) ∧ fl.flatten.length ≤ 17192452096 ∧ fl.length ≤ 1048576) := by
    have h1 := fms_small bs
    have h2 := flat_le _ h1
    have h3 := Jn.fms_len bs
    have h4 := HN0.out
    rw [← hfl] at h1 h2 h3
    exact ⟨hfl, h3, h1, by omega, by omega⟩
  clear hS hbl HB1 hfl HL
  obtain ⟨oa, oc, rfl⟩ : ∃ a c, ov = .slice a bs.length c := by obtain ⟨a, c, e, _⟩ := HBV.out; exact ⟨a, c, e⟩
  obtain ⟨fa, fc, rfl⟩ : ∃ a c, fv = .slice a fl.length c := by obtain ⟨a, c, e, _⟩ := HFV.out; exact ⟨a, c, e⟩
  obtain ⟨n, hnn⟩ : ∃ n, n = fl.length := ⟨_, rfl⟩
  have HN : Hid (n = fl.length ∧ n = bs.length ∧ n ≤ 1048576) := ⟨hnn, by rw [hnn, HFL.out.2.1], by rw [hnn]; exact HFL.out.2.2.2.2⟩
  have hnb : n = bs.length := HN.out.2.1
  have HCP : Hid (n ≤ oc) := by have h := HCAP.out _ _ _ rfl; rw [← hnb] at h; exact h
  clear HCAP
  rw [← hnb] at HBV
  rw [← hnn] at HFV
  rw [← hnb, ← hnn]
  clear hnb hnn
  have hn20 : n ≤ 1048576 := HN.out.2.2
  have HFC : Hid (∀ j f, fl[j]? = some f → ∃ g, fa = some ⟨g, 0, none⟩ ∧ w2.cell? ⟨g, j, none⟩ = some (.string (Go.Proofs.YtipekiknmgbdgaaGreatDoor.bs f))) := fun j f hf => by
    obtain ⟨a, c, e, h⟩ := HFV.out
    injection e with e1 _ _
    obtain ⟨g, e2, _, hc⟩ := h (by have := (List.getElem?_eq_some_iff.1 hf).1; omega)
    exact ⟨g, by rw [e1, e2], hc j f hf⟩
  go_wp2
  go_loopw [7, 23] (fun o i wr => ∃ (j : Nat) (ab : ByteArray), j ≤ n ∧ i = .int .i64 (j : Int) ∧ o = .string ab ∧ ab = Go.Proofs.YtipekiknmgbdgaaGreatDoor.bs (fl.take j).flatten ∧ wr = w2) (fun _ i _ => n - (intOf i).toNat)
  case atStart => exact ⟨0, _, Nat.zero_le _, rfl, rfl, rfl, rfl⟩
  case round =>
    obtain ⟨j, ab, hj, rfl, rfl, hab, hwr⟩ := hrel
    subst hwr
    have HAB : Hid (ab = Go.Proofs.YtipekiknmgbdgaaGreatDoor.bs (fl.take j).flatten) := hab
    have hasz : ab.size ≤ 17192452096 := by rw [hab, bs_size]; exact Nat.le_trans (flat_mono fl j) HFL.out.2.2.2.1
    clear hab
    by_cases hlt : j < n
    · have q1 : (j : Int) < (n : Int) := by omega
      obtain ⟨f, hf⟩ : ∃ f, fl[j]? = some f := ⟨_, List.getElem?_eq_getElem (by rw [← HN.out.1]; exact hlt)⟩
      obtain ⟨g, rfl, d0⟩ := HFC.out j f hf
      obtain ⟨fb, hfb⟩ : ∃ fb, fb = Go.Proofs.YtipekiknmgbdgaaGreatDoor.bs f := ⟨_, rfl⟩
      rw [← hfb] at d0
      have hfs : fb.size ≤ 16396 := by rw [hfb, bs_size]; exact HFL.out.2.2.1 f (List.mem_of_getElem? hf)
      have HCAT : Hid (ab ++ fb = Go.Proofs.YtipekiknmgbdgaaGreatDoor.bs (fl.take (j + 1)).flatten) := by show _ = _; rw [flat_take hf, Jn.bs_app, ← HAB.out, hfb]
      have hfit : ab.size + fb.size ≤ 9223372036854775807 := by omega
      have a1 : (j : Int) + 1 ≤ 9223372036854775807 := by omega
      clear hf hfb
      go_wp2
      go_roundw
      case rel => exact ⟨j + 1, _, hlt, by first | go_num | (rw [arW a1]; go_num), rfl, HCAT.out, trivial⟩
      case measure =>
        simp only [intOf]
        first | exact arJ hlt | (rw [arW a1]; exact arJ hlt)
    · have q1 : ¬ (j : Int) < (n : Int) := by omega
      obtain ⟨wB, rfl⟩ : ∃ wB, wB = wr := ⟨_, rfl⟩
      have HAF : Hid (ab = Go.Proofs.YtipekiknmgbdgaaGreatDoor.bs fl.flatten) := by show _ = _; rw [HAB.out, List.take_of_length_le (by have := HN.out.1; omega)]
      obtain ⟨L, hL⟩ : ∃ L : Nat, L = ab.size := ⟨_, rfl⟩
      have hLs : (ab.size : Int) = (L : Int) := by rw [hL]
      have HLL : Hid (L = fl.flatten.length ∧ L = ab.size) := ⟨by rw [hL, HAF.out, bs_size], hL⟩
      have hLb : L ≤ 17192452096 := by omega
      have SLB : Hid (∀ k, k ≤ n → ∃ c', ∀ wx, (Instr.slice 37 (.slice oa n oc) none (some (.int .i64 (k : Int))) none).run Tryz.prog wx = .ok (.slice oa k c') wx) := fun k hk => slice_blks oa n oc k (Nat.le_trans hk HCP.out)
      clear hL
      by_cases hcut : 0 ≤ cut ∧ cut ≤ (L : Int)
      · obtain ⟨ct, hct⟩ : ∃ ct : Nat, cut = (ct : Int) := ⟨cut.toNat, by omega⟩
        subst hct
        have qa : ¬ (ct : Int) < 0 := by omega
        have qb : ¬ (L : Int) < (ct : Int) := by omega
        have hctL : ct ≤ L := by omega
        have HALL : Hid (ab = Go.Proofs.YtipekiknmgbdgaaGreatDoor.bs fl.flatten ∧ ct ≤ L ∧ ct ≤ 17192452096) := ⟨HAF.out, hctL, by omega⟩
        have hcts : ct ≤ ab.size := by rw [← HLL.out.2]; exact hctL
        clear hcut
        go_wp2
        go_loopw [10, 11] (fun a z wr => ∃ (k sz : Nat), k ≤ n ∧ a = .int .i64 (k : Int) ∧ z = .int .i64 (sz : Int) ∧ sz = (fl.take k).flatten.length ∧ sz ≤ ct ∧ wr = wB) (fun a _ _ => n - (intOf a).toNat)
        case atStart => exact ⟨0, 0, Nat.zero_le _, rfl, rfl, rfl, Nat.zero_le _, rfl⟩
        case round =>
          obtain ⟨k, sz, hk, rfl, rfl, hsz, hsc, hwr⟩ := hrel
          subst hwr
          have HSZ : Hid (sz = (fl.take k).flatten.length) := hsz
          clear hsz
          by_cases hgo : ∃ f, fl[k]? = some f ∧ sz + f.length ≤ ct
          · obtain ⟨f, hf, hfc⟩ := hgo
            have hlt : k < n := by have := (List.getElem?_eq_some_iff.1 hf).1; have := HN.out.1; omega
            have q1 : (k : Int) < (n : Int) := by omega
            obtain ⟨g, rfl, d0⟩ := HFC.out k f hf
            obtain ⟨fb, hfb⟩ : ∃ fb, fb = Go.Proofs.YtipekiknmgbdgaaGreatDoor.bs f := ⟨_, rfl⟩
            rw [← hfb] at d0
            have hfs : fb.size = f.length := by rw [hfb, bs_size]
            obtain ⟨z2, hz2⟩ : ∃ z2 : Nat, z2 = sz + fb.size := ⟨_, rfl⟩
            have hct2 : ct ≤ 17192452096 := HALL.out.2.2
            have hz4 : z2 ≤ ct := by rw [hz2, hfs]; exact hfc
            have e2 : wrap64 ((sz : Int) + (fb.size : Int)) = (z2 : Int) := arS hz2 (Nat.le_trans hz4 (Nat.le_trans hct2 (by decide)))
            have q2 : (z2 : Int) ≤ (ct : Int) := Int.ofNat_le.2 hz4
            have HZ2 : Hid (z2 = (fl.take (k + 1)).flatten.length) := by show _ = _; rw [flat_take hf, List.length_append, ← HSZ.out, hz2, hfs]
            have hz3 : z2 ≤ ct := hz4
            have a1 : (k : Int) + 1 ≤ 9223372036854775807 := arT hlt hn20
            clear hf hfb hfc hz2 hfs hz4 hct2
            go_wp2
            go_roundw
            case rel => exact ⟨k + 1, z2, hlt, by first | go_num | (rw [arW a1]; go_num), by first | rfl | rw [e2], HZ2.out, hz3, trivial⟩
            case measure =>
              simp only [intOf]
              first | exact arJ hlt | (rw [arW a1]; exact arJ hlt)
          · have HEND : Hid (k < bs.length → ∀ f, (Jn.fms bs)[k]? = some f → ct < ((Jn.fms bs).take k).flatten.length + f.length) := fun _ f hf => by
              rw [← HFL.out.1] at hf ⊢
              rw [← HSZ.out]
              refine Nat.lt_of_not_le fun h => hgo ⟨f, hf, h⟩
            obtain ⟨s2, hs2⟩ : ∃ s2, s2 = Go.Proofs.YtipekiknmgbdgaaGreatDoor.bs (fl.flatten.take ct) := ⟨_, rfl⟩
            have hsl : ∀ wx, (Instr.slice 9 (.string ab) none (some (.int .i64 (ct : Int))) none).run Tryz.prog wx = .ok (.string s2) wx := fun wx => by
              rw [run_slice_string_to_if (P := Tryz.prog) wx 9 ab .i64 (ct : Int) Tryz.underlying9, if_pos ⟨by omega, by omega⟩, Int.toNat_natCast]
              have e : ab.extract 0 ct = s2 := by
                rw [hs2, HALL.out.1]
                refine Jn.ba_ext ?_
                rw [Jn.ext_list]
                rfl
              rw [e]
            have HFRS : Hid (Jn.frs s2 = (bs.take k).map Jn.btext ∧ s2.size ≤ 140737488351232) := by
              refine ⟨?_, ?_⟩
              · rw [hs2, HFL.out.1]
                refine Jn.torn bs ct k (by have := HN.out.2.1; omega) (by rw [← HFL.out.1, ← HSZ.out]; exact hsc) HEND.out
              · rw [hs2, bs_size, List.length_take]
                have := HFL.out.2.2.2.1
                omega
            have HTOT : Hid (Jn.total ((bs.take k).map Jn.btext) = sz) := by show _ = _; rw [Jn.total_fms, Jn.fms_take, ← HFL.out.1, ← HSZ.out]
            have HTP : Hid (Jn.Took ((bs.take k).map Jn.btext) (bs.take k)) := by have h := HTK.out.pre k; rw [← List.map_take] at h; exact h
            have HKN : Hid (k ≤ n ∧ k ≤ bs.length) := ⟨hk, by have := HN.out.2.1; omega⟩
            clear hs2
            by_cases hkn : k < n
            · have q1 : (k : Int) < (n : Int) := by omega
              obtain ⟨f, hf⟩ : ∃ f, fl[k]? = some f := ⟨_, List.getElem?_eq_getElem (by rw [← HN.out.1]; exact hkn)⟩
              obtain ⟨g, rfl, d0⟩ := HFC.out k f hf
              obtain ⟨fb, hfb⟩ : ∃ fb, fb = Go.Proofs.YtipekiknmgbdgaaGreatDoor.bs f := ⟨_, rfl⟩
              rw [← hfb] at d0
              have hfs : fb.size = f.length := by rw [hfb, bs_size]
              have hf2 := HFL.out.2.2.1 f (List.mem_of_getElem? hf)
              obtain ⟨z2, hz2⟩ : ∃ z2 : Nat, z2 = sz + fb.size := ⟨_, rfl⟩
              have hct := HALL.out.2.2
              have e2 : wrap64 ((sz : Int) + (fb.size : Int)) = (z2 : Int) := arS hz2 (arU hz2 hfs hf2 (Nat.le_trans hsc hct))
              have q2 : ¬ (z2 : Int) ≤ (ct : Int) := fun h => hgo ⟨f, hf, by rw [← hfs, ← hz2]; exact Int.ofNat_le.1 h⟩
              clear hf hfb hz2 hfs hf2 hct hgo
              go_wp2_with fail
              refine Calls.mono (scan_c s2 HFRS.out.2 _ (HU.out _ HB2.out) (HK.out _ HB2.out)) ?_
              rintro e wz ⟨hbz, ts2, bs2, lv2, hT2, hp2, he2, rfl, hrow2⟩
              rw [HFRS.out.1] at hp2 he2
              obtain ⟨e1, e3⟩ := Jn.again HTP.out hT2 hp2 he2
              subst e1 e3
              have HVZ : Hid (BV wz (.slice oa n oc) bs ∧ BV wz lv2 (bs.take k) ∧ Below w.heap.size w wz) := ⟨HBV.out.call hbz, BV.of hrow2, HB2.out.trans (hbz.mono HB2.out.size)⟩
              rw [HTOT.out]
              have HSTS : Hid (∀ b ∈ bs.take k, b.sts.length ≤ 1048576) := fun b hb => by
                obtain ⟨i, hi⟩ := List.mem_iff_getElem?.1 hb
                have h1 := (HTP.out.at i b hi).1
                have h2 := Jn.berr_seq h1
                omega
              have qs : ((sz : Int) == (sz : Int)) = true := beq_self_eq_true _
              obtain ⟨c', hsb⟩ := SLB.out k hk
              have hlen : (bs.take k).length ≤ 140737488355328 := by rw [List.length_take]; omega
              clear hbz hT2 hp2 he2 hrow2 hsl
              go_wp2_with fail
              refine Calls.mono (sameAll_c (bs.take k) hlen HSTS.out lv2 _ _ HVZ.out.2.1 (HVZ.out.1.cut k HKN.out.2 c')) ?_
              rintro e wy ⟨rfl, hby⟩
              have HF := HVZ.out.2.2.trans (hby.mono HVZ.out.2.2.size)
              clear hby
              go_wp2
              go_ret
              exact ⟨rfl, HF⟩
            · have q1 : ¬ (k : Int) < (n : Int) := by omega
              clear hgo
              go_wp2_with fail
              refine Calls.mono (scan_c s2 HFRS.out.2 _ (HU.out _ HB2.out) (HK.out _ HB2.out)) ?_
              rintro e wz ⟨hbz, ts2, bs2, lv2, hT2, hp2, he2, rfl, hrow2⟩
              rw [HFRS.out.1] at hp2 he2
              obtain ⟨e1, e3⟩ := Jn.again HTP.out hT2 hp2 he2
              subst e1 e3
              have HVZ : Hid (BV wz (.slice oa n oc) bs ∧ BV wz lv2 (bs.take k) ∧ Below w.heap.size w wz) := ⟨HBV.out.call hbz, BV.of hrow2, HB2.out.trans (hbz.mono HB2.out.size)⟩
              rw [HTOT.out]
              have HSTS : Hid (∀ b ∈ bs.take k, b.sts.length ≤ 1048576) := fun b hb => by
                obtain ⟨i, hi⟩ := List.mem_iff_getElem?.1 hb
                have h1 := (HTP.out.at i b hi).1
                have h2 := Jn.berr_seq h1
                omega
              have qs : ((sz : Int) == (sz : Int)) = true := beq_self_eq_true _
              obtain ⟨c', hsb⟩ := SLB.out k hk
              have hlen : (bs.take k).length ≤ 140737488355328 := by rw [List.length_take]; omega
              clear hbz hT2 hp2 he2 hrow2 hsl
              go_wp2_with fail
              refine Calls.mono (sameAll_c (bs.take k) hlen HSTS.out lv2 _ _ HVZ.out.2.1 (HVZ.out.1.cut k HKN.out.2 c')) ?_
              rintro e wy ⟨rfl, hby⟩
              have HF := HVZ.out.2.2.trans (hby.mono HVZ.out.2.2.size)
              clear hby
              go_wp2
              go_ret
              exact ⟨rfl, HF⟩
      · obtain ⟨ct, hct⟩ : ∃ ct : Nat, ct = L := ⟨_, rfl⟩
        have HALL : Hid (ab = Go.Proofs.YtipekiknmgbdgaaGreatDoor.bs fl.flatten ∧ ct ≤ L ∧ ct ≤ 17192452096) := ⟨HAF.out, by omega, by omega⟩
        have hcts : ct ≤ ab.size := by rw [← HLL.out.2]; omega
        rw [← hct] at hLs
        by_cases hneg : cut < 0
        · clear hcut hct
          go_wp2
          go_loopw [10, 11] (fun a z wr => ∃ (k sz : Nat), k ≤ n ∧ a = .int .i64 (k : Int) ∧ z = .int .i64 (sz : Int) ∧ sz = (fl.take k).flatten.length ∧ sz ≤ ct ∧ wr = wB) (fun a _ _ => n - (intOf a).toNat)
          case atStart => exact ⟨0, 0, Nat.zero_le _, rfl, rfl, rfl, Nat.zero_le _, rfl⟩
          case round =>
            obtain ⟨k, sz, hk, rfl, rfl, hsz, hsc, hwr⟩ := hrel
            subst hwr
            have HSZ : Hid (sz = (fl.take k).flatten.length) := hsz
            clear hsz
            by_cases hgo : ∃ f, fl[k]? = some f ∧ sz + f.length ≤ ct
            · obtain ⟨f, hf, hfc⟩ := hgo
              have hlt : k < n := by have := (List.getElem?_eq_some_iff.1 hf).1; have := HN.out.1; omega
              have q1 : (k : Int) < (n : Int) := by omega
              obtain ⟨g, rfl, d0⟩ := HFC.out k f hf
              obtain ⟨fb, hfb⟩ : ∃ fb, fb = Go.Proofs.YtipekiknmgbdgaaGreatDoor.bs f := ⟨_, rfl⟩
              rw [← hfb] at d0
              have hfs : fb.size = f.length := by rw [hfb, bs_size]
              obtain ⟨z2, hz2⟩ : ∃ z2 : Nat, z2 = sz + fb.size := ⟨_, rfl⟩
              have hct2 : ct ≤ 17192452096 := HALL.out.2.2
              have hz4 : z2 ≤ ct := by rw [hz2, hfs]; exact hfc
              have e2 : wrap64 ((sz : Int) + (fb.size : Int)) = (z2 : Int) := arS hz2 (Nat.le_trans hz4 (Nat.le_trans hct2 (by decide)))
              have q2 : (z2 : Int) ≤ (ct : Int) := Int.ofNat_le.2 hz4
              have HZ2 : Hid (z2 = (fl.take (k + 1)).flatten.length) := by show _ = _; rw [flat_take hf, List.length_append, ← HSZ.out, hz2, hfs]
              have hz3 : z2 ≤ ct := hz4
              have a1 : (k : Int) + 1 ≤ 9223372036854775807 := arT hlt hn20
              clear hf hfb hfc hz2 hfs hz4 hct2
              go_wp2
              go_roundw
              case rel => exact ⟨k + 1, z2, hlt, by first | go_num | (rw [arW a1]; go_num), by first | rfl | rw [e2], HZ2.out, hz3, trivial⟩
              case measure =>
                simp only [intOf]
                first | exact arJ hlt | (rw [arW a1]; exact arJ hlt)
            · have HEND : Hid (k < bs.length → ∀ f, (Jn.fms bs)[k]? = some f → ct < ((Jn.fms bs).take k).flatten.length + f.length) := fun _ f hf => by
                rw [← HFL.out.1] at hf ⊢
                rw [← HSZ.out]
                refine Nat.lt_of_not_le fun h => hgo ⟨f, hf, h⟩
              obtain ⟨s2, hs2⟩ : ∃ s2, s2 = Go.Proofs.YtipekiknmgbdgaaGreatDoor.bs (fl.flatten.take ct) := ⟨_, rfl⟩
              have hsl : ∀ wx, (Instr.slice 9 (.string ab) none (some (.int .i64 (ct : Int))) none).run Tryz.prog wx = .ok (.string s2) wx := fun wx => by
                rw [run_slice_string_to_if (P := Tryz.prog) wx 9 ab .i64 (ct : Int) Tryz.underlying9, if_pos ⟨by omega, by omega⟩, Int.toNat_natCast]
                have e : ab.extract 0 ct = s2 := by
                  rw [hs2, HALL.out.1]
                  refine Jn.ba_ext ?_
                  rw [Jn.ext_list]
                  rfl
                rw [e]
              have HFRS : Hid (Jn.frs s2 = (bs.take k).map Jn.btext ∧ s2.size ≤ 140737488351232) := by
                refine ⟨?_, ?_⟩
                · rw [hs2, HFL.out.1]
                  refine Jn.torn bs ct k (by have := HN.out.2.1; omega) (by rw [← HFL.out.1, ← HSZ.out]; exact hsc) HEND.out
                · rw [hs2, bs_size, List.length_take]
                  have := HFL.out.2.2.2.1
                  omega
              have HTOT : Hid (Jn.total ((bs.take k).map Jn.btext) = sz) := by show _ = _; rw [Jn.total_fms, Jn.fms_take, ← HFL.out.1, ← HSZ.out]
              have HTP : Hid (Jn.Took ((bs.take k).map Jn.btext) (bs.take k)) := by have h := HTK.out.pre k; rw [← List.map_take] at h; exact h
              have HKN : Hid (k ≤ n ∧ k ≤ bs.length) := ⟨hk, by have := HN.out.2.1; omega⟩
              clear hs2
              by_cases hkn : k < n
              · have q1 : (k : Int) < (n : Int) := by omega
                obtain ⟨f, hf⟩ : ∃ f, fl[k]? = some f := ⟨_, List.getElem?_eq_getElem (by rw [← HN.out.1]; exact hkn)⟩
                obtain ⟨g, rfl, d0⟩ := HFC.out k f hf
                obtain ⟨fb, hfb⟩ : ∃ fb, fb = Go.Proofs.YtipekiknmgbdgaaGreatDoor.bs f := ⟨_, rfl⟩
                rw [← hfb] at d0
                have hfs : fb.size = f.length := by rw [hfb, bs_size]
                have hf2 := HFL.out.2.2.1 f (List.mem_of_getElem? hf)
                obtain ⟨z2, hz2⟩ : ∃ z2 : Nat, z2 = sz + fb.size := ⟨_, rfl⟩
                have hct := HALL.out.2.2
                have e2 : wrap64 ((sz : Int) + (fb.size : Int)) = (z2 : Int) := arS hz2 (arU hz2 hfs hf2 (Nat.le_trans hsc hct))
                have q2 : ¬ (z2 : Int) ≤ (ct : Int) := fun h => hgo ⟨f, hf, by rw [← hfs, ← hz2]; exact Int.ofNat_le.1 h⟩
                clear hf hfb hz2 hfs hf2 hct hgo
                go_wp2_with fail
                refine Calls.mono (scan_c s2 HFRS.out.2 _ (HU.out _ HB2.out) (HK.out _ HB2.out)) ?_
                rintro e wz ⟨hbz, ts2, bs2, lv2, hT2, hp2, he2, rfl, hrow2⟩
                rw [HFRS.out.1] at hp2 he2
                obtain ⟨e1, e3⟩ := Jn.again HTP.out hT2 hp2 he2
                subst e1 e3
                have HVZ : Hid (BV wz (.slice oa n oc) bs ∧ BV wz lv2 (bs.take k) ∧ Below w.heap.size w wz) := ⟨HBV.out.call hbz, BV.of hrow2, HB2.out.trans (hbz.mono HB2.out.size)⟩
                rw [HTOT.out]
                have HSTS : Hid (∀ b ∈ bs.take k, b.sts.length ≤ 1048576) := fun b hb => by
                  obtain ⟨i, hi⟩ := List.mem_iff_getElem?.1 hb
                  have h1 := (HTP.out.at i b hi).1
                  have h2 := Jn.berr_seq h1
                  omega
                have qs : ((sz : Int) == (sz : Int)) = true := beq_self_eq_true _
                obtain ⟨c', hsb⟩ := SLB.out k hk
                have hlen : (bs.take k).length ≤ 140737488355328 := by rw [List.length_take]; omega
                clear hbz hT2 hp2 he2 hrow2 hsl
                go_wp2_with fail
                refine Calls.mono (sameAll_c (bs.take k) hlen HSTS.out lv2 _ _ HVZ.out.2.1 (HVZ.out.1.cut k HKN.out.2 c')) ?_
                rintro e wy ⟨rfl, hby⟩
                have HF := HVZ.out.2.2.trans (hby.mono HVZ.out.2.2.size)
                clear hby
                go_wp2
                go_ret
                exact ⟨rfl, HF⟩
              · have q1 : ¬ (k : Int) < (n : Int) := by omega
                clear hgo
                go_wp2_with fail
                refine Calls.mono (scan_c s2 HFRS.out.2 _ (HU.out _ HB2.out) (HK.out _ HB2.out)) ?_
                rintro e wz ⟨hbz, ts2, bs2, lv2, hT2, hp2, he2, rfl, hrow2⟩
                rw [HFRS.out.1] at hp2 he2
                obtain ⟨e1, e3⟩ := Jn.again HTP.out hT2 hp2 he2
                subst e1 e3
                have HVZ : Hid (BV wz (.slice oa n oc) bs ∧ BV wz lv2 (bs.take k) ∧ Below w.heap.size w wz) := ⟨HBV.out.call hbz, BV.of hrow2, HB2.out.trans (hbz.mono HB2.out.size)⟩
                rw [HTOT.out]
                have HSTS : Hid (∀ b ∈ bs.take k, b.sts.length ≤ 1048576) := fun b hb => by
                  obtain ⟨i, hi⟩ := List.mem_iff_getElem?.1 hb
                  have h1 := (HTP.out.at i b hi).1
                  have h2 := Jn.berr_seq h1
                  omega
                have qs : ((sz : Int) == (sz : Int)) = true := beq_self_eq_true _
                obtain ⟨c', hsb⟩ := SLB.out k hk
                have hlen : (bs.take k).length ≤ 140737488355328 := by rw [List.length_take]; omega
                clear hbz hT2 hp2 he2 hrow2 hsl
                go_wp2_with fail
                refine Calls.mono (sameAll_c (bs.take k) hlen HSTS.out lv2 _ _ HVZ.out.2.1 (HVZ.out.1.cut k HKN.out.2 c')) ?_
                rintro e wy ⟨rfl, hby⟩
                have HF := HVZ.out.2.2.trans (hby.mono HVZ.out.2.2.size)
                clear hby
                go_wp2
                go_ret
                exact ⟨rfl, HF⟩
        · have qb : (ct : Int) < cut := by omega
          clear hcut hct
          go_wp2
          go_loopw [10, 11] (fun a z wr => ∃ (k sz : Nat), k ≤ n ∧ a = .int .i64 (k : Int) ∧ z = .int .i64 (sz : Int) ∧ sz = (fl.take k).flatten.length ∧ sz ≤ ct ∧ wr = wB) (fun a _ _ => n - (intOf a).toNat)
          case atStart => exact ⟨0, 0, Nat.zero_le _, rfl, rfl, rfl, Nat.zero_le _, rfl⟩
          case round =>
            obtain ⟨k, sz, hk, rfl, rfl, hsz, hsc, hwr⟩ := hrel
            subst hwr
            have HSZ : Hid (sz = (fl.take k).flatten.length) := hsz
            clear hsz
            by_cases hgo : ∃ f, fl[k]? = some f ∧ sz + f.length ≤ ct
            · obtain ⟨f, hf, hfc⟩ := hgo
              have hlt : k < n := by have := (List.getElem?_eq_some_iff.1 hf).1; have := HN.out.1; omega
              have q1 : (k : Int) < (n : Int) := by omega
              obtain ⟨g, rfl, d0⟩ := HFC.out k f hf
              obtain ⟨fb, hfb⟩ : ∃ fb, fb = Go.Proofs.YtipekiknmgbdgaaGreatDoor.bs f := ⟨_, rfl⟩
              rw [← hfb] at d0
              have hfs : fb.size = f.length := by rw [hfb, bs_size]
              obtain ⟨z2, hz2⟩ : ∃ z2 : Nat, z2 = sz + fb.size := ⟨_, rfl⟩
              have hct2 : ct ≤ 17192452096 := HALL.out.2.2
              have hz4 : z2 ≤ ct := by rw [hz2, hfs]; exact hfc
              have e2 : wrap64 ((sz : Int) + (fb.size : Int)) = (z2 : Int) := arS hz2 (Nat.le_trans hz4 (Nat.le_trans hct2 (by decide)))
              have q2 : (z2 : Int) ≤ (ct : Int) := Int.ofNat_le.2 hz4
              have HZ2 : Hid (z2 = (fl.take (k + 1)).flatten.length) := by show _ = _; rw [flat_take hf, List.length_append, ← HSZ.out, hz2, hfs]
              have hz3 : z2 ≤ ct := hz4
              have a1 : (k : Int) + 1 ≤ 9223372036854775807 := arT hlt hn20
              clear hf hfb hfc hz2 hfs hz4 hct2
              go_wp2
              go_roundw
              case rel => exact ⟨k + 1, z2, hlt, by first | go_num | (rw [arW a1]; go_num), by first | rfl | rw [e2], HZ2.out, hz3, trivial⟩
              case measure =>
                simp only [intOf]
                first | exact arJ hlt | (rw [arW a1]; exact arJ hlt)
            · have HEND : Hid (k < bs.length → ∀ f, (Jn.fms bs)[k]? = some f → ct < ((Jn.fms bs).take k).flatten.length + f.length) := fun _ f hf => by
                rw [← HFL.out.1] at hf ⊢
                rw [← HSZ.out]
                refine Nat.lt_of_not_le fun h => hgo ⟨f, hf, h⟩
              obtain ⟨s2, hs2⟩ : ∃ s2, s2 = Go.Proofs.YtipekiknmgbdgaaGreatDoor.bs (fl.flatten.take ct) := ⟨_, rfl⟩
              have hsl : ∀ wx, (Instr.slice 9 (.string ab) none (some (.int .i64 (ct : Int))) none).run Tryz.prog wx = .ok (.string s2) wx := fun wx => by
                rw [run_slice_string_to_if (P := Tryz.prog) wx 9 ab .i64 (ct : Int) Tryz.underlying9, if_pos ⟨by omega, by omega⟩, Int.toNat_natCast]
                have e : ab.extract 0 ct = s2 := by
                  rw [hs2, HALL.out.1]
                  refine Jn.ba_ext ?_
                  rw [Jn.ext_list]
                  rfl
                rw [e]
              have HFRS : Hid (Jn.frs s2 = (bs.take k).map Jn.btext ∧ s2.size ≤ 140737488351232) := by
                refine ⟨?_, ?_⟩
                · rw [hs2, HFL.out.1]
                  refine Jn.torn bs ct k (by have := HN.out.2.1; omega) (by rw [← HFL.out.1, ← HSZ.out]; exact hsc) HEND.out
                · rw [hs2, bs_size, List.length_take]
                  have := HFL.out.2.2.2.1
                  omega
              have HTOT : Hid (Jn.total ((bs.take k).map Jn.btext) = sz) := by show _ = _; rw [Jn.total_fms, Jn.fms_take, ← HFL.out.1, ← HSZ.out]
              have HTP : Hid (Jn.Took ((bs.take k).map Jn.btext) (bs.take k)) := by have h := HTK.out.pre k; rw [← List.map_take] at h; exact h
              have HKN : Hid (k ≤ n ∧ k ≤ bs.length) := ⟨hk, by have := HN.out.2.1; omega⟩
              clear hs2
              by_cases hkn : k < n
              · have q1 : (k : Int) < (n : Int) := by omega
                obtain ⟨f, hf⟩ : ∃ f, fl[k]? = some f := ⟨_, List.getElem?_eq_getElem (by rw [← HN.out.1]; exact hkn)⟩
                obtain ⟨g, rfl, d0⟩ := HFC.out k f hf
                obtain ⟨fb, hfb⟩ : ∃ fb, fb = Go.Proofs.YtipekiknmgbdgaaGreatDoor.bs f := ⟨_, rfl⟩
                rw [← hfb] at d0
                have hfs : fb.size = f.length := by rw [hfb, bs_size]
                have hf2 := HFL.out.2.2.1 f (List.mem_of_getElem? hf)
                obtain ⟨z2, hz2⟩ : ∃ z2 : Nat, z2 = sz + fb.size := ⟨_, rfl⟩
                have hct := HALL.out.2.2
                have e2 : wrap64 ((sz : Int) + (fb.size : Int)) = (z2 : Int) := arS hz2 (arU hz2 hfs hf2 (Nat.le_trans hsc hct))
                have q2 : ¬ (z2 : Int) ≤ (ct : Int) := fun h => hgo ⟨f, hf, by rw [← hfs, ← hz2]; exact Int.ofNat_le.1 h⟩
                clear hf hfb hz2 hfs hf2 hct hgo
                go_wp2_with fail
                refine Calls.mono (scan_c s2 HFRS.out.2 _ (HU.out _ HB2.out) (HK.out _ HB2.out)) ?_
                rintro e wz ⟨hbz, ts2, bs2, lv2, hT2, hp2, he2, rfl, hrow2⟩
                rw [HFRS.out.1] at hp2 he2
                obtain ⟨e1, e3⟩ := Jn.again HTP.out hT2 hp2 he2
                subst e1 e3
                have HVZ : Hid (BV wz (.slice oa n oc) bs ∧ BV wz lv2 (bs.take k) ∧ Below w.heap.size w wz) := ⟨HBV.out.call hbz, BV.of hrow2, HB2.out.trans (hbz.mono HB2.out.size)⟩
                rw [HTOT.out]
                have HSTS : Hid (∀ b ∈ bs.take k, b.sts.length ≤ 1048576) := fun b hb => by
                  obtain ⟨i, hi⟩ := List.mem_iff_getElem?.1 hb
                  have h1 := (HTP.out.at i b hi).1
                  have h2 := Jn.berr_seq h1
                  omega
                have qs : ((sz : Int) == (sz : Int)) = true := beq_self_eq_true _
                obtain ⟨c', hsb⟩ := SLB.out k hk
                have hlen : (bs.take k).length ≤ 140737488355328 := by rw [List.length_take]; omega
                clear hbz hT2 hp2 he2 hrow2 hsl
                go_wp2_with fail
                refine Calls.mono (sameAll_c (bs.take k) hlen HSTS.out lv2 _ _ HVZ.out.2.1 (HVZ.out.1.cut k HKN.out.2 c')) ?_
                rintro e wy ⟨rfl, hby⟩
                have HF := HVZ.out.2.2.trans (hby.mono HVZ.out.2.2.size)
                clear hby
                go_wp2
                go_ret
                exact ⟨rfl, HF⟩
              · have q1 : ¬ (k : Int) < (n : Int) := by omega
                clear hgo
                go_wp2_with fail
                refine Calls.mono (scan_c s2 HFRS.out.2 _ (HU.out _ HB2.out) (HK.out _ HB2.out)) ?_
                rintro e wz ⟨hbz, ts2, bs2, lv2, hT2, hp2, he2, rfl, hrow2⟩
                rw [HFRS.out.1] at hp2 he2
                obtain ⟨e1, e3⟩ := Jn.again HTP.out hT2 hp2 he2
                subst e1 e3
                have HVZ : Hid (BV wz (.slice oa n oc) bs ∧ BV wz lv2 (bs.take k) ∧ Below w.heap.size w wz) := ⟨HBV.out.call hbz, BV.of hrow2, HB2.out.trans (hbz.mono HB2.out.size)⟩
                rw [HTOT.out]
                have HSTS : Hid (∀ b ∈ bs.take k, b.sts.length ≤ 1048576) := fun b hb => by
                  obtain ⟨i, hi⟩ := List.mem_iff_getElem?.1 hb
                  have h1 := (HTP.out.at i b hi).1
                  have h2 := Jn.berr_seq h1
                  omega
                have qs : ((sz : Int) == (sz : Int)) = true := beq_self_eq_true _
                obtain ⟨c', hsb⟩ := SLB.out k hk
                have hlen : (bs.take k).length ≤ 140737488355328 := by rw [List.length_take]; omega
                clear hbz hT2 hp2 he2 hrow2 hsl
                go_wp2_with fail
                refine Calls.mono (sameAll_c (bs.take k) hlen HSTS.out lv2 _ _ HVZ.out.2.1 (HVZ.out.1.cut k HKN.out.2 c')) ?_
                rintro e wy ⟨rfl, hby⟩
                have HF := HVZ.out.2.2.trans (hby.mono HVZ.out.2.2.size)
                clear hby
                go_wp2
                go_ret
                exact ⟨rfl, HF⟩
end Go.Proofs.YtipekiknmgbdgaaGreatDoor
/- Lists of revisions handed in, opened. -/
namespace Go.Proofs.YtipekiknmgbdgaaGreatDoor
open Go.ChangeShapes Go.WideShapes Go.ChangeAt Go.RowKit
open Vl (V)
theorem cellsRevs : Tryz.prog.cellsOf 24 = 1 := by kernel_rfl
theorem bulk_pos {H : Type} : ∀ d : DataW H, 1 ≤ Rows.uptoBulk d := by
  intro d
  cases d with
  | lit l => cases l <;> simp [Rows.uptoBulk]
  | nil => simp [Rows.uptoBulk]
  | ptr d => simp [Rows.uptoBulk]
  | slice e s => simp [Rows.uptoBulk]
  | agg p => simp [Rows.uptoBulk]
  | iface t d => simp [Rows.uptoBulk]
  | map e => simp [Rows.uptoBulk]
  | held h => simp [Rows.uptoBulk]
theorem bulk_len {H : Type} : ∀ l : List (DataW H), l.length ≤ Rows.uptoBulkAll l
  | [] => Nat.zero_le _
  | d :: l => by
    have h1 := bulk_pos d
    have h2 := bulk_len l
    rw [Rows.uptoBulkAll, List.length_cons]
    omega
set_option maxRecDepth 100000 in
theorem open_revss {H : Type} {enc : TypeId × Value → H} {W : World} {r : Reach} {b0 base : Nat} {sp : Nat → Bool} {held : Bool} {v : Value} {d : DataW H} {p : List MemPlace}
    (hv : Value.okWide Tryz.prog W r b0 36 v) (h : DataW.Trod enc Tryz.prog W base sp held 36 v d p) : ∃ ll : List (List Jn.R), LL W v ll ∧ ll.length ≤ Rows.uptoBulk d := by
  obtain ⟨a0, len0, cap0, rfl⟩ := okWide_slice Tryz.underlying36 hv
  obtain ⟨fuel, hf⟩ := h
  rcases DataW.trod_slice Tryz.underlying36 hf with ⟨hc, _⟩ | ⟨a, len, cap, elems, rest, q, hq, hc, hx, _, hlc, hcm, hel, he, _, _⟩
  · simp [Value.cells] at hc
    obtain ⟨rfl, rfl, rfl⟩ := hc
    exact ⟨[], ⟨none, 0, rfl, fun h => by simp at h⟩, Nat.zero_le _⟩
  · simp [Value.cells] at hc
    obtain ⟨rfl, rfl, rfl⟩ := hc
    rw [cellsRevs] at he
    have hbk : len0 ≤ Rows.uptoBulk d := by
      have hd : d = .slice (elems.map (·.1)) (rest.map (·.1)) := (Prod.mk.inj hx).1
      have h1 := bulk_len (elems.map (·.1))
      rw [List.length_map, hel] at h1
      rw [hd, Rows.uptoBulk]
      omega
    have key : ∀ i, i < len0 → ∃ cs', W.cells? base (a.add (i * 1)) 1 = some cs' ∧ ∃ y, DataW.trod enc Tryz.prog W base sp held q 24 cs' = some y := fun i hi => by
      have h1 := he i hi
      rw [List.getElem?_eq_getElem (by omega)] at h1
      obtain ⟨cs', h2, h3⟩ := Option.bind_eq_some_iff.1 h1
      exact ⟨cs', h2, _, h3⟩
    by_cases hlen : 0 < len0
    · obtain ⟨cs0, hc0, _⟩ := key 0 hlen
      rw [Nat.zero_mul] at hc0
      obtain ⟨g, o, rfl, hg⟩ := spot_none hc0 (by omega)
      have part : ∀ i, i < len0 → ∃ revs : List Jn.R, ∃ ra rn rc, W.cell? ⟨g, o + i, none⟩ = some (.slice ra rn rc) ∧ RV1 W W.heap.size ra rn revs := fun i hi => by
        obtain ⟨cs', h2, y, h3⟩ := key i hi
        obtain ⟨_, hl1, hcell⟩ := World.cells?_some h2
        rw [Addr.add_mid] at hcell
        obtain ⟨x, rfl⟩ : ∃ x, cs' = [x] := by
          match cs', hl1 with
          | [x], _ => exact ⟨x, rfl⟩
        obtain ⟨l, ao, lc, rfl, k1, k2⟩ := open_revs h3
        have h4 := hcell 0 (by omega)
        rw [Addr.add_mid, Nat.mul_one, Nat.add_zero] at h4
        exact ⟨l, ao, l.length, lc, h4, rfl, k1, k2⟩
      obtain ⟨l, hll, hp⟩ := gather len0 part
      subst hll
      exact ⟨l, ⟨_, _, rfl, fun _ => ⟨g, o, rfl, hg, hp⟩⟩, hbk⟩
    · have h0 : len0 = 0 := by omega
      subst h0
      exact ⟨[], ⟨_, _, rfl, fun h => by simp at h⟩, Nat.zero_le _⟩
end Go.Proofs.YtipekiknmgbdgaaGreatDoor
