/- Several texts, joined: MkAs, JnCp, JnCq -/
import Derived.Test.YtggnfejjcgbebaaGreatDoorJIM
import Derived.Test.YtggnfejjcgbebaaGreatDoorJMM
import Derived.Deep.Upon
import Derived.Test.YtggnfejjcgbebaaGreatDoorXAM
import Derived.Test.YtggnfejjcgbebaaGreatDoorQGM
/- Texts that lie anywhere, appended to a row of the call's own. -/
namespace Go.Proofs.YtggnfejjcgbebaaGreatDoor
open Go.RowKit
theorem info9s : (Tryz.prog.info? 9).map (fun i => (i.zero, i.size, i.bytes)) = some (some (.string ⟨#[]⟩), 1, 16) := by kernel_rfl
theorem append_nothing (ao : Option Addr) (cap : Nat) (W : World) (b : Option Addr) (n c : Nat) (hnc : n ≤ c) (ty : TypeId) : (Builtin.append_ #[23, 23] ty #[.slice b n c, .slice ao 0 cap]).run Tryz.prog W = .ok (.slice b n c) W := by
  obtain ⟨i0, hi, hz0, hz1, hz2⟩ := info_parts info9s
  refine run_append_nothing W 23 23 ty 9 i0 Tryz.underlying23 hi _ n c hnc _ ⟨Or.inl ⟨9, Tryz.underlying23⟩, fun w' => ?_, ?_, ?_, by simp, fun u hu => by cases hu⟩
  · simp [Builtin.lenOf]
  · cases ao <;> simp [Builtin.firstCells, loadCells, loadCellsFrom]
  · cases ao <;> simp [Builtin.firstCells, loadCells, loadCellsFrom]
/-- texts that lie anywhere, appended to a row of the call's own -/
theorem wp_append_sl {o : Oper} {a : Act} {w : World} {K : Act → World → Prop} {Q : Exit → Act → World → Prop} (s x : Operand)
    (ho : o.op = .call { callee := .builtin .append, args := #[s, x], argTypes := #[23, 23] }) (base : Nat) (v : Value) (n : Nat) (don : List (List UInt8)) (hs : a.eval s = v) (hown : w.ownsRow base 9 1 v n (scs don))
    (xa : Option Addr) (m c : Nat) (H : Nat) (l : List (List UInt8)) (hx : a.eval x = .slice xa m c) (hS : Sl w H (.slice xa m c) l) (h63 : n + m ≤ 1048576) (hbase : base ≤ w.heap.size)
    (h : ∀ v' w', w'.ownsRow base 9 1 v' (n + m) (scs (don ++ l)) → Below base w w' → K (a.put o.dst v') w') : o.wp Tryz.prog a w K Q := by
  obtain ⟨i0, hi, hz0, hz1, hz2⟩ := info_parts info9s
  rcases Nat.eq_zero_or_pos l.length with h0 | h0
  · have hl : l = [] := List.eq_nil_of_length_eq_zero h0
    subst hl
    have hm : m = 0 := hS.len
    subst hm
    obtain ⟨b, k, hv, hbk⟩ : ∃ b k, v = .slice b n k ∧ n ≤ k := by
      rcases hown.2 with ⟨e, e0⟩ | ⟨g, cap, cur, e, _, _, e4, _⟩
      · subst e0; exact ⟨_, _, e, Nat.le_refl _⟩
      · exact ⟨_, _, e, e4⟩
    have hrun := append_nothing xa c w b n k hbk o.type
    have hk := h v w (by simpa using hown) (Below.refl _ _)
    subst hv
    unfold Oper.wp execOp
    simp only [ho, resolve, invoke, builtin, Sem.run_bind, Sem.run_pure, Result.andThen_ok, List.map_toArray, List.map_cons, List.map_nil, hs, hx, hrun]
    exact hk
  · obtain ⟨b, off, rfl, hm, hb, hc⟩ := hS.at h0
    subst hm
    refine wp_append_own (P := Tryz.prog) w s x 23 ho base 9 i0 (.string ⟨#[]⟩) 1 16 Tryz.underlying23 hi hz0 hz1 hz2 rfl (by decide) v n (scs don) hs hown ⟨b, off, none⟩ l.length c (scs l) hx (by rw [scs_length]; omega) ?_ ?_ (by unfold maxLen; omega) (by omega) hbase ?_
    · intro j u hj
      simp only [scs, List.getElem?_map, Option.map_eq_some_iff] at hj
      obtain ⟨y, hy, rfl⟩ := hj
      have := hc j y hy
      rw [Go.WideShapes.add_plain]; exact this
    · intro u hu
      obtain ⟨y, _, rfl⟩ := List.mem_map.1 hu
      rfl
    · intro v' w' h1 h2 _
      exact h v' w' (by have e : scs (don ++ l) = scs don ++ scs l := by simp [scs]
                        rw [e]; exact h1) ((Below.refl base w).grown h2 hbase (own_le hown))
theorem wpList_append_sl {ops : Array Oper} {rest : List Oper} {o : Oper} {a : Act} {w : World} {Q : Exit → Act → World → Prop} (hgd : o.guard = none) (s x : Operand)
    (ho : o.op = .call { callee := .builtin .append, args := #[s, x], argTypes := #[23, 23] }) (base : Nat) (v : Value) (n : Nat) (don : List (List UInt8)) (hs : a.eval s = v) (hown : w.ownsRow base 9 1 v n (scs don))
    (xa : Option Addr) (m c : Nat) (H : Nat) (l : List (List UInt8)) (hx : a.eval x = .slice xa m c) (hS : Sl w H (.slice xa m c) l) (h63 : n + m ≤ 1048576) (hbase : base ≤ w.heap.size)
    (h : ∀ v' w', w'.ownsRow base 9 1 v' (n + m) (scs (don ++ l)) → Below base w w' → wpList Tryz.prog ops Q rest (a.put o.dst v') w') : wpList Tryz.prog ops Q (o :: rest) a w :=
  wpList_plain hgd fun _ hK => wp_append_sl s x ho base v n don hs hown xa m c H l hx hS h63 hbase fun v' w' h1 h2 => hK _ _ (h v' w' h1 h2)
theorem own_empty (w : World) : (w.alloc (.cells #[] 9)).ownsRow w.heap.size 9 1 (.slice (some ⟨w.heap.size, 0, none⟩) 0 0) 0 (scs []) :=
  ⟨rfl, .inr ⟨w.heap.size, 0, #[], rfl, Nat.le_refl _, heap_alloc_new w _, Nat.le_refl _, by decide, rfl, rfl⟩⟩
end Go.Proofs.YtggnfejjcgbebaaGreatDoor
/- The document's Copy of revisions, and of a block. -/
namespace Go.Proofs.YtggnfejjcgbebaaGreatDoor
open Go.RowKit
open Vl (V)
/-- revisions that were copied so far -/
structure CRS (w W : World) (rs : List Jn.R) (lv : Value) : Prop where
  below : Below w.heap.size w W
  row : ∃ cs, W.ownsRow w.heap.size 34 10 lv rs.length cs ∧ KeptR W w.heap.size lv cs rs
theorem CRS.call {w W W' : World} {rs : List Jn.R} {lv : Value} (h : CRS w W rs lv) (hb : Below W.heap.size W W') : CRS w W' rs lv :=
  ⟨h.below.trans (hb.mono h.below.size), h.row.imp fun _ hc => ⟨own_call hc.1 hb, hc.2.call hb⟩⟩
theorem CRS.next {w W W3 W4 W5 : World} {rs : List Jn.R} {lv : Value} {gg cap : Nat} {r : Jn.R} {c4 c5 c6 c7 c8 c9 : Value} {cs : List Value} (h : CRS w W rs lv) (h3 : Below W.heap.size W W3) (h4 : Below W3.heap.size W3 W4)
    (ho : W.ownsRow w.heap.size 34 10 lv rs.length cs) (hk : KeptR W w.heap.size lv cs rs) (hr : RepA W3 (fun g => W.heap.size ≤ g ∧ g < W3.heap.size) r.val (.agg #[c4, c5, c6, c7, c8, c9])) (ok : Jn.Fits r)
    (hg : W4.grownBy W5 lv.ownBlock) (hat : lv.ownBlock = some gg ∨ gg = W4.heap.size) (hn : W5.ownsRow w.heap.size 34 10 (.slice (some ⟨gg, 0, none⟩) (rs.length + 1) cap) (rs.length + 1) (cs ++ RC r c4 c5 c6 c7 c8 c9)) :
    CRS w W5 (rs ++ [r]) (.slice (some ⟨gg, 0, none⟩) (rs.length + 1) cap) := by
  have hb : Below W.heap.size W W4 := h3.trans (h4.mono h3.size)
  have hs := h.below.size
  have hs4 := hb.size
  have hb5 : Below w.heap.size W4 W5 := (Below.refl _ _).grown hg (by omega) (fun k hk => (own_in ho k hk).1)
  refine ⟨(h.below.trans (hb.mono h.below.size)).trans hb5, cs ++ RC r c4 c5 c6 c7 c8 c9, by rw [List.length_append]; exact hn, ?_⟩
  have hle : ∀ k, lv.ownBlock = some k → k < W.heap.size := fun k hk => (own_in ho k hk).2
  have b3 := h3.size
  have b4 := h4.size
  have b5 := hg.size
  have move : ∀ g, Apart w.heap.size lv W3 g → W5.heap[g]? = W3.heap[g]? ∧ Apart w.heap.size (.slice (some ⟨gg, 0, none⟩) (rs.length + 1) cap) W5 g := by
    rintro g ⟨hg1, hg2, hg3⟩
    refine ⟨?_, hg1, ?_, ?_⟩
    · rw [hg.block g (by omega) (fun q => hg3 q.symm), h4.block g hg2]
    · omega
    · show some gg ≠ some g
      rcases hat with h1 | rfl
      · rw [← h1]; exact hg3
      · intro q; simp at q; omega
  have k3 : KeptR W3 w.heap.size lv (cs ++ RC r c4 c5 c6 c7 c8 c9) (rs ++ [r]) := (hk.call h3).more (repA_stays (fun _ _ => rfl) (fun g hg' => ⟨by omega, hg'.2, fun q => by have := hle g q; omega⟩) _ _ hr) ok
  exact k3.step move
theorem setsV6 (W : World) (B : Nat) (v0 v1 v2 v3 v4 v5 : Value) : ((((((W.setCell ⟨B, 4, none⟩ v0).setCell ⟨B, 5, none⟩ v1).setCell ⟨B, 6, none⟩ v2).setCell ⟨B, 7, none⟩ v3).setCell ⟨B, 8, none⟩ v4).setCell ⟨B, 9, none⟩ v5) = W.setCells B 4 [v0, v1, v2, v3, v4, v5] := rfl
theorem putV6 {W : World} {g : Nat} {t : TypeId} {a0 a1 a2 a3 z0 z1 z2 z3 z4 z5 : Value} (h : W.heap[g]? = some (.cells #[a0, a1, a2, a3, z0, z1, z2, z3, z4, z5] t (0, 0))) (b0 b1 b2 b3 b4 b5 : Value) : (W.setCells g 4 [b0, b1, b2, b3, b4, b5]).heap[g]? = some (.cells #[a0, a1, a2, a3, b0, b1, b2, b3, b4, b5] t (0, 0)) := by
  have h1 := heap_setCells_put g t [b0, b1, b2, b3, b4, b5] 4 W _ h
  rw [h1]
  simp [putAll]
set_option maxHeartbeats 16000000 in
set_option maxRecDepth 100000 in
theorem copyRevs_c (rs : List Jn.R) (ra : Option Addr) (rn rc : Nat) (w : World) (hn : rn = rs.length) (hl : rn * 120 ≤ 140737488351232) (hs : ∀ r ∈ rs, Vl.small r.val)
    (hR : 0 < rn → ∃ g o, ra = some ⟨g, o, none⟩ ∧ g < w.heap.size ∧ ∀ i r, rs[i]? = some r → RevAt w w.heap.size g (o + i * 10) r) :
    Calls Tryz.prog 76 #[.slice ra rn rc] w fun e w' => ∃ lv, e = .returned lv ∧ CRS w w' rs lv := by
  have HN : Hid (rn = rs.length) := hn
  have HR : Hid (0 < rn → ∃ g o, ra = some ⟨g, o, none⟩ ∧ g < w.heap.size ∧ ∀ i r, rs[i]? = some r → RevAt w w.heap.size g (o + i * 10) r) := hR
  have HS : Hid (∀ r ∈ rs, Vl.small r.val) := hs
  obtain ⟨ir, hir, hr0, hr1, hr2⟩ := info_parts infoRev3
  clear hR hs hn
  go_enter Tryz.func76, Tryz.ntmps76
  go_wp2
  go_loopw [3, 8] (fun o i wr => ∃ (j : Nat) (lv : Value), j ≤ rn ∧ lv = o ∧ i = .int .i64 j ∧ CRS w wr (rs.take j) lv) (fun _ i _ => rn - (intOf i).toNat)
  case atStart => exact ⟨0, _, Nat.zero_le _, rfl, rfl, Below.refl _ _, [], by rw [List.take_zero]; exact World.ownsRow_nil _ _ _ _, by rw [List.take_zero]; exact KeptR.none _ _ _⟩
  case round =>
    obtain ⟨j, lv, hj, hlv, rfl, hS⟩ := hrel
    subst hlv
    have S : Hid (CRS w wr (rs.take j) lv) := hS
    clear hS
    by_cases hlt : j < rn
    · have ha : j < rs.length := by rw [← HN.out]; exact hlt
      have HLJ : Hid ((rs.take j).length = j) := by show _ = _; rw [List.length_take]; omega
      obtain ⟨g, o, rfl, hg, hr⟩ := HR.out (by omega)
      obtain ⟨r, hx⟩ : ∃ r, rs[j]? = some r := ⟨_, List.getElem?_eq_getElem ha⟩
      have hrx := (hr j r hx).stays S.out.below hg (Nat.le_refl _)
      obtain ⟨xk, xb, xn, xs, xa, xl, xc, ya, yl, yc, d0, d1, d2, d3, d4, d5, d6, d7, d8, d9, hrp, -, hf⟩ := hrx
      have HX : Hid (rs[j]? = some r) := hx
      have HF : Hid (Jn.Fits r) := hf
      have HRP : Hid (Rep wr w.heap.size r.val (.agg #[.int .u8 (xk : Int), .bool xb, .int .i64 xn, .string xs, .slice xa xl xc, .slice ya yl yc])) := hrp
      clear hr hx hrp hf ha
      go_upto_region 5 with fail
      obtain ⟨w2, hw2⟩ : ∃ w2, w2 = wr.alloc (.cells #[.int .u8 (r.kind : Int), .string r.table, .int .u64 (r.doc : Int), .int .u64 (r.ver : Int), .int .u8 (xk : Int), .bool xb, .int .i64 xn, .string xs, .slice xa xl xc, .slice ya yl yc] 34) := ⟨_, rfl⟩
      obtain ⟨B, hB⟩ : ∃ B, B = wr.heap.size := ⟨_, rfl⟩
      have hb2 : Below wr.heap.size wr w2 := by rw [hw2]; exact below_new _ _
      have HB2 : Hid (Below wr.heap.size wr w2 ∧ w2.heap.size = wr.heap.size + 1 ∧ B = wr.heap.size) := ⟨hb2, by rw [hw2]; simp, hB⟩
      have HBX : Hid (w2.heap[B]? = some (.cells #[.int .u8 (r.kind : Int), .string r.table, .int .u64 (r.doc : Int), .int .u64 (r.ver : Int), .int .u8 (xk : Int), .bool xb, .int .i64 xn, .string xs, .slice xa xl xc, .slice ya yl yc] 34 (0, 0))) := by
        rw [hw2, hB]; exact heap_alloc_new wr _
      have C9 : Hid (Calls Tryz.prog 101 #[.agg #[.int .u8 (xk : Int), .bool xb, .int .i64 xn, .string xs, .slice xa xl xc, .slice ya yl yc]] w2 fun e w' => ∃ (zk : Nat) (zb : Bool) (zn : Int) (zs : ByteArray) (za : Option Addr) (zl zc : Nat) (ta : Option Addr) (tl tc : Nat), e = .returned (.agg #[.int .u8 (zk : Int), .bool zb, .int .i64 zn, .string zs, .slice za zl zc, .slice ta tl tc]) ∧ Below w2.heap.size w2 w' ∧ RepA w' (fun g => w2.heap.size ≤ g ∧ g < w'.heap.size) r.val (.agg #[.int .u8 (zk : Int), .bool zb, .int .i64 zn, .string zs, .slice za zl zc, .slice ta tl tc])) := by
        have h1 := S.out.below.size
        have h2 := hb2.size
        refine (copy9 _ r.val (Nat.le_refl _) (HS.out r (List.mem_of_getElem? HX.out)) w2 w.heap.size _ (by omega) (rep_stays (hb2.mono h1) (Nat.le_refl _) _ _ HRP.out)).mono ?_
        rintro e w' ⟨v', rfl, hb, hr⟩
        obtain ⟨zk, zb, zn, zs, za, zl, zc, ta, tl, tc, rfl⟩ := repA_form hr
        exact ⟨zk, zb, zn, zs, za, zl, zc, ta, tl, tc, rfl, hb, hr⟩
      rw [← hw2, ← hB]
      clear hw2 hB hb2 d0 d1 d2 d3 d4 d5 d6 d7 d8 d9 HRP
      have p4 := block_cells HBX.out 4 _ rfl
      have p5 := block_cells HBX.out 5 _ rfl
      have p6 := block_cells HBX.out 6 _ rfl
      have p7 := block_cells HBX.out 7 _ rfl
      have p8 := block_cells HBX.out 8 _ rfl
      have p9 := block_cells HBX.out 9 _ rfl
      go_wp2_with fail
      refine C9.out.mono ?_
      rintro e w3 ⟨zk, zb, zn, zs, za, zl, zc, ta, tl, tc, rfl, hb3, hr3⟩
      have HB3 : Hid (Below w2.heap.size w2 w3) := hb3
      have HR3 : Hid (RepA w3 (fun g => w2.heap.size ≤ g ∧ g < w3.heap.size) r.val (.agg #[.int .u8 (zk : Int), .bool zb, .int .i64 zn, .string zs, .slice za zl zc, .slice ta tl tc])) := hr3
      have HBX3 : Hid (w3.heap[B]? = some (.cells #[.int .u8 (r.kind : Int), .string r.table, .int .u64 (r.doc : Int), .int .u64 (r.ver : Int), .int .u8 (xk : Int), .bool xb, .int .i64 xn, .string xs, .slice xa xl xc, .slice ya yl yc] 34 (0, 0))) := blk_call HBX.out hb3
      clear hb3 hr3 p4 p5 p6 p7 p8 p9 C9
      have fz := row_freeV HBX3.out
      have p4 := block_cells HBX3.out 4 _ rfl
      have p5 := block_cells HBX3.out 5 _ rfl
      have p6 := block_cells HBX3.out 6 _ rfl
      have p7 := block_cells HBX3.out 7 _ rfl
      have p8 := block_cells HBX3.out 8 _ rfl
      have p9 := block_cells HBX3.out 9 _ rfl
      go_upto_region 6 with fail
      rw [setsV6]
      obtain ⟨w4, hw4⟩ : ∃ w4, w4 = w3.setCells B 4 [.int .u8 (zk : Int), .bool zb, .int .i64 zn, .string zs, .slice za zl zc, .slice ta tl tc] := ⟨_, rfl⟩
      have HW4 : Hid (Below wr.heap.size wr w4 ∧ w4.heap.size = w3.heap.size ∧ ∀ g, g ≠ B → w4.heap[g]? = w3.heap[g]?) := by
        have h2 := HB2.out
        refine ⟨?_, by rw [hw4, size_setCellsV'], fun g hg => by rw [hw4]; exact heap_setCells_neV _ g hg _ _ _⟩
        rw [hw4]
        exact below_setCellsV (by omega) _ _ (h2.1.trans (HB3.out.mono (by omega)))
      have HR4 : Hid (RepA w4 (fun g => wr.heap.size ≤ g ∧ g < w4.heap.size) r.val (.agg #[.int .u8 (zk : Int), .bool zb, .int .i64 zn, .string zs, .slice za zl zc, .slice ta tl tc])) := by
        have h2 := HB2.out
        have h4 := HW4.out
        exact repA_stays (fun g hg => h4.2.2 g (by omega)) (fun g hg => ⟨by omega, by omega⟩) _ _ HR3.out
      have HBX4 : Hid (w4.heap[B]? = some (.cells #[.int .u8 (r.kind : Int), .string r.table, .int .u64 (r.doc : Int), .int .u64 (r.ver : Int), .int .u8 (zk : Int), .bool zb, .int .i64 zn, .string zs, .slice za zl zc, .slice ta tl tc] 34 (0, 0))) := by
        rw [hw4]; exact putV6 HBX3.out _ _ _ _ _ _
      rw [← hw4]
      clear hw4 fz p4 p5 p6 p7 p8 p9 HBX3
      obtain ⟨cs, hown, hkp⟩ := S.out.row
      have HOW0 : Hid (wr.ownsRow w.heap.size 34 10 lv (rs.take j).length cs ∧ KeptR wr w.heap.size lv cs (rs.take j)) := ⟨hown, hkp⟩
      rw [HLJ.out] at hown
      have HOWN : Hid (w4.ownsRow w.heap.size 34 10 lv j cs) := own_call hown HW4.out.1
      have HNX : Hid (∀ gg cap w5, (w4.alloc (.cells #[.int .u8 (r.kind : Int), .string r.table, .int .u64 (r.doc : Int), .int .u64 (r.ver : Int), .int .u8 (zk : Int), .bool zb, .int .i64 zn, .string zs, .slice za zl zc, .slice ta tl tc] 34)).grownBy w5 lv.ownBlock → (lv.ownBlock = some gg ∨ gg = (w4.alloc (.cells #[.int .u8 (r.kind : Int), .string r.table, .int .u64 (r.doc : Int), .int .u64 (r.ver : Int), .int .u8 (zk : Int), .bool zb, .int .i64 zn, .string zs, .slice za zl zc, .slice ta tl tc] 34)).heap.size) → w5.ownsRow w.heap.size 34 10 (.slice (some ⟨gg, 0, none⟩) (j + 1) cap) (j + 1) (cs ++ [.int .u8 (r.kind : Int), .string r.table, .int .u64 (r.doc : Int), .int .u64 (r.ver : Int), .int .u8 (zk : Int), .bool zb, .int .i64 zn, .string zs, .slice za zl zc, .slice ta tl tc]) → CRS w w5 (rs.take (j + 1)) (.slice (some ⟨gg, 0, none⟩) (j + 1) cap)) := by
        intro gg cap w5 hgr hat hno
        have h := CRS.next (gg := gg) (cap := cap) (r := r) S.out HW4.out.1 (below_new w4 _) HOW0.out.1 HOW0.out.2 HR4.out HF.out hgr hat (by rw [HLJ.out]; exact hno)
        rw [HLJ.out] at h
        rw [List.take_add_one, HX.out]
        exact h
      clear hown hkp
      have p0 := block_cells HBX4.out 0 _ rfl
      have p1 := block_cells HBX4.out 1 _ rfl
      have p2 := block_cells HBX4.out 2 _ rfl
      have p3 := block_cells HBX4.out 3 _ rfl
      have p4 := block_cells HBX4.out 4 _ rfl
      have p5 := block_cells HBX4.out 5 _ rfl
      have p6 := block_cells HBX4.out 6 _ rfl
      have p7 := block_cells HBX4.out 7 _ rfl
      have p8 := block_cells HBX4.out 8 _ rfl
      have p9 := block_cells HBX4.out 9 _ rfl
      have fit63 : Hid (j + 1 ≤ maxLen) := by show _ ≤ _; unfold maxLen; omega
      have fit47 : Hid ((j + 1) * 120 ≤ 140737488355328) := by show _ ≤ _; omega
      have HSZ : Hid (w.heap.size ≤ (w4.alloc (.cells #[.int .u8 (r.kind : Int), .string r.table, .int .u64 (r.doc : Int), .int .u64 (r.ver : Int), .int .u8 (zk : Int), .bool zb, .int .i64 zn, .string zs, .slice za zl zc, .slice ta tl tc] 34)).heap.size) := by have := HW4.out.1.size; have := S.out.below.size; show _ ≤ _; simp; omega
      go_wp2_with (first | (at_builtin; refine wpList_append_lies _ rfl _ _ 24 rfl w.heap.size 34 ir _ 10 120 Tryz.underlying24 hir hr0 hr1 hr2 rfl (by decide) _ _ _ rfl (HOWN.out.alloc _) ⟨w4.heap.size, 0, none⟩ 1 1 [.int .u8 (r.kind : Int), .string r.table, .int .u64 (r.doc : Int), .int .u64 (r.ver : Int), .int .u8 (zk : Int), .bool zb, .int .i64 zn, .string zs, .slice za zl zc, .slice ta tl tc] rfl rfl (World.news_of_block (heap_alloc_new w4 _)) (by intro u hu; simp at hu; rcases hu with rfl | rfl | rfl | rfl | rfl | rfl | rfl | rfl | rfl | rfl <;> rfl) (by decide) fit63.out fit47.out HSZ.out _ rfl ?_; intro gg cap w5 hown5 hgrow hat hglt; have S5 : Hid (CRS w w5 (rs.take (j + 1)) (.slice (some ⟨gg, 0, none⟩) (j + 1) cap)) := HNX.out gg cap w5 hgrow hat hown5; clear hown5 hgrow hat hglt))
      go_roundw
      case rel => first | exact ⟨j + 1, _, by omega, rfl, by go_num, S5.out⟩ | ((repeat apply Exists.intro); exact ⟨⟨j + 1, _, by omega, rfl, by go_num, S5.out⟩, rfl⟩)
      case measure => simp [intOf]; omega
    · have hjn : j = rn := by omega
      subst hjn
      have hS := S.out
      rw [List.take_of_length_le (by rw [← HN.out]; exact Nat.le_refl _)] at hS
      go_wp2
      go_ret
      exact ⟨_, rfl, hS⟩
end Go.Proofs.YtggnfejjcgbebaaGreatDoor
/- The document's Copy of a block, its statements too. -/
namespace Go.Proofs.YtggnfejjcgbebaaGreatDoor
open Go.RowKit
open Vl (V)
attribute [local go_sem ↓] Go.wp_at_zero Go.wp_at_succ
theorem own_low {W : World} {B B' n sz : Nat} {t : TypeId} {v : Value} {xs : List Value} (h : W.ownsRow B t sz v n xs) (hb : B' ≤ B) : W.ownsRow B' t sz v n xs := by
  refine ⟨h.1, ?_⟩
  rcases h.2 with h2 | ⟨g, cap, cur, h1, h2, h3⟩
  · exact .inl h2
  · exact .inr ⟨g, cap, cur, h1, Nat.le_trans hb h2, h3⟩
set_option maxHeartbeats 16000000 in
set_option maxRecDepth 100000 in
theorem copyBk_c (b : Jn.B) (sa : Option Addr) (sn sc : Nat) (ra : Option Addr) (rn rc : Nat) (w : World) (hs : b.sts.length ≤ 1048576) (hl : rn * 120 ≤ 140737488351232) (hv : ∀ r ∈ b.revs, Vl.small r.val) (hB : Bk w w.heap.size b sa sn sc ra rn rc) :
    Calls Tryz.prog 35 #[.agg #[.int .u64 (b.seq : Int), .string b.prev, .string b.root, .slice sa sn sc, .slice ra rn rc]] w fun e w' => ∃ (ta : Option Addr) (tc : Nat) (ua : Option Addr) (un uc : Nat), e = .returned (.agg #[.int .u64 (b.seq : Int), .string b.prev, .string b.root, .slice ta sn tc, .slice ua un uc]) ∧ Below w.heap.size w w' ∧ BkN w' w.heap.size b (.slice ta sn tc) (.slice ua un uc) := by
  have HBZ : Hid (Bk w w.heap.size b sa sn sc ra rn rc) := hB
  have hsl := hB.sts.len
  rw [List.length_map] at hsl
  have HSN : Hid (sn = b.sts.length) := hsl
  have HB : Hid (∀ W, Below w.heap.size w W → Bk W W.heap.size b sa sn sc ra rn rc) := fun W hW => hB.stays hW hW.size
  have CR : Hid (∀ W, Below w.heap.size w W → Calls Tryz.prog 76 #[.slice ra rn rc] W fun e w' => ∃ lv, e = .returned lv ∧ CRS W w' b.revs lv) := fun W hW =>
    copyRevs_c b.revs ra rn rc W hB.many hl hv (HB.out W hW).revs
  obtain ⟨w1, hw1⟩ : ∃ w1, w1 = (w.alloc (.cells #[.int .u64 (b.seq : Int), .string b.prev, .string b.root, .slice sa sn sc, .slice ra rn rc] 26)).alloc (.cells #[.int .u64 0, .string ⟨#[]⟩, .string ⟨#[]⟩, .slice none 0 0, .slice none 0 0] 26) := ⟨_, rfl⟩
  have X1 : Hid (w1.heap[w.heap.size]? = some (.cells #[.int .u64 (b.seq : Int), .string b.prev, .string b.root, .slice sa sn sc, .slice ra rn rc] 26 (0, 0)) ∧ w1.heap[w.heap.size + 1]? = some (.cells #[.int .u64 0, .string ⟨#[]⟩, .string ⟨#[]⟩, .slice none 0 0, .slice none 0 0] 26 (0, 0)) ∧ Below w.heap.size w w1) := by
    rw [hw1]
    exact ⟨(heap_alloc_old _ _ (by simp)).trans (heap_alloc_new w _), heap_new2 w _ _, below_new2 _ _ _⟩
  have Z1 : Hid (w1.heap.size = w.heap.size + 2) := by show _ = _; rw [hw1]; simp
  clear hB hsl hl hv
  have hsn : sn ≤ 1048576 := by rw [HSN.out]; exact hs
  clear hs
  go_enter Tryz.func35, Tryz.ntmps35
  go_upto_region 1 with fail
  rw [← hw1]
  clear hw1
  have p3 := block_cells X1.out.1 3 _ rfl
  have lt1 : w.heap.size < w1.heap.size := (Array.getElem?_eq_some_iff.1 X1.out.1).1
  go_wp2_with (at_builtin; refine wpList_append_sl rfl _ _ rfl w1.heap.size _ 0 [] rfl (own_empty w1) sa sn sc (w1.alloc (.cells #[] 9)).heap.size (b.sts.map fun s => s.data.toList) rfl ((HB.out _ (X1.out.2.2.trans ((below_new w1 _).mono X1.out.2.2.size))).sts) (by omega) (by simp) ?_)
  intro v4 w4 ho4 hb4
  obtain ⟨ta, tc, rfl⟩ := own_slc ho4
  have HB4 : Hid (Below w1.heap.size w1 w4) := (below_new w1 _).trans (hb4.mono (Nat.le_refl _))
  have X4 : Hid (w4.heap[w.heap.size]? = some (.cells #[.int .u64 (b.seq : Int), .string b.prev, .string b.root, .slice sa sn sc, .slice ra rn rc] 26 (0, 0)) ∧ w4.heap[w.heap.size + 1]? = some (.cells #[.int .u64 0, .string ⟨#[]⟩, .string ⟨#[]⟩, .slice none 0 0, .slice none 0 0] 26 (0, 0)) ∧ Below w.heap.size w w4) := ⟨blk_call X1.out.1 HB4.out, blk_call X1.out.2.1 HB4.out, X1.out.2.2.trans (HB4.out.mono X1.out.2.2.size)⟩
  have W2 : Hid (w1.heap.size = w.heap.size + 2) := Z1.out
  have HO4 : Hid (w4.ownsRow w1.heap.size 9 1 (.slice ta sn tc) b.sts.length (b.sts.map Value.string)) := by
    have e1 : scs (b.sts.map fun s => s.data.toList) = b.sts.map Value.string := by simp [scs, encS, bs_data, Function.comp_def]
    rw [e1] at ho4
    rw [← HSN.out]
    exact ho4
  clear ho4 hb4 p3 HB4 X1 lt1
  have fz := row_freeV X4.out.1
  have p3 := block_cells X4.out.1 3 _ rfl
  go_upto_region 2 with fail
  obtain ⟨w5, hw5⟩ : ∃ w5, w5 = w4.setCell ⟨w.heap.size, 3, none⟩ (.slice ta sn tc) := ⟨_, rfl⟩
  have X5 : Hid (w5.heap[w.heap.size]? = some (.cells #[.int .u64 (b.seq : Int), .string b.prev, .string b.root, .slice ta sn tc, .slice ra rn rc] 26 (0, 0)) ∧ w5.heap[w.heap.size + 1]? = some (.cells #[.int .u64 0, .string ⟨#[]⟩, .string ⟨#[]⟩, .slice none 0 0, .slice none 0 0] 26 (0, 0)) ∧ Below w.heap.size w w5) := by
    rw [hw5]
    exact ⟨heap_setCell_same w4 _ 3 _ 26 _ X4.out.1, (heap_setCell_other _ _ _ _ (by show w.heap.size + 1 ≠ w.heap.size; omega)).trans X4.out.2.1, X4.out.2.2.setCell (Nat.le_refl _) _⟩
  have HO5 : Hid (w5.ownsRow w1.heap.size 9 1 (.slice ta sn tc) b.sts.length (b.sts.map Value.string)) := by
    rw [hw5]; exact ownsRow_setCell_below HO4.out (by show w.heap.size < w1.heap.size; have := W2.out; omega) _
  rw [← hw5]
  clear hw5 fz p3 X4 HO4
  have p4 := block_cells X5.out.1 4 _ rfl
  go_wp2_with fail
  refine (CR.out w5 X5.out.2.2).mono ?_
  rintro e w6 ⟨lv, rfl, h6⟩
  obtain ⟨cs, ho6, hk6⟩ := h6.row
  obtain ⟨ua, uc, rfl⟩ := own_slc ho6
  obtain ⟨un, hun⟩ : ∃ un, un = b.revs.length := ⟨_, rfl⟩
  rw [← hun] at ho6 hk6
  have HUN : Hid (un = b.revs.length) := hun
  have HO6 : Hid (w6.ownsRow w5.heap.size 34 10 (.slice ua un uc) un cs ∧ KeptR w6 w5.heap.size (.slice ua un uc) cs b.revs) := ⟨ho6, hk6⟩
  have X6 : Hid (w6.heap[w.heap.size]? = some (.cells #[.int .u64 (b.seq : Int), .string b.prev, .string b.root, .slice ta sn tc, .slice ra rn rc] 26 (0, 0)) ∧ w6.heap[w.heap.size + 1]? = some (.cells #[.int .u64 0, .string ⟨#[]⟩, .string ⟨#[]⟩, .slice none 0 0, .slice none 0 0] 26 (0, 0)) ∧ Below w.heap.size w w6 ∧ w.heap.size + 2 ≤ w5.heap.size) := ⟨blk_call X5.out.1 h6.below, blk_call X5.out.2.1 h6.below, X5.out.2.2.trans (h6.below.mono X5.out.2.2.size), by have := (Array.getElem?_eq_some_iff.1 X5.out.2.1).1; omega⟩
  have HO6s : Hid (w6.ownsRow w1.heap.size 9 1 (.slice ta sn tc) b.sts.length (b.sts.map Value.string)) := own_call HO5.out h6.below
  rw [← hun]
  clear h6 ho6 hk6 p4 X5 CR hun
  have fz := row_freeV X6.out.1
  have p4 := block_cells X6.out.1 4 _ rfl
  go_upto_region 3 with fail
  obtain ⟨w7, hw7⟩ : ∃ w7, w7 = w6.setCell ⟨w.heap.size, 4, none⟩ (.slice ua un uc) := ⟨_, rfl⟩
  have X7 : Hid (w7.heap[w.heap.size]? = some (.cells #[.int .u64 (b.seq : Int), .string b.prev, .string b.root, .slice ta sn tc, .slice ua un uc] 26 (0, 0)) ∧ w7.heap[w.heap.size + 1]? = some (.cells #[.int .u64 0, .string ⟨#[]⟩, .string ⟨#[]⟩, .slice none 0 0, .slice none 0 0] 26 (0, 0)) ∧ Below w.heap.size w w7 ∧ w7.heap.size = w6.heap.size ∧ ∀ g, g ≠ w.heap.size → w7.heap[g]? = w6.heap[g]?) := by
    rw [hw7]
    exact ⟨heap_setCell_same w6 _ 4 _ 26 _ X6.out.1, (heap_setCell_other _ _ _ _ (by show w.heap.size + 1 ≠ w.heap.size; omega)).trans X6.out.2.1, X6.out.2.2.1.setCell (Nat.le_refl _) _, by simp, fun g hg => heap_setCell_other _ _ _ _ hg⟩
  have O7 : Hid (w7.ownsRow w5.heap.size 34 10 (.slice ua un uc) un cs) := by
    rw [hw7]; exact ownsRow_setCell_below HO6.out.1 (by show w.heap.size < w5.heap.size; have := X6.out.2.2.2; omega) _
  have O7s : Hid (w7.ownsRow w1.heap.size 9 1 (.slice ta sn tc) b.sts.length (b.sts.map Value.string)) := by
    rw [hw7]; exact ownsRow_setCell_below HO6s.out (by show w.heap.size < w1.heap.size; have := W2.out; omega) _
  rw [← hw7]
  clear hw7 fz p4 HO6s
  have p0 := block_cells X7.out.1 0 _ rfl
  have p1 := block_cells X7.out.1 1 _ rfl
  have p2 := block_cells X7.out.1 2 _ rfl
  have p3 := block_cells X7.out.1 3 _ rfl
  have p4 := block_cells X7.out.1 4 _ rfl
  have q0 := block_cells X7.out.2.1 0 _ rfl
  have q1 := block_cells X7.out.2.1 1 _ rfl
  have q2 := block_cells X7.out.2.1 2 _ rfl
  have q3 := block_cells X7.out.2.1 3 _ rfl
  have q4 := block_cells X7.out.2.1 4 _ rfl
  have fz := row_freeV X7.out.2.1
  obtain ⟨w8, hw8⟩ : ∃ w8, w8 = w7.setCells (w.heap.size + 1) 0 [.int .u64 (b.seq : Int), .string b.prev, .string b.root, .slice ta sn tc, .slice ua un uc] := ⟨_, rfl⟩
  have HW8 : Hid (w8 = w7.setCells (w.heap.size + 1) 0 [.int .u64 (b.seq : Int), .string b.prev, .string b.root, .slice ta sn tc, .slice ua un uc]) := hw8
  have HA1 : Hid (w8.heap[w.heap.size + 1]? = some (.cells #[.int .u64 (b.seq : Int), .string b.prev, .string b.root, .slice ta sn tc, .slice ua un uc] 26 (0, 0))) := by
    rw [hw8]; exact putB5 X7.out.2.1 _ _ _ _ _
  have HA2 : Hid (Below w.heap.size w w8) := by rw [hw8]; exact below_setCellsV (by omega) _ _ X7.out.2.2.1
  have HA3 : Hid (w8.ownsRow w5.heap.size 34 10 (.slice ua un uc) un cs ∧ KeptR w8 w5.heap.size (.slice ua un uc) cs b.revs) := by
    have h5 := X6.out.2.2.2
    refine ⟨?_, HO6.out.2.step fun g hg => ?_⟩
    · rw [hw8, ← setsB5]
      exact ownsRow_setCell_below (ownsRow_setCell_below (ownsRow_setCell_below (ownsRow_setCell_below (ownsRow_setCell_below O7.out (by show w.heap.size + 1 < w5.heap.size; omega) _) (by show w.heap.size + 1 < w5.heap.size; omega) _) (by show w.heap.size + 1 < w5.heap.size; omega) _) (by show w.heap.size + 1 < w5.heap.size; omega) _) (by show w.heap.size + 1 < w5.heap.size; omega) _
    · have e1 : w8.heap[g]? = w7.heap[g]? := by rw [hw8]; exact heap_setCells_neV _ g (by have := hg.1; omega) _ _ _
      refine ⟨e1.trans (X7.out.2.2.2.2 g (by have := hg.1; omega)), hg.1, ?_, hg.2.2⟩
      have : w8.heap.size = w6.heap.size := by rw [hw8, size_setCellsV']; exact X7.out.2.2.2.1
      have := hg.2.1
      omega
  have HA4 : Hid (w8.ownsRow w1.heap.size 9 1 (.slice ta sn tc) b.sts.length (b.sts.map Value.string)) := by
    have h5 := W2.out
    rw [hw8, ← setsB5]
    exact ownsRow_setCell_below (ownsRow_setCell_below (ownsRow_setCell_below (ownsRow_setCell_below (ownsRow_setCell_below O7s.out (by show w.heap.size + 1 < w1.heap.size; omega) _) (by show w.heap.size + 1 < w1.heap.size; omega) _) (by show w.heap.size + 1 < w1.heap.size; omega) _) (by show w.heap.size + 1 < w1.heap.size; omega) _) (by show w.heap.size + 1 < w1.heap.size; omega) _
  have HBN : Hid (BkN w8 w.heap.size b (.slice ta sn tc) (.slice ua un uc)) := by
    have h5 := X6.out.2.2.2
    have h6 := W2.out
    refine ⟨HBZ.out.seq, HBZ.out.prev, HBZ.out.root, HBZ.out.small, by have := HBZ.out.len; have := HBZ.out.many; omega, own_low HA4.out (by omega), cs, ?_, ?_⟩
    · rw [← HUN.out]; exact own_low HA3.out.1 (by omega)
    · exact ⟨HA3.out.2.1, fun j r hj => by
        obtain ⟨c4, c5, c6, c7, c8, c9, k1, k2, k3⟩ := HA3.out.2.2 j r hj
        exact ⟨c4, c5, c6, c7, c8, c9, k1, repA_stays (fun _ _ => rfl) (fun g hg => ⟨by have := hg.1; omega, hg.2⟩) _ _ k2, k3⟩⟩
  clear hw8 O7 O7s
  go_wp2
  rw [setsB5, ← HW8.out]
  exact bodyPost_ret (v := .agg #[.int .u64 (b.seq : Int), .string b.prev, .string b.root, .slice ta sn tc, .slice ua un uc]) (results_cell_row rfl _ _ (w.heap.size + 1) 26 #[.int .u64 (b.seq : Int), .string b.prev, .string b.root, .slice ta sn tc, .slice ua un uc] (0, 0) _ rfl HA1.out Tryz.underlying26 rfl info_blk) rfl ⟨ta, tc, ua, un, uc, rfl, HA2.out, HBN.out⟩
end Go.Proofs.YtggnfejjcgbebaaGreatDoor
