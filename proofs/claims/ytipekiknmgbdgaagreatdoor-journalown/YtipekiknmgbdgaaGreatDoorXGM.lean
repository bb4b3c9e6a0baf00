/- Several texts, joined: MkAs, JnCp, JnHa, JnOa, JnOwn -/
import Derived.Test.YtipekiknmgbdgaaGreatDoorJIM
import Derived.Test.YtipekiknmgbdgaaGreatDoorJMM
import Derived.Deep.Upon
import Derived.Test.YtipekiknmgbdgaaGreatDoorXAM
import Derived.Test.YtipekiknmgbdgaaGreatDoorQGM
import Derived.Test.YtipekiknmgbdgaaGreatDoorQKM
import Derived.Test.YtipekiknmgbdgaaGreatDoorXEM
/- Texts that lie anywhere, appended to a row of the call's own. -/
namespace Go.Proofs.YtipekiknmgbdgaaGreatDoor
open Go.RowKit
theorem info9s : (Tryz.prog.info? 9).map (fun i => (i.zero, i.size, i.bytes)) = some (some (.string ⟨#[]⟩), 1, 16) := by kernel_rfl
theorem append_nothing (ao : Option Addr) (cap : Nat) (W : World) (b : Option Addr) (n c : Nat) (hnc : n ≤ c) (ty : TypeId) : (Builtin.append_ #[23, 23] ty #[.slice b n c, .slice ao 0 cap]).run Tryz.prog W = .ok (.slice b n c) W := by
  obtain ⟨i0, hi, hz0, hz1, hz2⟩ := info_parts info9s
  refine run_append_nothing W 23 23 ty 9 i0 Tryz.underlying23 hi _ n c hnc _ ⟨Or.inl ⟨9, Tryz.underlying23⟩, fun w' => ?_, ?_, ?_, by simp, fun u hu => by cases hu⟩
  · simp [Builtin.lenOf]
  · cases ao <;> simp [Builtin.firstCells, loadCells, loadCellsFrom]
  · cases ao <;> simp [Builtin.firstCells, loadCells, loadCellsFrom]
/-- texts that lie anywhere, appended to a row of the call's own -/
theorem wp_append_sl {o : Oper} {a : Act} {w : World} {K : Act → World → Prop} {Q : Exit → Act → World → Prop} (s x : Operand)
    (ho : o.op = .call { callee := .builtin .append, args := #[s, x], argTypes := #[23, 23] }) (base : Nat) (v : Value) (n : Nat) (don : List (List UInt8)) (hs : a.eval s = v) (hown : w.ownsRow base 9 1 v n (scs don))
    (xa : Option Addr) (m c : Nat) (H : Nat) (l : List (List UInt8)) (hx : a.eval x = .slice xa m c) (hS : Sl w H (.slice xa m c) l) (h63 : n + m ≤ 1048576) (hbase : base ≤ w.heap.size)
    (h : ∀ v' w', w'.ownsRow base 9 1 v' (n + m) (scs (don ++ l)) → Below base w w' → K (a.put o.dst v') w') : o.wp Tryz.prog a w K Q := by
  obtain ⟨i0, hi, hz0, hz1, hz2⟩ := info_parts info9s
  rcases Nat.eq_zero_or_pos l.length with h0 | h0
  · have hl : l = [] := List.eq_nil_of_length_eq_zero h0
    subst hl
    have hm : m = 0 := hS.len
    subst hm
    obtain ⟨b, k, hv, hbk⟩ : ∃ b k, v = .slice b n k ∧ n ≤ k := by
      rcases hown.2 with ⟨e, e0⟩ | ⟨g, cap, cur, e, _, _, e4, _⟩
      · subst e0; exact ⟨_, _, e, Nat.le_refl _⟩
      · exact ⟨_, _, e, e4⟩
    have hrun := append_nothing xa c w b n k hbk o.type
    have hk := h v w (by simpa using hown) (Below.refl _ _)
    subst hv
    unfold Oper.wp execOp
    simp only [ho, resolve, invoke, builtin, Sem.run_bind, Sem.run_pure, Result.andThen_ok, List.map_toArray, List.map_cons, List.map_nil, hs, hx, hrun]
    exact hk
  · obtain ⟨b, off, rfl, hm, hb, hc⟩ := hS.at h0
    subst hm
    refine wp_append_own (P := Tryz.prog) w s x 23 ho base 9 i0 (.string ⟨#[]⟩) 1 16 Tryz.underlying23 hi hz0 hz1 hz2 rfl (by decide) v n (scs don) hs hown ⟨b, off, none⟩ l.length c (scs l) hx (by rw [scs_length]; omega) ?_ ?_ (by unfold maxLen; omega) (by omega) hbase ?_
    · intro j u hj
      simp only [scs, List.getElem?_map, Option.map_eq_some_iff] at hj
      obtain ⟨y, hy, rfl⟩ := hj
      have := hc j y hy
      rw [Go.WideShapes.add_plain]; exact this
    · intro u hu
      obtain ⟨y, _, rfl⟩ := List.mem_map.1 hu
      rfl
    · intro v' w' h1 h2 _
      exact h v' w' (by have e : scs (don ++ l) = scs don ++ scs l := by simp [scs]
                        rw [e]; exact h1) ((Below.refl base w).grown h2 hbase (own_le hown))
theorem wpList_append_sl {ops : Array Oper} {rest : List Oper} {o : Oper} {a : Act} {w : World} {Q : Exit → Act → World → Prop} (hgd : o.guard = none) (s x : Operand)
    (ho : o.op = .call { callee := .builtin .append, args := #[s, x], argTypes := #[23, 23] }) (base : Nat) (v : Value) (n : Nat) (don : List (List UInt8)) (hs : a.eval s = v) (hown : w.ownsRow base 9 1 v n (scs don))
    (xa : Option Addr) (m c : Nat) (H : Nat) (l : List (List UInt8)) (hx : a.eval x = .slice xa m c) (hS : Sl w H (.slice xa m c) l) (h63 : n + m ≤ 1048576) (hbase : base ≤ w.heap.size)
    (h : ∀ v' w', w'.ownsRow base 9 1 v' (n + m) (scs (don ++ l)) → Below base w w' → wpList Tryz.prog ops Q rest (a.put o.dst v') w') : wpList Tryz.prog ops Q (o :: rest) a w :=
  wpList_plain hgd fun _ hK => wp_append_sl s x ho base v n don hs hown xa m c H l hx hS h63 hbase fun v' w' h1 h2 => hK _ _ (h v' w' h1 h2)
theorem step_append_sl {ops : Array Oper} {E : Prop} {o : Oper} {a : Act} {w : World} {K : Act → World → Prop} {Q : Exit → Act → World → Prop} (hgd : o.guard = none) (s x : Operand)
    (ho : o.op = .call { callee := .builtin .append, args := #[s, x], argTypes := #[23, 23] }) (base : Nat) (v : Value) (n : Nat) (don : List (List UInt8)) (hs : a.eval s = v) (hown : w.ownsRow base 9 1 v n (scs don))
    (xa : Option Addr) (m c : Nat) (H : Nat) (l : List (List UInt8)) (hx : a.eval x = .slice xa m c) (hS : Sl w H (.slice xa m c) l) (h63 : n + m ≤ 1048576) (hbase : base ≤ w.heap.size)
    (h : ∀ v' w', w'.ownsRow base 9 1 v' (n + m) (scs (don ++ l)) → Below base w w' → K (a.put o.dst v') w') : if Region.wanted o (yielded ops a.tmps) = true then Oper.wp Tryz.prog o a w K Q else E := by
  have hw : Region.wanted o (yielded ops a.tmps) = true := by simp [Region.wanted, hgd]
  rw [if_pos hw]
  exact wp_append_sl s x ho base v n don hs hown xa m c H l hx hS h63 hbase h
theorem own_empty (w : World) : (w.alloc (.cells #[] 9)).ownsRow w.heap.size 9 1 (.slice (some ⟨w.heap.size, 0, none⟩) 0 0) 0 (scs []) :=
  ⟨rfl, .inr ⟨w.heap.size, 0, #[], rfl, Nat.le_refl _, heap_alloc_new w _, Nat.le_refl _, by decide, rfl, rfl⟩⟩
end Go.Proofs.YtipekiknmgbdgaaGreatDoor
/- The document's Copy of revisions, and of a block. -/
namespace Go.Proofs.YtipekiknmgbdgaaGreatDoor
open Go.RowKit
open Vl (V)
/-- revisions that were copied so far -/
structure CRS (w W : World) (rs : List Jn.R) (lv : Value) : Prop where
  below : Below w.heap.size w W
  row : ∃ cs, W.ownsRow w.heap.size 57 10 lv rs.length cs ∧ KeptR W w.heap.size lv cs rs
theorem CRS.call {w W W' : World} {rs : List Jn.R} {lv : Value} (h : CRS w W rs lv) (hb : Below W.heap.size W W') : CRS w W' rs lv :=
  ⟨h.below.trans (hb.mono h.below.size), h.row.imp fun _ hc => ⟨own_call hc.1 hb, hc.2.call hb⟩⟩
theorem CRS.next {w W W3 W4 W5 : World} {rs : List Jn.R} {lv : Value} {gg cap : Nat} {r : Jn.R} {c4 c5 c6 c7 c8 c9 : Value} {cs : List Value} (h : CRS w W rs lv) (h3 : Below W.heap.size W W3) (h4 : Below W3.heap.size W3 W4)
    (ho : W.ownsRow w.heap.size 57 10 lv rs.length cs) (hk : KeptR W w.heap.size lv cs rs) (hr : RepA W3 (fun g => W.heap.size ≤ g ∧ g < W3.heap.size) r.val (.agg #[c4, c5, c6, c7, c8, c9])) (ok : Jn.Fits r)
    (hg : W4.grownBy W5 lv.ownBlock) (hat : lv.ownBlock = some gg ∨ gg = W4.heap.size) (hn : W5.ownsRow w.heap.size 57 10 (.slice (some ⟨gg, 0, none⟩) (rs.length + 1) cap) (rs.length + 1) (cs ++ RC r c4 c5 c6 c7 c8 c9)) :
    CRS w W5 (rs ++ [r]) (.slice (some ⟨gg, 0, none⟩) (rs.length + 1) cap) := by
  have hb : Below W.heap.size W W4 := h3.trans (h4.mono h3.size)
  have hs := h.below.size
  have hs4 := hb.size
  have hb5 : Below w.heap.size W4 W5 := (Below.refl _ _).grown hg (by omega) (fun k hk => (own_in ho k hk).1)
  refine ⟨(h.below.trans (hb.mono h.below.size)).trans hb5, cs ++ RC r c4 c5 c6 c7 c8 c9, by rw [List.length_append]; exact hn, ?_⟩
  have hle : ∀ k, lv.ownBlock = some k → k < W.heap.size := fun k hk => (own_in ho k hk).2
  have b3 := h3.size
  have b4 := h4.size
  have b5 := hg.size
  have move : ∀ g, Apart w.heap.size lv W3 g → W5.heap[g]? = W3.heap[g]? ∧ Apart w.heap.size (.slice (some ⟨gg, 0, none⟩) (rs.length + 1) cap) W5 g := by
    rintro g ⟨hg1, hg2, hg3⟩
    refine ⟨?_, hg1, ?_, ?_⟩
    · rw [hg.block g (by omega) (fun q => hg3 q.symm), h4.block g hg2]
    · omega
    · show some gg ≠ some g
      rcases hat with h1 | rfl
      · rw [← h1]; exact hg3
      · intro q; simp at q; omega
  have k3 : KeptR W3 w.heap.size lv (cs ++ RC r c4 c5 c6 c7 c8 c9) (rs ++ [r]) := (hk.call h3).more (repA_stays (fun _ _ => rfl) (fun g hg' => ⟨by omega, hg'.2, fun q => by have := hle g q; omega⟩) _ _ hr) ok
  exact k3.step move
theorem setsV6 (W : World) (B : Nat) (v0 v1 v2 v3 v4 v5 : Value) : ((((((W.setCell ⟨B, 4, none⟩ v0).setCell ⟨B, 5, none⟩ v1).setCell ⟨B, 6, none⟩ v2).setCell ⟨B, 7, none⟩ v3).setCell ⟨B, 8, none⟩ v4).setCell ⟨B, 9, none⟩ v5) = W.setCells B 4 [v0, v1, v2, v3, v4, v5] := rfl
theorem putV6 {W : World} {g : Nat} {t : TypeId} {a0 a1 a2 a3 z0 z1 z2 z3 z4 z5 : Value} (h : W.heap[g]? = some (.cells #[a0, a1, a2, a3, z0, z1, z2, z3, z4, z5] t (0, 0))) (b0 b1 b2 b3 b4 b5 : Value) : (W.setCells g 4 [b0, b1, b2, b3, b4, b5]).heap[g]? = some (.cells #[a0, a1, a2, a3, b0, b1, b2, b3, b4, b5] t (0, 0)) := by
  have h1 := heap_setCells_put g t [b0, b1, b2, b3, b4, b5] 4 W _ h
  rw [h1]
  simp [putAll]
set_option maxHeartbeats 16000000 in
set_option maxRecDepth 100000 in
theorem copyRevs_c (rs : List Jn.R) (ra : Option Addr) (rn rc : Nat) (w : World) (hn : rn = rs.length) (hl : rn * 120 ≤ 140737488351232) (hs : ∀ r ∈ rs, Vl.small r.val)
    (hR : 0 < rn → ∃ g o, ra = some ⟨g, o, none⟩ ∧ g < w.heap.size ∧ ∀ i r, rs[i]? = some r → RevAt w w.heap.size g (o + i * 10) r) :
    Calls Tryz.prog 23 #[.slice ra rn rc] w fun e w' => ∃ lv, e = .returned lv ∧ CRS w w' rs lv := by
  have HN : Hid (rn = rs.length) := hn
  have HR : Hid (0 < rn → ∃ g o, ra = some ⟨g, o, none⟩ ∧ g < w.heap.size ∧ ∀ i r, rs[i]? = some r → RevAt w w.heap.size g (o + i * 10) r) := hR
  have HS : Hid (∀ r ∈ rs, Vl.small r.val) := hs
  obtain ⟨ir, hir, hr0, hr1, hr2⟩ := info_parts infoRev3
  clear hR hs hn
  go_enter Tryz.func23, Tryz.ntmps23
  go_wp2
  go_loopw [3, 8] (fun o i wr => ∃ (j : Nat) (lv : Value), j ≤ rn ∧ lv = o ∧ i = .int .i64 j ∧ CRS w wr (rs.take j) lv) (fun _ i _ => rn - (intOf i).toNat)
  case atStart => exact ⟨0, _, Nat.zero_le _, rfl, rfl, Below.refl _ _, [], by rw [List.take_zero]; exact World.ownsRow_nil _ _ _ _, by rw [List.take_zero]; exact KeptR.none _ _ _⟩
  case round =>
    obtain ⟨j, lv, hj, hlv, rfl, hS⟩ := hrel
    subst hlv
    have S : Hid (CRS w wr (rs.take j) lv) := hS
    clear hS
    by_cases hlt : j < rn
    · have ha : j < rs.length := by rw [← HN.out]; exact hlt
      have HLJ : Hid ((rs.take j).length = j) := by show _ = _; rw [List.length_take]; omega
      obtain ⟨g, o, rfl, hg, hr⟩ := HR.out (by omega)
      obtain ⟨r, hx⟩ : ∃ r, rs[j]? = some r := ⟨_, List.getElem?_eq_getElem ha⟩
      have hrx := (hr j r hx).stays S.out.below hg (Nat.le_refl _)
      obtain ⟨xk, xb, xn, xs, xa, xl, xc, ya, yl, yc, d0, d1, d2, d3, d4, d5, d6, d7, d8, d9, hrp, -, hf⟩ := hrx
      have HX : Hid (rs[j]? = some r) := hx
      have HF : Hid (Jn.Fits r) := hf
      have HRP : Hid (Rep wr w.heap.size r.val (.agg #[.int .u8 (xk : Int), .bool xb, .int .i64 xn, .string xs, .slice xa xl xc, .slice ya yl yc])) := hrp
      clear hr hx hrp hf ha
      go_upto_region 5 with fail
      obtain ⟨w2, hw2⟩ : ∃ w2, w2 = wr.alloc (.cells #[.int .u8 (r.kind : Int), .string r.table, .int .u64 (r.doc : Int), .int .u64 (r.ver : Int), .int .u8 (xk : Int), .bool xb, .int .i64 xn, .string xs, .slice xa xl xc, .slice ya yl yc] 57) := ⟨_, rfl⟩
      obtain ⟨B, hB⟩ : ∃ B, B = wr.heap.size := ⟨_, rfl⟩
      have hb2 : Below wr.heap.size wr w2 := by rw [hw2]; exact below_new _ _
      have HB2 : Hid (Below wr.heap.size wr w2 ∧ w2.heap.size = wr.heap.size + 1 ∧ B = wr.heap.size) := ⟨hb2, by rw [hw2]; simp, hB⟩
      have HBX : Hid (w2.heap[B]? = some (.cells #[.int .u8 (r.kind : Int), .string r.table, .int .u64 (r.doc : Int), .int .u64 (r.ver : Int), .int .u8 (xk : Int), .bool xb, .int .i64 xn, .string xs, .slice xa xl xc, .slice ya yl yc] 57 (0, 0))) := by
        rw [hw2, hB]; exact heap_alloc_new wr _
      have C9 : Hid (Calls Tryz.prog 47 #[.agg #[.int .u8 (xk : Int), .bool xb, .int .i64 xn, .string xs, .slice xa xl xc, .slice ya yl yc]] w2 fun e w' => ∃ (zk : Nat) (zb : Bool) (zn : Int) (zs : ByteArray) (za : Option Addr) (zl zc : Nat) (ta : Option Addr) (tl tc : Nat), e = .returned (.agg #[.int .u8 (zk : Int), .bool zb, .int .i64 zn, .string zs, .slice za zl zc, .slice ta tl tc]) ∧ Below w2.heap.size w2 w' ∧ RepA w' (fun g => w2.heap.size ≤ g ∧ g < w'.heap.size) r.val (.agg #[.int .u8 (zk : Int), .bool zb, .int .i64 zn, .string zs, .slice za zl zc, .slice ta tl tc])) := by
        have h1 := S.out.below.size
        have h2 := hb2.size
        refine (copy9 _ r.val (Nat.le_refl _) (HS.out r (List.mem_of_getElem? HX.out)) w2 w.heap.size _ (by omega) (rep_stays (hb2.mono h1) (Nat.le_refl _) _ _ HRP.out)).mono ?_
        rintro e w' ⟨v', rfl, hb, hr⟩
        obtain ⟨zk, zb, zn, zs, za, zl, zc, ta, tl, tc, rfl⟩ := repA_form hr
        exact ⟨zk, zb, zn, zs, za, zl, zc, ta, tl, tc, rfl, hb, hr⟩
      rw [← hw2, ← hB]
      clear hw2 hB hb2 d0 d1 d2 d3 d4 d5 d6 d7 d8 d9 HRP
      have p4 := block_cells HBX.out 4 _ rfl
      have p5 := block_cells HBX.out 5 _ rfl
      have p6 := block_cells HBX.out 6 _ rfl
      have p7 := block_cells HBX.out 7 _ rfl
      have p8 := block_cells HBX.out 8 _ rfl
      have p9 := block_cells HBX.out 9 _ rfl
      go_wp2_with fail
      refine C9.out.mono ?_
      rintro e w3 ⟨zk, zb, zn, zs, za, zl, zc, ta, tl, tc, rfl, hb3, hr3⟩
      have HB3 : Hid (Below w2.heap.size w2 w3) := hb3
      have HR3 : Hid (RepA w3 (fun g => w2.heap.size ≤ g ∧ g < w3.heap.size) r.val (.agg #[.int .u8 (zk : Int), .bool zb, .int .i64 zn, .string zs, .slice za zl zc, .slice ta tl tc])) := hr3
      have HBX3 : Hid (w3.heap[B]? = some (.cells #[.int .u8 (r.kind : Int), .string r.table, .int .u64 (r.doc : Int), .int .u64 (r.ver : Int), .int .u8 (xk : Int), .bool xb, .int .i64 xn, .string xs, .slice xa xl xc, .slice ya yl yc] 57 (0, 0))) := blk_call HBX.out hb3
      clear hb3 hr3 p4 p5 p6 p7 p8 p9 C9
      have fz := row_freeV HBX3.out
      have p4 := block_cells HBX3.out 4 _ rfl
      have p5 := block_cells HBX3.out 5 _ rfl
      have p6 := block_cells HBX3.out 6 _ rfl
      have p7 := block_cells HBX3.out 7 _ rfl
      have p8 := block_cells HBX3.out 8 _ rfl
      have p9 := block_cells HBX3.out 9 _ rfl
      go_upto_region 6 with fail
      rw [setsV6]
      obtain ⟨w4, hw4⟩ : ∃ w4, w4 = w3.setCells B 4 [.int .u8 (zk : Int), .bool zb, .int .i64 zn, .string zs, .slice za zl zc, .slice ta tl tc] := ⟨_, rfl⟩
      have HW4 : Hid (Below wr.heap.size wr w4 ∧ w4.heap.size = w3.heap.size ∧ ∀ g, g ≠ B → w4.heap[g]? = w3.heap[g]?) := by
        have h2 := HB2.out
        refine ⟨?_, by rw [hw4, size_setCellsV'], fun g hg => by rw [hw4]; exact heap_setCells_neV _ g hg _ _ _⟩
        rw [hw4]
        exact below_setCellsV (by omega) _ _ (h2.1.trans (HB3.out.mono (by omega)))
      have HR4 : Hid (RepA w4 (fun g => wr.heap.size ≤ g ∧ g < w4.heap.size) r.val (.agg #[.int .u8 (zk : Int), .bool zb, .int .i64 zn, .string zs, .slice za zl zc, .slice ta tl tc])) := by
        have h2 := HB2.out
        have h4 := HW4.out
        exact repA_stays (fun g hg => h4.2.2 g (by omega)) (fun g hg => ⟨by omega, by omega⟩) _ _ HR3.out
      have HBX4 : Hid (w4.heap[B]? = some (.cells #[.int .u8 (r.kind : Int), .string r.table, .int .u64 (r.doc : Int), .int .u64 (r.ver : Int), .int .u8 (zk : Int), .bool zb, .int .i64 zn, .string zs, .slice za zl zc, .slice ta tl tc] 57 (0, 0))) := by
        rw [hw4]; exact putV6 HBX3.out _ _ _ _ _ _
      rw [← hw4]
      clear hw4 fz p4 p5 p6 p7 p8 p9 HBX3
      obtain ⟨cs, hown, hkp⟩ := S.out.row
      have HOW0 : Hid (wr.ownsRow w.heap.size 57 10 lv (rs.take j).length cs ∧ KeptR wr w.heap.size lv cs (rs.take j)) := ⟨hown, hkp⟩
      rw [HLJ.out] at hown
      have HOWN : Hid (w4.ownsRow w.heap.size 57 10 lv j cs) := own_call hown HW4.out.1
      have HNX : Hid (∀ gg cap w5, (w4.alloc (.cells #[.int .u8 (r.kind : Int), .string r.table, .int .u64 (r.doc : Int), .int .u64 (r.ver : Int), .int .u8 (zk : Int), .bool zb, .int .i64 zn, .string zs, .slice za zl zc, .slice ta tl tc] 57)).grownBy w5 lv.ownBlock → (lv.ownBlock = some gg ∨ gg = (w4.alloc (.cells #[.int .u8 (r.kind : Int), .string r.table, .int .u64 (r.doc : Int), .int .u64 (r.ver : Int), .int .u8 (zk : Int), .bool zb, .int .i64 zn, .string zs, .slice za zl zc, .slice ta tl tc] 57)).heap.size) → w5.ownsRow w.heap.size 57 10 (.slice (some ⟨gg, 0, none⟩) (j + 1) cap) (j + 1) (cs ++ [.int .u8 (r.kind : Int), .string r.table, .int .u64 (r.doc : Int), .int .u64 (r.ver : Int), .int .u8 (zk : Int), .bool zb, .int .i64 zn, .string zs, .slice za zl zc, .slice ta tl tc]) → CRS w w5 (rs.take (j + 1)) (.slice (some ⟨gg, 0, none⟩) (j + 1) cap)) := by
        intro gg cap w5 hgr hat hno
        have h := CRS.next (gg := gg) (cap := cap) (r := r) S.out HW4.out.1 (below_new w4 _) HOW0.out.1 HOW0.out.2 HR4.out HF.out hgr hat (by rw [HLJ.out]; exact hno)
        rw [HLJ.out] at h
        rw [List.take_add_one, HX.out]
        exact h
      clear hown hkp
      have p0 := block_cells HBX4.out 0 _ rfl
      have p1 := block_cells HBX4.out 1 _ rfl
      have p2 := block_cells HBX4.out 2 _ rfl
      have p3 := block_cells HBX4.out 3 _ rfl
      have p4 := block_cells HBX4.out 4 _ rfl
      have p5 := block_cells HBX4.out 5 _ rfl
      have p6 := block_cells HBX4.out 6 _ rfl
      have p7 := block_cells HBX4.out 7 _ rfl
      have p8 := block_cells HBX4.out 8 _ rfl
      have p9 := block_cells HBX4.out 9 _ rfl
      have fit63 : Hid (j + 1 ≤ maxLen) := by show _ ≤ _; unfold maxLen; omega
      have fit47 : Hid ((j + 1) * 120 ≤ 140737488355328) := by show _ ≤ _; omega
      have HSZ : Hid (w.heap.size ≤ (w4.alloc (.cells #[.int .u8 (r.kind : Int), .string r.table, .int .u64 (r.doc : Int), .int .u64 (r.ver : Int), .int .u8 (zk : Int), .bool zb, .int .i64 zn, .string zs, .slice za zl zc, .slice ta tl tc] 57)).heap.size) := by have := HW4.out.1.size; have := S.out.below.size; show _ ≤ _; simp; omega
      go_wp2_with (first | (at_builtin; refine wpList_append_lies _ rfl _ _ 24 rfl w.heap.size 57 ir _ 10 120 Tryz.underlying24 hir hr0 hr1 hr2 rfl (by decide) _ _ _ rfl (HOWN.out.alloc _) ⟨w4.heap.size, 0, none⟩ 1 1 [.int .u8 (r.kind : Int), .string r.table, .int .u64 (r.doc : Int), .int .u64 (r.ver : Int), .int .u8 (zk : Int), .bool zb, .int .i64 zn, .string zs, .slice za zl zc, .slice ta tl tc] rfl rfl (World.news_of_block (heap_alloc_new w4 _)) (by intro u hu; simp at hu; rcases hu with rfl | rfl | rfl | rfl | rfl | rfl | rfl | rfl | rfl | rfl <;> rfl) (by decide) fit63.out fit47.out HSZ.out _ rfl ?_; intro gg cap w5 hown5 hgrow hat hglt; have S5 : Hid (CRS w w5 (rs.take (j + 1)) (.slice (some ⟨gg, 0, none⟩) (j + 1) cap)) := HNX.out gg cap w5 hgrow hat hown5; clear hown5 hgrow hat hglt))
      go_roundw
      case rel => first | exact ⟨j + 1, _, by omega, rfl, by go_num, S5.out⟩ | ((repeat apply Exists.intro); exact ⟨⟨j + 1, _, by omega, rfl, by go_num, S5.out⟩, rfl⟩)
      case measure => simp [intOf]; omega
    · have hjn : j = rn := by omega
      subst hjn
      have hS := S.out
      rw [List.take_of_length_le (by rw [← HN.out]; exact Nat.le_refl _)] at hS
      go_wp2
      go_ret
      exact ⟨_, rfl, hS⟩
set_option maxHeartbeats 16000000 in
set_option maxRecDepth 100000 in
theorem copyB_c (b : Jn.B) (sa : Option Addr) (sn sc : Nat) (ra : Option Addr) (rn rc : Nat) (w : World) (hs : b.sts.length ≤ 1048576) (hl : rn * 120 ≤ 140737488351232) (hv : ∀ r ∈ b.revs, Vl.small r.val) (hB : Bk w w.heap.size b sa sn sc ra rn rc) :
    Calls Tryz.prog 22 #[.agg #[.int .u64 (b.seq : Int), .string b.prev, .string b.root, .slice sa sn sc, .slice ra rn rc]] w fun e w' => ∃ (ta : Option Addr) (tc : Nat) (ua : Option Addr) (un uc : Nat), e = .returned (.agg #[.int .u64 (b.seq : Int), .string b.prev, .string b.root, .slice ta sn tc, .slice ua un uc]) ∧ Below w.heap.size w w' ∧ ∃ base cs, w.heap.size ≤ base ∧ w'.ownsRow base 57 10 (.slice ua un uc) b.revs.length cs ∧ KeptR w' base (.slice ua un uc) cs b.revs := by
  have hsl := hB.sts.len
  rw [List.length_map] at hsl
  have HSN : Hid (sn = b.sts.length) := hsl
  have HB : Hid (∀ W, Below w.heap.size w W → Bk W W.heap.size b sa sn sc ra rn rc) := fun W hW => hB.stays hW hW.size
  have CR : Hid (∀ W, Below w.heap.size w W → Calls Tryz.prog 23 #[.slice ra rn rc] W fun e w' => ∃ lv, e = .returned lv ∧ CRS W w' b.revs lv) := fun W hW =>
    copyRevs_c b.revs ra rn rc W hB.many hl hv (HB.out W hW).revs
  obtain ⟨w1, hw1⟩ : ∃ w1, w1 = (w.alloc (.cells #[.int .u64 (b.seq : Int), .string b.prev, .string b.root, .slice sa sn sc, .slice ra rn rc] 26)).alloc (.cells #[.int .u64 0, .string ⟨#[]⟩, .string ⟨#[]⟩, .slice none 0 0, .slice none 0 0] 26) := ⟨_, rfl⟩
  have X1 : Hid (w1.heap[w.heap.size]? = some (.cells #[.int .u64 (b.seq : Int), .string b.prev, .string b.root, .slice sa sn sc, .slice ra rn rc] 26 (0, 0)) ∧ w1.heap[w.heap.size + 1]? = some (.cells #[.int .u64 0, .string ⟨#[]⟩, .string ⟨#[]⟩, .slice none 0 0, .slice none 0 0] 26 (0, 0)) ∧ Below w.heap.size w w1) := by
    rw [hw1]
    exact ⟨(heap_alloc_old _ _ (by simp)).trans (heap_alloc_new w _), heap_new2 w _ _, below_new2 _ _ _⟩
  clear hB hsl hl hv
  have hsn : sn ≤ 1048576 := by rw [HSN.out]; exact hs
  clear hs
  go_enter Tryz.func22, Tryz.ntmps22
  go_upto_region 1 with fail
  rw [← hw1]
  clear hw1
  have p3 := block_cells X1.out.1 3 _ rfl
  have lt1 : w.heap.size < w1.heap.size := (Array.getElem?_eq_some_iff.1 X1.out.1).1
  go_wp2_with (at_builtin; refine wpList_append_sl rfl _ _ rfl w1.heap.size _ 0 [] rfl (own_empty w1) sa sn sc (w1.alloc (.cells #[] 9)).heap.size (b.sts.map fun s => s.data.toList) rfl ((HB.out _ (X1.out.2.2.trans ((below_new w1 _).mono X1.out.2.2.size))).sts) (by omega) (by simp) ?_)
  intro v4 w4 ho4 hb4
  obtain ⟨ta, tc, rfl⟩ := own_slc ho4
  have HB4 : Hid (Below w1.heap.size w1 w4) := (below_new w1 _).trans (hb4.mono (Nat.le_refl _))
  have X4 : Hid (w4.heap[w.heap.size]? = some (.cells #[.int .u64 (b.seq : Int), .string b.prev, .string b.root, .slice sa sn sc, .slice ra rn rc] 26 (0, 0)) ∧ w4.heap[w.heap.size + 1]? = some (.cells #[.int .u64 0, .string ⟨#[]⟩, .string ⟨#[]⟩, .slice none 0 0, .slice none 0 0] 26 (0, 0)) ∧ Below w.heap.size w w4) := ⟨blk_call X1.out.1 HB4.out, blk_call X1.out.2.1 HB4.out, X1.out.2.2.trans (HB4.out.mono X1.out.2.2.size)⟩
  clear ho4 hb4 p3 HB4 X1 lt1
  have fz := row_freeV X4.out.1
  have p3 := block_cells X4.out.1 3 _ rfl
  go_upto_region 2 with fail
  obtain ⟨w5, hw5⟩ : ∃ w5, w5 = w4.setCell ⟨w.heap.size, 3, none⟩ (.slice ta sn tc) := ⟨_, rfl⟩
  have X5 : Hid (w5.heap[w.heap.size]? = some (.cells #[.int .u64 (b.seq : Int), .string b.prev, .string b.root, .slice ta sn tc, .slice ra rn rc] 26 (0, 0)) ∧ w5.heap[w.heap.size + 1]? = some (.cells #[.int .u64 0, .string ⟨#[]⟩, .string ⟨#[]⟩, .slice none 0 0, .slice none 0 0] 26 (0, 0)) ∧ Below w.heap.size w w5) := by
    rw [hw5]
    exact ⟨heap_setCell_same w4 _ 3 _ 26 _ X4.out.1, (heap_setCell_other _ _ _ _ (by show w.heap.size + 1 ≠ w.heap.size; omega)).trans X4.out.2.1, X4.out.2.2.setCell (Nat.le_refl _) _⟩
  rw [← hw5]
  clear hw5 fz p3 X4
  have p4 := block_cells X5.out.1 4 _ rfl
  go_wp2_with fail
  refine (CR.out w5 X5.out.2.2).mono ?_
  rintro e w6 ⟨lv, rfl, h6⟩
  obtain ⟨cs, ho6, hk6⟩ := h6.row
  obtain ⟨ua, uc, rfl⟩ := own_slc ho6
  obtain ⟨un, hun⟩ : ∃ un, un = b.revs.length := ⟨_, rfl⟩
  rw [← hun] at ho6 hk6
  have HUN : Hid (un = b.revs.length) := hun
  have HO6 : Hid (w6.ownsRow w5.heap.size 57 10 (.slice ua un uc) un cs ∧ KeptR w6 w5.heap.size (.slice ua un uc) cs b.revs) := ⟨ho6, hk6⟩
  have X6 : Hid (w6.heap[w.heap.size]? = some (.cells #[.int .u64 (b.seq : Int), .string b.prev, .string b.root, .slice ta sn tc, .slice ra rn rc] 26 (0, 0)) ∧ w6.heap[w.heap.size + 1]? = some (.cells #[.int .u64 0, .string ⟨#[]⟩, .string ⟨#[]⟩, .slice none 0 0, .slice none 0 0] 26 (0, 0)) ∧ Below w.heap.size w w6 ∧ w.heap.size + 2 ≤ w5.heap.size) := ⟨blk_call X5.out.1 h6.below, blk_call X5.out.2.1 h6.below, X5.out.2.2.trans (h6.below.mono X5.out.2.2.size), by have := (Array.getElem?_eq_some_iff.1 X5.out.2.1).1; omega⟩
  rw [← hun]
  clear h6 ho6 hk6 p4 X5 CR hun
  have fz := row_freeV X6.out.1
  have p4 := block_cells X6.out.1 4 _ rfl
  go_upto_region 3 with fail
  obtain ⟨w7, hw7⟩ : ∃ w7, w7 = w6.setCell ⟨w.heap.size, 4, none⟩ (.slice ua un uc) := ⟨_, rfl⟩
  have X7 : Hid (w7.heap[w.heap.size]? = some (.cells #[.int .u64 (b.seq : Int), .string b.prev, .string b.root, .slice ta sn tc, .slice ua un uc] 26 (0, 0)) ∧ w7.heap[w.heap.size + 1]? = some (.cells #[.int .u64 0, .string ⟨#[]⟩, .string ⟨#[]⟩, .slice none 0 0, .slice none 0 0] 26 (0, 0)) ∧ Below w.heap.size w w7 ∧ w7.heap.size = w6.heap.size ∧ ∀ g, g ≠ w.heap.size → w7.heap[g]? = w6.heap[g]?) := by
    rw [hw7]
    exact ⟨heap_setCell_same w6 _ 4 _ 26 _ X6.out.1, (heap_setCell_other _ _ _ _ (by show w.heap.size + 1 ≠ w.heap.size; omega)).trans X6.out.2.1, X6.out.2.2.1.setCell (Nat.le_refl _) _, by simp, fun g hg => heap_setCell_other _ _ _ _ hg⟩
  have O7 : Hid (w7.ownsRow w5.heap.size 57 10 (.slice ua un uc) un cs) := by
    rw [hw7]; exact ownsRow_setCell_below HO6.out.1 (by show w.heap.size < w5.heap.size; have := X6.out.2.2.2; omega) _
  rw [← hw7]
  clear hw7 fz p4
  have p0 := block_cells X7.out.1 0 _ rfl
  have p1 := block_cells X7.out.1 1 _ rfl
  have p2 := block_cells X7.out.1 2 _ rfl
  have p3 := block_cells X7.out.1 3 _ rfl
  have p4 := block_cells X7.out.1 4 _ rfl
  have q0 := block_cells X7.out.2.1 0 _ rfl
  have q1 := block_cells X7.out.2.1 1 _ rfl
  have q2 := block_cells X7.out.2.1 2 _ rfl
  have q3 := block_cells X7.out.2.1 3 _ rfl
  have q4 := block_cells X7.out.2.1 4 _ rfl
  have fz := row_freeV X7.out.2.1
  obtain ⟨w8, hw8⟩ : ∃ w8, w8 = w7.setCells (w.heap.size + 1) 0 [.int .u64 (b.seq : Int), .string b.prev, .string b.root, .slice ta sn tc, .slice ua un uc] := ⟨_, rfl⟩
  have HW8 : Hid (w8 = w7.setCells (w.heap.size + 1) 0 [.int .u64 (b.seq : Int), .string b.prev, .string b.root, .slice ta sn tc, .slice ua un uc]) := hw8
  have HA1 : Hid (w8.heap[w.heap.size + 1]? = some (.cells #[.int .u64 (b.seq : Int), .string b.prev, .string b.root, .slice ta sn tc, .slice ua un uc] 26 (0, 0))) := by
    rw [hw8]; exact putB5 X7.out.2.1 _ _ _ _ _
  have HA2 : Hid (Below w.heap.size w w8) := by rw [hw8]; exact below_setCellsV (by omega) _ _ X7.out.2.2.1
  have HA3 : Hid (w8.ownsRow w5.heap.size 57 10 (.slice ua un uc) un cs ∧ KeptR w8 w5.heap.size (.slice ua un uc) cs b.revs) := by
    have h5 := X6.out.2.2.2
    refine ⟨?_, HO6.out.2.step fun g hg => ?_⟩
    · rw [hw8, ← setsB5]
      exact ownsRow_setCell_below (ownsRow_setCell_below (ownsRow_setCell_below (ownsRow_setCell_below (ownsRow_setCell_below O7.out (by show w.heap.size + 1 < w5.heap.size; omega) _) (by show w.heap.size + 1 < w5.heap.size; omega) _) (by show w.heap.size + 1 < w5.heap.size; omega) _) (by show w.heap.size + 1 < w5.heap.size; omega) _) (by show w.heap.size + 1 < w5.heap.size; omega) _
    · have e1 : w8.heap[g]? = w7.heap[g]? := by rw [hw8]; exact heap_setCells_neV _ g (by have := hg.1; omega) _ _ _
      refine ⟨e1.trans (X7.out.2.2.2.2 g (by have := hg.1; omega)), hg.1, ?_, hg.2.2⟩
      have : w8.heap.size = w6.heap.size := by rw [hw8, size_setCellsV']; exact X7.out.2.2.2.1
      have := hg.2.1
      omega
  clear hw8 O7
  go_wp2
  rw [setsB5, ← HW8.out]
  exact bodyPost_ret (v := .agg #[.int .u64 (b.seq : Int), .string b.prev, .string b.root, .slice ta sn tc, .slice ua un uc]) (results_cell_row rfl _ _ (w.heap.size + 1) 26 #[.int .u64 (b.seq : Int), .string b.prev, .string b.root, .slice ta sn tc, .slice ua un uc] (0, 0) _ rfl HA1.out Tryz.underlying26 rfl info_blk) rfl ⟨ta, tc, ua, un, uc, rfl, HA2.out, w5.heap.size, cs, by have := X6.out.2.2.2; omega, by rw [← HUN.out]; exact HA3.out.1, HA3.out.2⟩
end Go.Proofs.YtipekiknmgbdgaaGreatDoor
/- JournalHeads, walked. -/
namespace Go.Proofs.YtipekiknmgbdgaaGreatDoor
namespace Vl
mutual
theorem small_of_check (u : ByteArray → Bool) : ∀ (v : V) (d : Nat), check u d v = 0 → small v
  | ⟨k, b, n, s, l, f⟩, d, h => by
    have h1 := Bn.alone_sizes h
    have h2 := right_form u h
    rw [small]
    exact ⟨by omega, by omega, by omega, smallL_of_check u l (d + 1) h2.2.2.2.2.2.2.1, smallF_of_check u f (d + 1) none h2.2.2.2.2.2.2.2⟩
theorem smallL_of_check (u : ByteArray → Bool) : ∀ (l : List V) (d : Nat), checkL u d l = 0 → smallL l
  | [], d, h => by rw [smallL]; trivial
  | x :: r, d, h => by
    rw [checkL] at h
    rw [smallL]
    split at h
    · rename_i h1; exact absurd h h1
    · rename_i h1; exact ⟨small_of_check u x d (by simpa using h1), smallL_of_check u r d h⟩
theorem smallF_of_check (u : ByteArray → Bool) : ∀ (f : List (ByteArray × V)) (d : Nat) (p : Option ByteArray), checkF u d p f = 0 → smallF f
  | [], d, p, h => by rw [smallF]; trivial
  | (m, x) :: r, d, p, h => by
    rw [checkF] at h
    rw [smallF]
    split at h
    · rename_i h1; exact absurd h h1
    · rename_i h0
      split at h
      · cases h
      · split at h
        · rename_i h1; exact absurd h h1
        · rename_i h1
          refine ⟨?_, small_of_check u x d (by simpa using h1), smallF_of_check u r d (some m) h⟩
          have h0' : nameErr u m = 0 := by simpa using h0
          rw [nameErr] at h0'
          split at h0'
          · cases h0'
          · omega
end
end Vl
open Go.RowKit
open Vl (V)
attribute [local go_sem ↓] Go.wp_at_zero Go.wp_at_succ
theorem revs_kept {W : World} {base rn rc : Nat} {ra : Option Addr} {cs : List Value} {rs : List Jn.R} (h1 : W.ownsRow base 57 10 (.slice ra rn rc) rs.length cs) (h2 : KeptR W base (.slice ra rn rc) cs rs) (hl : rs.length ≤ maxLen) :
    rn = rs.length ∧ (0 < rn → ∃ g o, ra = some ⟨g, o, none⟩ ∧ g < W.heap.size ∧ ∀ i r, rs[i]? = some r → RevAt W W.heap.size g (o + i * 10) r) := by
  have h := BkN.bk (b := ⟨0, ⟨#[]⟩, ⟨#[]⟩, [], rs⟩) (sa := none) (sn := 0) (sc := 0) (W := W) (base := base) (ra := ra) (rn := rn) (rc := rc) ⟨(by show 0 < 18446744073709551616; decide), (Nat.zero_le _), (Nat.zero_le _), (fun s hs => by cases hs), hl, World.ownsRow_nil _ _ _ _, cs, h1, h2⟩
  exact ⟨h.many, h.revs⟩
theorem Jn.sizes_ok {b : Jn.B} (h : Jn.sizes b = 0) : b.prev.size = 32 ∧ b.root.size = 32 ∧ b.sts.length ≤ 64 ∧ b.revs.length ≤ 64 := by
  rw [Jn.sizes] at h
  split at h
  · cases h
  · split at h
    · cases h
    · split at h
      · cases h
      · omega
theorem Jn.small_ok {b : Jn.B} (h : Jn.berr b = 0) : ∀ r ∈ b.revs, Vl.small r.val := by
  intro r hr
  have h1 := (Jn.berr_ok h).2.2.1 r hr
  rw [Jn.rerr] at h1
  have h2 : Jn.rwhy r = 0 := by
    split at h1
    · rename_i h2; exact absurd h1 h2
    · rename_i h2; simpa using h2
  rw [Jn.rwhy] at h2
  refine Vl.small_of_check Bn.u8 r.val 0 ?_
  split at h2
  · cases h2
  · split at h2
    · cases h2
    · split at h2
      · cases h2
      · split at h2
        · cases h2
        · split at h2
          · rename_i h3; exact absurd h2 h3
          · rename_i h3; simpa using h3
set_option maxHeartbeats 8000000 in
set_option maxRecDepth 100000 in
theorem heads_no (b : Jn.B) (sa : Option Addr) (sn sc : Nat) (ra : Option Addr) (rn rc : Nat) (lv : Value) (w : World) (hU : Bn.HasU w) (hK : HasK w) (hB : Bk w w.heap.size b sa sn sc ra rn rc) (hbe : Jn.berr b ≠ 0) :
    Calls Tryz.prog 6 #[.agg #[.int .u64 (b.seq : Int), .string b.prev, .string b.root, .slice sa sn sc, .slice ra rn rc], lv] w fun e w' => e = .returned (.bool true) ∧ Below w.heap.size w w' := by
  have HU : Hid (∀ W, Below w.heap.size w W → Bn.HasU W) := fun W hW => hU.stays hW
  have HK : Hid (∀ W, Below w.heap.size w W → HasK W) := fun W hW => hK.below hK.1 hW
  have HBK : Hid (∀ W, Below w.heap.size w W → Bk W W.heap.size b sa sn sc ra rn rc) := fun W hW => hB.stays hW hW.size
  have CL : Hid (∀ W, Below w.heap.size w W → Calls Tryz.prog 8 #[] W fun e w' => e = .returned (.bool true) ∧ Below W.heap.size W w') := fun W hW => livesJ_c W (HU.out W hW) (HK.out W hW)
  obtain ⟨be, hbe2⟩ : ∃ be, be = Jn.berr b := ⟨_, rfl⟩
  have CS : Hid (∀ W, Below w.heap.size w W → Calls Tryz.prog 17 #[.agg #[.int .u64 (b.seq : Int), .string b.prev, .string b.root, .slice sa sn sc, .slice ra rn rc]] W fun e w' => e = .returned (.tuple #[.agg #[.int .u64 0, .string ⟨#[]⟩, .string ⟨#[]⟩, .int .u64 0, .string ⟨#[]⟩], .int .i64 (be : Int)]) ∧ Below W.heap.size W w') := fun W hW => by
    have h := shortB_c b sa sn sc ra rn rc W (HU.out W hW) (HK.out W hW) (HBK.out W hW)
    rw [if_neg hbe, ← hbe2] at h
    exact h
  rw [← hbe2] at hbe
  obtain ⟨w1, hw1⟩ : ∃ w1, w1 = w.alloc (.cells #[.int .u64 (b.seq : Int), .string b.prev, .string b.root, .slice sa sn sc, .slice ra rn rc] 26) := ⟨_, rfl⟩
  have V1 : Hid (w1.heap[w.heap.size]? = some (.cells #[.int .u64 (b.seq : Int), .string b.prev, .string b.root, .slice sa sn sc, .slice ra rn rc] 26 (0, 0)) ∧ Below w.heap.size w w1) := by rw [hw1]; exact ⟨heap_alloc_new w _, below_new _ _⟩
  have q0 : ((be : Int) == 0) = false := by rw [beq_eq_false_iff_ne]; omega
  clear hU hK hB hbe hbe2 HBK
  go_enter Tryz.func6, Tryz.ntmps6
  go_upto_region 1 with fail
  rw [← hw1]
  clear hw1
  go_wp2_with fail
  refine (CL.out _ V1.out.2).mono ?_
  rintro e w2 ⟨rfl, hb2⟩
  have V2 : Hid (w2.heap[w.heap.size]? = some (.cells #[.int .u64 (b.seq : Int), .string b.prev, .string b.root, .slice sa sn sc, .slice ra rn rc] 26 (0, 0)) ∧ Below w.heap.size w w2) := ⟨blk_call V1.out.1 hb2, V1.out.2.trans (hb2.mono V1.out.2.size)⟩
  clear hb2 V1 CL
  have p0 := block_cells V2.out.1 0 _ rfl
  have p1 := block_cells V2.out.1 1 _ rfl
  have p2 := block_cells V2.out.1 2 _ rfl
  have p3 := block_cells V2.out.1 3 _ rfl
  have p4 := block_cells V2.out.1 4 _ rfl
  go_wp2_with fail
  refine (CS.out _ V2.out.2).mono ?_
  rintro e w3 ⟨rfl, hb3⟩
  have V3 : Hid (Below w.heap.size w w3) := V2.out.2.trans (hb3.mono V2.out.2.size)
  clear hb3 V2 CS p0 p1 p2 p3 p4
  go_upto_region 4 with fail
  obtain ⟨w4, hw4⟩ : ∃ w4, w4 = w3.alloc (.cells #[.int .u64 0, .string ⟨#[]⟩, .string ⟨#[]⟩, .int .u64 0, .string ⟨#[]⟩] 46) := ⟨_, rfl⟩
  have V4 : Hid (w4.heap[w3.heap.size]? = some (.cells #[.int .u64 0, .string ⟨#[]⟩, .string ⟨#[]⟩, .int .u64 0, .string ⟨#[]⟩] 46 (0, 0)) ∧ Below w.heap.size w w4) := by rw [hw4]; exact ⟨heap_alloc_new w3 _, V3.out.trans ((below_new _ _).mono V3.out.size)⟩
  rw [← hw4]
  clear hw4 V3
  have p0 := block_cells V4.out.1 0 _ rfl
  have p1 := block_cells V4.out.1 1 _ rfl
  have p2 := block_cells V4.out.1 2 _ rfl
  have p3 := block_cells V4.out.1 3 _ rfl
  have p4 := block_cells V4.out.1 4 _ rfl
  have HF := V4.out.2
  go_wp2
  go_ret
  exact ⟨rfl, HF⟩
end Go.Proofs.YtipekiknmgbdgaaGreatDoor
/- JournalOwn, walked: what is made is its asker's own. -/
namespace Go.Proofs.YtipekiknmgbdgaaGreatDoor
open Go.RowKit
open Vl (V)
attribute [local go_sem ↓] Go.wp_at_zero Go.wp_at_succ
/-- blocks between two bounds whose texts alone were changed -/
structure SP (W0 W : World) (Ba Ea : Nat) : Prop where
  below : Below Ba W0 W
  size : W.heap.size = W0.heap.size
  above : ∀ g, Ea ≤ g → W.heap[g]? = W0.heap[g]?
  cells : ∀ g r, W.cell? ⟨g, r, none⟩ = W0.cell? ⟨g, r, none⟩ ∨ ((∃ m, W0.cell? ⟨g, r, none⟩ = some (.string m)) ∧ ∃ m, W.cell? ⟨g, r, none⟩ = some (.string m))
  frozen : ∀ g r, W.frozen? ⟨g, r, none⟩ = W0.frozen? ⟨g, r, none⟩
theorem SP.refl (W : World) (Ba Ea : Nat) : SP W W Ba Ea := ⟨Below.refl _ _, rfl, fun _ _ => rfl, fun _ _ => .inl rfl, fun _ _ => rfl⟩
theorem SP.slice {W0 W : World} {Ba Ea g r : Nat} {a : Option Addr} {n c : Nat} (h : SP W0 W Ba Ea) (hc : W0.cell? ⟨g, r, none⟩ = some (.slice a n c)) : W.cell? ⟨g, r, none⟩ = some (.slice a n c) := by
  rcases h.cells g r with e | ⟨⟨m, e⟩, _⟩
  · exact e.trans hc
  · rw [hc] at e; cases e
theorem SP.text {W0 W : World} {Ba Ea g r : Nat} {m : ByteArray} (h : SP W0 W Ba Ea) (hc : W0.cell? ⟨g, r, none⟩ = some (.string m)) : ∃ m', W.cell? ⟨g, r, none⟩ = some (.string m') := by
  rcases h.cells g r with e | ⟨_, e⟩
  · exact ⟨m, e.trans hc⟩
  · exact e
theorem SP.set {W0 W : World} {Ba Ea g r : Nat} {m : ByteArray} (h : SP W0 W Ba Ea) (hc : W0.cell? ⟨g, r, none⟩ = some (.string m)) (h1 : Ba ≤ g) (h2 : g < Ea) (s : ByteArray) : SP W0 (W.setCell ⟨g, r, none⟩ (.string s)) Ba Ea := by
  obtain ⟨m', hm'⟩ := h.text hc
  refine ⟨h.below.setCell h1 _, by rw [← h.size]; simp, fun k hk => (heap_setCell_other _ _ _ _ (by show k ≠ g; omega)).trans (h.above k hk), fun k q => ?_, fun k q => (World.frozen?_setCell _ _ _ _).trans (h.frozen k q)⟩
  by_cases e : (⟨g, r, none⟩ : Addr) = ⟨k, q, none⟩
  · right
    cases e
    exact ⟨⟨m, hc⟩, s, World.cell?_setCell_same _ _ _ hm'⟩
  · rw [World.cell?_setCell_other _ _ _ _ e]
    exact h.cells k q
/-- the fields of revisions, as they lie -/
def FRw (W : World) (Ba Ea : Nat) (ua : Option Addr) (un : Nat) : Prop :=
  0 < un → ∃ g o, ua = some ⟨g, o, none⟩ ∧ ∀ i, i < un → ∃ fo fl fc, W.cell? ⟨g, o + i * 10 + 9, none⟩ = some (.slice fo fl fc) ∧ fl ≤ maxLen ∧ (0 < fl → ∃ h q, fo = some ⟨h, q, none⟩ ∧ Ba ≤ h ∧ h < Ea ∧ (∀ r, W.frozen? ⟨h, r, none⟩ = false) ∧ ∀ k, k < fl → ∃ m, W.cell? ⟨h, q + k * 7, none⟩ = some (.string m))
theorem frw_of {W : World} {Ba rn rc : Nat} {ra : Option Addr} {b : Jn.B} {sv : Value} (h : BkN W Ba b sv (.slice ra rn rc)) : FRw W Ba W.heap.size ra rn := by
  intro hp
  obtain ⟨cs, h1, h2⟩ := h.row4
  have hn : rn = b.revs.length := by
    obtain ⟨_, _, e⟩ := own_slc h1
    cases e; rfl
  subst hn
  obtain ⟨g, cap, e, hb, hl, ho, hc⟩ := own_row hp h1
  cases e
  refine ⟨g, 0, rfl, fun i hi => ?_⟩
  obtain ⟨c4, c5, c6, c7, c8, c9, k1, k2, _⟩ := h2.2 i _ (List.getElem?_eq_getElem hi)
  obtain ⟨v0, hv⟩ : ∃ v0, v0 = (b.revs[i]).val := ⟨_, rfl⟩
  rw [← hv] at k2
  obtain ⟨k0, b0, n0, s0, l0, f0⟩ := v0
  rw [RepA] at k2
  obtain ⟨ao, lc, fo, fc, he, _, _, _, _, hfl, _, hF⟩ := k2
  simp only [Value.agg.injEq, Array.mk.injEq, List.cons.injEq, and_true] at he
  obtain ⟨rfl, rfl, rfl, rfl, rfl, rfl⟩ := he
  refine ⟨fo, f0.length, fc, ?_, hfl, fun hq => ?_⟩
  · have := hc (i * 10 + 9) _ (k1 9 _ rfl)
    rw [Nat.zero_add]; exact this
  · obtain ⟨h', q, e, hA, hR, hz⟩ := hF hq
    refine ⟨h', q, e, hA.1, hA.2.1, hz, fun k hk => ?_⟩
    obtain ⟨⟨m, x⟩, hx⟩ : ∃ x, f0[k]? = some x := ⟨_, List.getElem?_eq_getElem hk⟩
    exact ⟨m, (repFA_at f0 q hR k m x hx).1⟩
theorem make_any {c : Jn.B} {W W' : World} {e : Ending} (hc : c.revs.length ≤ maxLen) (h : MakeGave c W e W') : ∃ (sq : Nat) (pv rt : ByteArray) (ta : Option Addr) (tn tc : Nat) (ua : Option Addr) (un uc : Nat), e = .returned (.tuple #[.agg #[.int .u64 (sq : Int), .string pv, .string rt, .slice ta tn tc, .slice ua un uc], .int .i64 (Jn.berr c : Int)]) ∧ Below W.heap.size W W' ∧ un ≤ maxLen ∧ FRw W' W.heap.size W'.heap.size ua un ∧
    (Jn.berr c = 0 → sq = c.seq ∧ pv = c.prev ∧ rt = c.root ∧ BkN W' W.heap.size c (.slice ta tn tc) (.slice ua un uc)) := by
  obtain ⟨hb, ⟨h0, sv, rv, rfl, hk⟩ | ⟨h0, rfl⟩⟩ := h
  · obtain ⟨cs, h1, h2⟩ := hk.row4
    obtain ⟨ta, tc, rfl⟩ := own_slc hk.row3
    obtain ⟨ua, uc, rfl⟩ := own_slc h1
    exact ⟨c.seq, c.prev, c.root, ta, _, tc, ua, _, uc, by rw [h0]; rfl, hb, hc, frw_of hk, fun _ => ⟨rfl, rfl, rfl, hk⟩⟩
  · exact ⟨0, ⟨#[]⟩, ⟨#[]⟩, none, 0, 0, none, 0, 0, rfl, hb, Nat.zero_le _, fun h => absurd h (by omega), fun h => absurd h h0⟩
theorem FRw.sp {W0 W : World} {Ba Ea un : Nat} {ua : Option Addr} (h : FRw W0 Ba Ea ua un) (hb : Below W0.heap.size W0 W) (hE : Ea ≤ W0.heap.size) : FRw W Ba Ea ua un := by
  intro hp
  obtain ⟨g, o, e, hi⟩ := h hp
  refine ⟨g, o, e, fun i hlt => ?_⟩
  obtain ⟨fo, fl, fc, h1, h2, h3⟩ := hi i hlt
  refine ⟨fo, fl, fc, (hb.cell (p := ⟨g, o + i * 10 + 9, none⟩) (Bn.lt_of_cell h1)).trans h1, h2, fun hq => ?_⟩
  obtain ⟨h', q, e', k1, k2, k3, k4⟩ := h3 hq
  refine ⟨h', q, e', k1, k2, fun r => (hb.frozen (p := ⟨h', r, none⟩) (by show h' < W0.heap.size; omega)).trans (k3 r), fun k hk => ?_⟩
  obtain ⟨m, hm⟩ := k4 k hk
  exact ⟨m, (hb.cell (p := ⟨h', q + k * 7, none⟩) (by show h' < W0.heap.size; omega)).trans hm⟩
theorem BkN.above {W W' : World} {base : Nat} {b : Jn.B} {sv rv : Value} (h : BkN W base b sv rv) (hb : ∀ g, base ≤ g → W'.heap[g]? = W.heap[g]?) (hs : W'.heap.size = W.heap.size) : BkN W' base b sv rv :=
  ⟨h.seq, h.prev, h.root, h.small, h.len, own_keep h.row3 (fun g hg _ => hb g hg), h.row4.imp fun _ hc => ⟨own_keep hc.1 (fun g hg _ => hb g hg), hc.2.step fun g hg => ⟨hb g hg.1, hg.1, by rw [hs]; exact hg.2.1, hg.2.2⟩⟩⟩
end Go.Proofs.YtipekiknmgbdgaaGreatDoor
/- JournalOwn, walked. -/
namespace Go.Proofs.YtipekiknmgbdgaaGreatDoor
open Go.RowKit
open Vl (V)
attribute [local go_sem ↓] Go.wp_at_zero Go.wp_at_succ
theorem revs_stay {W W' : World} {rs : List Jn.R} {ra : Option Addr} {rn : Nat} (h : 0 < rn → ∃ g o, ra = some ⟨g, o, none⟩ ∧ g < W.heap.size ∧ ∀ i r, rs[i]? = some r → RevAt W W.heap.size g (o + i * 10) r) (hb : Below W.heap.size W W') : 0 < rn → ∃ g o, ra = some ⟨g, o, none⟩ ∧ g < W'.heap.size ∧ ∀ i r, rs[i]? = some r → RevAt W' W'.heap.size g (o + i * 10) r := fun hp => by
  obtain ⟨g, o, e, hg, hr⟩ := h hp
  exact ⟨g, o, e, Nat.lt_of_lt_of_le hg hb.size, fun i r hi => (hr i r hi).stays hb hg hb.size⟩
set_option maxHeartbeats 16000000 in
set_option maxRecDepth 100000 in
theorem own_c (rs : List Jn.R) (ra : Option Addr) (rc : Nat) (a : Option Addr) (n c : Nat) (l : List ByteArray) (w : World) (hU : Bn.HasU w) (hK : HasK w) (hl : rs.length * 120 ≤ 140737488351232) (hs : ∀ r ∈ rs, Vl.small r.val) (hR : 0 < rs.length → ∃ g o, ra = some ⟨g, o, none⟩ ∧ g < w.heap.size ∧ ∀ i r, rs[i]? = some r → RevAt w w.heap.size g (o + i * 10) r) (hS : Sl w w.heap.size (.slice a n c) (l.map fun s => s.data.toList)) (hx : ∀ s ∈ l, s.size ≤ maxLen) :
    Calls Tryz.prog 7 #[.slice ra rs.length rc, .slice a n c] w fun e w' => e = .returned (.bool true) ∧ Below w.heap.size w w' := by
  obtain ⟨rn, hrn⟩ : ∃ rn, rn = rs.length := ⟨_, rfl⟩
  have HRN : Hid (rn = rs.length) := hrn
  have HLM : Hid (rs.length ≤ maxLen) := by show _ ≤ _; unfold maxLen; omega
  have HU : Hid (∀ W, Below w.heap.size w W → Bn.HasU W) := fun W hW => hU.stays hW
  have HK : Hid (∀ W, Below w.heap.size w W → HasK W) := fun W hW => hK.below hK.1 hW
  have HSL : Hid (∀ W, Below w.heap.size w W → Sl W W.heap.size (.slice a n c) (l.map fun s => s.data.toList)) := fun W hW => (hS.stays hW (Nat.le_refl _)).mono hW.size
  have HX : Hid (∀ s ∈ l, s.size ≤ maxLen) := hx
  have HRV : Hid (∀ W, Below w.heap.size w W → 0 < rn → ∃ g o, ra = some ⟨g, o, none⟩ ∧ g < W.heap.size ∧ ∀ i r, rs[i]? = some r → RevAt W W.heap.size g (o + i * 10) r) := fun W hW => revs_stay (by rw [hrn]; exact hR) hW
  have CL : Hid (∀ W, Below w.heap.size w W → Calls Tryz.prog 8 #[] W fun e w' => e = .returned (.bool true) ∧ Below W.heap.size W w') := fun W hW => livesJ_c W (HU.out W hW) (HK.out W hW)
  have CC : Hid (∀ W, Below w.heap.size w W → Calls Tryz.prog 23 #[.slice ra rn rc] W fun e w' => ∃ ga gc, e = .returned (.slice ga rn gc) ∧ Below W.heap.size W w' ∧ (0 < rn → ∃ g o, ga = some ⟨g, o, none⟩ ∧ g < w'.heap.size ∧ ∀ i r, rs[i]? = some r → RevAt w' w'.heap.size g (o + i * 10) r)) := fun W hW => by
    refine (copyRevs_c rs ra rn rc W hrn (by rw [hrn]; exact hl) hs (HRV.out W hW)).mono ?_
    rintro e w' ⟨lv, rfl, h⟩
    obtain ⟨cs, h1, h2⟩ := h.row
    obtain ⟨ga, gc, rfl⟩ := own_slc h1
    rw [← hrn]
    refine ⟨ga, gc, rfl, h.below, ?_⟩
    rw [hrn]
    exact (revs_kept h1 h2 HLM.out).2
  have CF : Hid (∀ W, Calls Tryz.prog 16 #[] W fun e w' => e = .returned (.string Jn.ahead) ∧ Below W.heap.size W w') := fun W => firstL_c W
  obtain ⟨cb, hcb⟩ : ∃ cb, cb = Jn.made 1 Jn.ahead l rs := ⟨_, rfl⟩
  obtain ⟨be, hbe⟩ : ∃ be, be = Jn.berr cb := ⟨_, rfl⟩
  have HCB : Hid (cb.revs = rs) := by show _ = _; rw [hcb]; rfl
  have CM : Hid (∀ ga gc W, Below w.heap.size w W → (0 < rn → ∃ g o, ga = some ⟨g, o, none⟩ ∧ g < W.heap.size ∧ ∀ i r, rs[i]? = some r → RevAt W W.heap.size g (o + i * 10) r) → Calls Tryz.prog 24 #[.int .u64 1, .string Jn.ahead, .slice a n c, .slice ga rn gc] W fun e w' => ∃ (sq : Nat) (pv rt : ByteArray) (ta : Option Addr) (tn tc : Nat) (ua : Option Addr) (un uc : Nat), e = .returned (.tuple #[.agg #[.int .u64 (sq : Int), .string pv, .string rt, .slice ta tn tc, .slice ua un uc], .int .i64 (be : Int)]) ∧ Below W.heap.size W w' ∧ un ≤ maxLen ∧ FRw w' W.heap.size w'.heap.size ua un ∧
    (be = 0 → sq = cb.seq ∧ pv = cb.prev ∧ rt = cb.root ∧ BkN w' W.heap.size cb (.slice ta tn tc) (.slice ua un uc))) := fun ga gc W hW hr => by
    have h := make_c 1 Jn.ahead l rs a n c ga rn gc W (HU.out W hW) (HK.out W hW) ⟨by show 1 < 18446744073709551616; decide, by show Jn.ahead.size ≤ maxLen; decide, by show Jn.ahead.size ≤ maxLen; decide, HSL.out W hW, HX.out, hrn, by rw [hrn]; exact HLM.out, hr⟩
    rw [← hcb] at h
    refine h.mono ?_
    intro e w' he
    obtain ⟨sq, pv, rt, ta, tn, tc, ua, un, uc, k1, k2, k3, k4, k5⟩ := make_any (by rw [HCB.out]; exact HLM.out) he
    rw [← hbe] at k1 k5
    exact ⟨sq, pv, rt, ta, tn, tc, ua, un, uc, k1, k2, k3, k4, k5⟩
  rw [← hrn]
  have CS : Hid (∀ ga gc ga' gc' W, (0 < rn → ∃ g o, ga = some ⟨g, o, none⟩ ∧ g < W.heap.size ∧ ∀ i r, rs[i]? = some r → RevAt W W.heap.size g (o + i * 10) r) → (0 < rn → ∃ g o, ga' = some ⟨g, o, none⟩ ∧ g < W.heap.size ∧ ∀ i r, rs[i]? = some r → RevAt W W.heap.size g (o + i * 10) r) → Calls Tryz.prog 25 #[.slice ga rn gc, .slice ga' rn gc'] W fun e w' => e = .returned (.bool true) ∧ Below W.heap.size W w') := fun ga gc ga' gc' W h1 h2 =>
    sameRevs_c rs ga rn gc ga' gc' W hrn (by rw [hrn]; exact HLM.out) h1 h2
  clear hU hK hl hs hR hS hx hrn hcb
  have HBE : Hid (be = Jn.berr cb) := hbe
  clear hbe
  go_enter Tryz.func7, Tryz.ntmps7
  go_wp2_with fail
  refine (CL.out w (Below.refl _ _)).mono ?_
  rintro e w1 ⟨rfl, hb1⟩
  have B1 : Hid (Below w.heap.size w w1) := hb1
  clear hb1 CL
  go_wp2_with fail
  refine (CC.out w1 B1.out).mono ?_
  rintro e w2 ⟨ga, gc, rfl, hb2, hg2⟩
  have B2 : Hid (Below w.heap.size w w2 ∧ (0 < rn → ∃ g o, ga = some ⟨g, o, none⟩ ∧ g < w2.heap.size ∧ ∀ i r, rs[i]? = some r → RevAt w2 w2.heap.size g (o + i * 10) r)) := ⟨B1.out.trans (hb2.mono B1.out.size), hg2⟩
  clear hb2 hg2 B1 CC
  go_wp2_with fail
  refine (CF.out w2).mono ?_
  rintro e w3 ⟨rfl, hb3⟩
  have B3 : Hid (Below w.heap.size w w3 ∧ (0 < rn → ∃ g o, ga = some ⟨g, o, none⟩ ∧ g < w3.heap.size ∧ ∀ i r, rs[i]? = some r → RevAt w3 w3.heap.size g (o + i * 10) r)) := ⟨B2.out.1.trans (hb3.mono B2.out.1.size), revs_stay B2.out.2 hb3⟩
  clear hb3 B2
  go_wp2_with fail
  refine (CM.out ga gc w3 B3.out.1 B3.out.2).mono ?_
  rintro e w4 ⟨sq, pv, rt, ta, tn, tc, ua, un, uc, rfl, hb4, hun, hfr, -⟩
  have B4 : Hid (Below w.heap.size w w4 ∧ (0 < rn → ∃ g o, ga = some ⟨g, o, none⟩ ∧ g < w4.heap.size ∧ ∀ i r, rs[i]? = some r → RevAt w4 w4.heap.size g (o + i * 10) r) ∧ FRw w4 w3.heap.size w4.heap.size ua un ∧ w3.heap.size ≤ w4.heap.size ∧ Below w3.heap.size w3 w4) := ⟨B3.out.1.trans (hb4.mono B3.out.1.size), revs_stay B3.out.2 hb4, hfr, hb4.size, hb4⟩
  clear hb4 hfr
  go_upto_region 5 with fail
  obtain ⟨w5, hw5⟩ : ∃ w5, w5 = w4.alloc (.cells #[.int .u64 (sq : Int), .string pv, .string rt, .slice ta tn tc, .slice ua un uc] 26) := ⟨_, rfl⟩
  obtain ⟨A, hA⟩ : ∃ A, A = w4.heap.size := ⟨_, rfl⟩
  have V5 : Hid (w5.heap[A]? = some (.cells #[.int .u64 (sq : Int), .string pv, .string rt, .slice ta tn tc, .slice ua un uc] 26 (0, 0)) ∧ Below w4.heap.size w4 w5 ∧ A = w4.heap.size) := by rw [hw5, hA]; exact ⟨heap_alloc_new w4 _, below_new _ _, rfl⟩
  rw [← hw5, ← hA]
  clear hw5 hA
  go_wp2_with fail
  refine (CF.out w5).mono ?_
  rintro e w6 ⟨rfl, hb6⟩
  have V6 : Hid (w6.heap[A]? = some (.cells #[.int .u64 (sq : Int), .string pv, .string rt, .slice ta tn tc, .slice ua un uc] 26 (0, 0)) ∧ Below w4.heap.size w4 w6 ∧ A = w4.heap.size) := ⟨blk_call V5.out.1 hb6, V5.out.2.1.trans (hb6.mono V5.out.2.1.size), V5.out.2.2⟩
  clear hb6 V5 CF
  go_wp2_with fail
  refine (CM.out ga gc w6 (B4.out.1.trans (V6.out.2.1.mono B4.out.1.size)) (revs_stay B4.out.2.1 V6.out.2.1)).mono ?_
  rintro e w7 ⟨sq2, pv2, rt2, ta2, tn2, tc2, ua2, un2, uc2, rfl, hb7, -, -, hk7⟩
  have V7 : Hid (w7.heap[A]? = some (.cells #[.int .u64 (sq : Int), .string pv, .string rt, .slice ta tn tc, .slice ua un uc] 26 (0, 0)) ∧ Below w4.heap.size w4 w7 ∧ A = w4.heap.size ∧ w4.heap.size ≤ w6.heap.size ∧ (be = 0 → sq2 = cb.seq ∧ pv2 = cb.prev ∧ rt2 = cb.root ∧ BkN w7 w6.heap.size cb (.slice ta2 tn2 tc2) (.slice ua2 un2 uc2))) := ⟨blk_call V6.out.1 hb7, V6.out.2.1.trans (hb7.mono V6.out.2.1.size), V6.out.2.2, V6.out.2.1.size, hk7⟩
  clear hb7 hk7 V6 CM
  go_upto_region 6 with fail
  obtain ⟨w8, hw8⟩ : ∃ w8, w8 = w7.alloc (.cells #[.int .u64 (sq2 : Int), .string pv2, .string rt2, .slice ta2 tn2 tc2, .slice ua2 un2 uc2] 26) := ⟨_, rfl⟩
  obtain ⟨B, hB⟩ : ∃ B, B = w7.heap.size := ⟨_, rfl⟩
  have V8 : Hid (w8.heap[A]? = some (.cells #[.int .u64 (sq : Int), .string pv, .string rt, .slice ta tn tc, .slice ua un uc] 26 (0, 0)) ∧ w8.heap[B]? = some (.cells #[.int .u64 (sq2 : Int), .string pv2, .string rt2, .slice ta2 tn2 tc2, .slice ua2 un2 uc2] 26 (0, 0)) ∧ Below w4.heap.size w4 w8 ∧ A = w4.heap.size ∧ w4.heap.size ≤ w6.heap.size ∧ w4.heap.size ≤ B ∧ (be = 0 → sq2 = cb.seq ∧ pv2 = cb.prev ∧ rt2 = cb.root ∧ BkN w8 w6.heap.size cb (.slice ta2 tn2 tc2) (.slice ua2 un2 uc2))) := by
    have h7 := V7.out
    have hb := below_new w7 (.cells #[.int .u64 (sq2 : Int), .string pv2, .string rt2, .slice ta2 tn2 tc2, .slice ua2 un2 uc2] 26)
    rw [hw8, hB]
    exact ⟨blk_call h7.1 hb, heap_alloc_new w7 _, h7.2.1.trans (hb.mono h7.2.1.size), h7.2.2.1, h7.2.2.2.1, h7.2.1.size, fun h => ⟨(h7.2.2.2.2 h).1, (h7.2.2.2.2 h).2.1, (h7.2.2.2.2 h).2.2.1, (h7.2.2.2.2 h).2.2.2.stays hb⟩⟩
  rw [← hw8, ← hB]
  clear hw8 hB V7
  have F8 : Hid (FRw w8 w3.heap.size w4.heap.size ua un) := B4.out.2.2.1.sp V8.out.2.2.1 (Nat.le_refl _)
  have HUN : Hid (un ≤ 9223372036854775807) := by show _ ≤ _; unfold maxLen at hun; omega
  clear hun
  have p4 := block_cells V8.out.1 4 _ rfl
  go_wp2
  go_loopw [33] (fun i wr => ∃ (j : Nat), j ≤ un ∧ i = .int .i64 j ∧ SP w8 wr w3.heap.size w4.heap.size) (fun i _ => un - (intOf i).toNat)
  case atStart => exact ⟨0, Nat.zero_le _, rfl, SP.refl _ _ _⟩
  case round =>
    obtain ⟨j, hj, rfl, hS⟩ := hrel
    have S : Hid (SP w8 wr w3.heap.size w4.heap.size) := hS
    clear hS p4
    have hj63 : j ≤ 9223372036854775807 := Nat.le_trans hj HUN.out
    by_cases hlt : j < un
    · obtain ⟨g, o, rfl, hi⟩ := F8.out (by omega)
      obtain ⟨fo, fl, fc, hc, hfl, hF⟩ := hi j hlt
      have HF : Hid (0 < fl → ∃ h q, fo = some ⟨h, q, none⟩ ∧ w3.heap.size ≤ h ∧ h < w4.heap.size ∧ (∀ r, w8.frozen? ⟨h, r, none⟩ = false) ∧ ∀ k, k < fl → ∃ m, w8.cell? ⟨h, q + k * 7, none⟩ = some (.string m)) := hF
      have HC : Hid (∀ W, SP w8 W w3.heap.size w4.heap.size → W.cell? ⟨g, o + j * 10 + 9, none⟩ = some (.slice fo fl fc) ∧ W.cell? ⟨A, 4, none⟩ = some (.slice (some ⟨g, o, none⟩) un uc)) := fun W hW => ⟨hW.slice hc, block_cells ((hW.above A (by have := V8.out.2.2.2.1; omega)).trans V8.out.1) 4 _ rfl⟩
      clear hi hc hF
      have HFL : Hid (fl ≤ 9223372036854775807) := by show _ ≤ _; unfold maxLen at hfl; omega
      clear hfl
      obtain ⟨p9, p4⟩ := HC.out _ S.out
      have q0 : (j : Int) < (un : Int) := by omega
      obtain ⟨w0, rfl⟩ : ∃ w0, w0 = wr := ⟨_, rfl⟩
      go_wp2
      go_loopw [44] (fun i wr => ∃ (k : Nat), k ≤ fl ∧ i = .int .i64 k ∧ SP w8 wr w3.heap.size w4.heap.size) (fun i _ => fl - (intOf i).toNat)
      case atStart => exact ⟨0, Nat.zero_le _, rfl, S.out⟩
      case round =>
        obtain ⟨k, hk, rfl, hS2⟩ := hrel
        have S2 : Hid (SP w8 wr w3.heap.size w4.heap.size) := hS2
        clear hS2 p9 p4 S
        obtain ⟨p9, p4⟩ := HC.out _ S2.out
        by_cases hlt2 : k < fl
        · have hk63 : (k : Int) ≤ 9223372036854775806 := by have := HFL.out; omega
          have hw1 : wrap64 ((k : Int) + 1) = (k : Int) + 1 := by unfold wrap64; omega
          have q1 : (k : Int) < (fl : Int) := by omega
          obtain ⟨h, q, rfl, hh1, hh2, hz, hcl⟩ := HF.out (by omega)
          obtain ⟨m, hm⟩ := hcl k hlt2
          obtain ⟨m', hm'⟩ := S2.out.text hm
          have fz : wr.frozen? ⟨h, q + k * 7, none⟩ = false := (S2.out.frozen _ _).trans (hz _)
          have S3 : Hid (SP w8 (wr.setCell ⟨h, q + k * 7, none⟩ (.string { data := #[115, 112, 111, 105, 108, 116] })) w3.heap.size w4.heap.size) := S2.out.set hm hh1 hh2 _
          clear hz hcl hm hh1 hh2
          go_wp2
          go_roundw
          case rel => exact ⟨k + 1, by omega, by go_num, S3.out⟩
          case measure => simp [intOf]; omega
        · have q1 : ¬ (k : Int) < (fl : Int) := by omega
          have hw2 : wrap64 ((j : Int) + 1) = (j : Int) + 1 := by have := HUN.out; unfold wrap64; omega
          go_wp2
          rw [hw2]
          refine ⟨⟨j + 1, by omega, rfl, S2.out⟩, ?_⟩
          show un - ((j : Int) + 1).toNat < un - ((j : Int)).toNat
          omega
    · have q0 : ¬ (j : Int) < (un : Int) := by omega
      obtain ⟨wz, hwz⟩ : ∃ wz, wz = wr := ⟨_, rfl⟩
      rw [← hwz] at S
      rw [← hwz]
      clear hwz
      have HBZ : Hid (Below w.heap.size w wz) := (B3.out.1.trans ((B4.out.2.2.2.2.trans (V8.out.2.2.1.mono B4.out.2.2.2.1)).mono B3.out.1.size)).trans (S.out.below.mono B3.out.1.size)
      have HB3 : Hid (Below w3.heap.size w3 wz) := (B4.out.2.2.2.2.trans (V8.out.2.2.1.mono B4.out.2.2.2.1)).trans S.out.below
      have HG : Hid (0 < rn → ∃ g o, ga = some ⟨g, o, none⟩ ∧ g < wz.heap.size ∧ ∀ i r, rs[i]? = some r → RevAt wz wz.heap.size g (o + i * 10) r) := revs_stay B3.out.2 HB3.out
      have HR2 : Hid (0 < rn → ∃ g o, ra = some ⟨g, o, none⟩ ∧ g < wz.heap.size ∧ ∀ i r, rs[i]? = some r → RevAt wz wz.heap.size g (o + i * 10) r) := HRV.out wz HBZ.out
      have VB : Hid (wz.heap[B]? = some (.cells #[.int .u64 (sq2 : Int), .string pv2, .string rt2, .slice ta2 tn2 tc2, .slice ua2 un2 uc2] 26 (0, 0))) := (S.out.above B V8.out.2.2.2.2.2.1).trans V8.out.2.1
      have hee : ((be : Int) == (be : Int)) = true := beq_self_eq_true _
      by_cases h0 : be = 0
      · obtain ⟨k1, k2, k3, k4⟩ := V8.out.2.2.2.2.2.2 h0
        subst k1 k2 k3
        have kz : BkN wz w6.heap.size cb (.slice ta2 tn2 tc2) (.slice ua2 un2 uc2) := k4.above (fun g hg => S.out.above g (Nat.le_trans V8.out.2.2.2.2.1 hg)) S.out.size
        have hbk := kz.bk
        obtain rfl : un2 = rn := by rw [hbk.many, HCB.out, ← HRN.out]
        have HB2 : Hid (0 < un2 → ∃ g o, ua2 = some ⟨g, o, none⟩ ∧ g < wz.heap.size ∧ ∀ i r, rs[i]? = some r → RevAt wz wz.heap.size g (o + i * 10) r) := by
          have h := hbk.revs
          rw [HCB.out] at h
          exact h
        have CK : Hid (∀ W, Below wz.heap.size wz W → Calls Tryz.prog 12 #[.agg #[.int .u64 (cb.seq : Int), .string cb.prev, .string cb.root, .slice ta2 tn2 tc2, .slice ua2 un2 uc2]] W fun e w' => e = .returned (.int .i64 0) ∧ Below W.heap.size W w') := fun W hW => by
          have h := check_c cb ta2 tn2 tc2 ua2 un2 uc2 W (HU.out W (HBZ.out.trans (hW.mono HBZ.out.size))) (HK.out W (HBZ.out.trans (hW.mono HBZ.out.size))) (hbk.stays hW hW.size)
          rw [← HBE.out, h0] at h
          exact h
        have q3 : ((be : Int) == 0) = true := by rw [beq_iff_eq]; omega
        have q5 : ((be : Int) != 0) = false := by rw [bne, q3]; rfl
        clear k4 kz hbk h0
        go_wp2_with fail
        refine (CS.out ga gc ra rc wz HG.out HR2.out).mono ?_
        rintro e wy ⟨rfl, hby⟩
        have HBY : Hid (Below wz.heap.size wz wy) := hby
        have p4 := block_cells (blk_call VB.out hby) 4 _ rfl
        clear hby
        go_wp2_with fail
        refine (CS.out ua2 uc2 ra rc wy (revs_stay HB2.out HBY.out) (revs_stay HR2.out HBY.out)).mono ?_
        rintro e wx ⟨rfl, hbx⟩
        have HBX : Hid (Below wz.heap.size wz wx) := HBY.out.trans (hbx.mono HBY.out.size)
        clear hbx HBY p4
        have vb := blk_call VB.out HBX.out
        have p0 := block_cells vb 0 _ rfl
        have p1 := block_cells vb 1 _ rfl
        have p2 := block_cells vb 2 _ rfl
        have p3 := block_cells vb 3 _ rfl
        have p4 := block_cells vb 4 _ rfl
        clear vb
        go_wp2_with fail
        refine (CK.out wx HBX.out).mono ?_
        rintro e wv ⟨rfl, hbv⟩
        have HF := HBZ.out.trans ((HBX.out.trans (hbv.mono HBX.out.size)).mono HBZ.out.size)
        clear hbv p0 p1 p2 p3 p4
        go_wp2
        go_ret
        exact ⟨rfl, HF⟩
      · have q3 : ((be : Int) == 0) = false := by rw [beq_eq_false_iff_ne]; omega
        have q4 : ¬ (be : Int) = 0 := by omega
        have q5 : ((be : Int) != 0) = true := by rw [bne, q3]; rfl
        go_wp2_with fail
        refine (CS.out ga gc ra rc wz HG.out HR2.out).mono ?_
        rintro e wy ⟨rfl, hby⟩
        have HF := HBZ.out.trans (hby.mono HBZ.out.size)
        clear hby
        go_wp2
        go_ret
        exact ⟨rfl, HF⟩
end Go.Proofs.YtipekiknmgbdgaaGreatDoor
