/- Peaks grow by a text's leaf. -/
import Derived.Test.YtoldfepeldbcpaaDoorMkO
namespace Go.Proofs.YtoldfepeldbcpaaDoor
open Go.RowKit
attribute [local go_sem ↓] Go.wp_at_zero Go.wp_at_succ
theorem results_row_tmp {P : Program} {fn : Func} {p u : Tmp} {ty : TypeId} (h : fn.results = #[.cell p ty, .tmp u]) (tmps : Array Value) (w : World) (g : Nat) (t : TypeId) (cs : Array Value) (fr : Nat × Nat) (d : TypeDesc)
    (hp : tmps.getD p undef = .pointer (some ⟨g, 0, none⟩)) (hg : w.heap[g]? = some (.cells cs t fr))
    (hu : P.underlying ty = some d) (hd : (match d with | .struct _ | .array _ _ => true | _ => false) = true) (hi : (P.info? ty).map (·.size) = some cs.size) :
    (results fn tmps).run P w = .ok (.tuple #[.agg cs, tmps.getD u undef]) w := by
  rw [results_cell_tmp h, hp]
  simp [asAddr, run_loadVar_row w g t ty cs fr d hg hu hd hi]
theorem info_peaks : (Tryd.prog.info? 35).map (·.size) = some 2 := by kernel_rfl
/-- the boxes of peaks that are handed in, and of those that are handed back -/
def PS (w : World) (c : Int) (tv : Value) (W : World) : Prop := W.heap[w.heap.size]? = some (.cells #[.int .i64 c, tv] 35 (0, 0)) ∧ W.heap[w.heap.size + 1]? = some (.cells #[.int .i64 0, .slice none 0 0] 35 (0, 0)) ∧ w.heap.size + 2 ≤ W.heap.size ∧ Below w.heap.size w W
theorem PS.start (w : World) (c : Int) (tv : Value) : PS w c tv ((w.alloc (.cells #[.int .i64 c, tv] 35)).alloc (.cells #[.int .i64 0, .slice none 0 0] 35)) := by
  refine ⟨?_, ?_, by simp, ((Below.refl _ _).alloc (Nat.le_refl _) _).alloc (by simp) _⟩
  · exact (Below.heap_alloc _ _ _ (by simp)).trans (heap_alloc_new w _)
  · have := heap_alloc_new (w.alloc (.cells #[.int .i64 c, tv] 35)) (.cells #[.int .i64 0, .slice none 0 0] 35)
    rw [World.size_alloc] at this
    exact this
theorem PS.call {w W W' : World} {c : Int} {tv : Value} (h : PS w c tv W) (hb : Below W.heap.size W W') : PS w c tv W' :=
  ⟨(hb.block _ (by have := h.2.2.1; omega)).trans h.1, (hb.block _ (by have := h.2.2.1; omega)).trans h.2.1, Nat.le_trans h.2.2.1 hb.size, h.2.2.2.trans (hb.mono (by have := h.2.2.1; omega))⟩
theorem PS.grown {w W W' : World} {c : Int} {tv : Value} {row : Option Nat} (h : PS w c tv W) (hg : W.grownBy W' row) (hr : ∀ k, row = some k → w.heap.size + 2 ≤ k) : PS w c tv W' := by
  have key : ∀ k, k < w.heap.size + 2 → W'.heap[k]? = W.heap[k]? := fun k hk => hg.block k (by have := h.2.2.1; omega) (fun e => by have := hr k e.symm; omega)
  exact ⟨(key _ (by omega)).trans h.1, (key _ (by omega)).trans h.2.1, Nat.le_trans h.2.2.1 hg.size, ⟨hg.os.trans h.2.2.2.os, hg.tape.trans h.2.2.2.tape, hg.output.trans h.2.2.2.output, Nat.le_trans h.2.2.2.size hg.size, fun k hk => (key k (by omega)).trans (h.2.2.2.block k hk)⟩⟩
theorem PS.drew {w W : World} {c : Int} {tv : Value} (h : PS w c tv W) : PS w c tv W.drew := h.call ((Below.refl _ _).drew)
theorem PS.cells {w W : World} {c : Int} {tv : Value} (h : PS w c tv W) : W.cell? ⟨w.heap.size, 0, none⟩ = some (.int .i64 c) ∧ W.cell? ⟨w.heap.size, 1, none⟩ = some tv ∧ W.cell? ⟨w.heap.size + 1, 0, none⟩ = some (.int .i64 0) ∧ W.cell? ⟨w.heap.size + 1, 1, none⟩ = some (.slice none 0 0) := by
  refine ⟨?_, ?_, ?_, ?_⟩
  · rw [cell_of_row W _ _ _ 35 (0, 0) h.1]; rfl
  · rw [cell_of_row W _ _ _ 35 (0, 0) h.1]; rfl
  · rw [cell_of_row W _ _ _ 35 (0, 0) h.2.1]; rfl
  · rw [cell_of_row W _ _ _ 35 (0, 0) h.2.1]; rfl
theorem PS.free {w W : World} {c : Int} {tv : Value} (h : PS w c tv W) : ∀ j, W.frozen? ⟨w.heap.size + 1, j, none⟩ = false := row_free h.2.1
theorem PS.set {w W : World} {c : Int} {tv : Value} (h : PS w c tv W) (y0 y1 : Value) : ((W.setCell ⟨w.heap.size + 1, 0, none⟩ y0).setCell ⟨w.heap.size + 1, 1, none⟩ y1).heap[w.heap.size + 1]? = some (.cells #[y0, y1] 35 (0, 0)) ∧ Below w.heap.size w ((W.setCell ⟨w.heap.size + 1, 0, none⟩ y0).setCell ⟨w.heap.size + 1, 1, none⟩ y1) := by
  have e : (W.setCell ⟨w.heap.size + 1, 0, none⟩ y0).setCell ⟨w.heap.size + 1, 1, none⟩ y1 = W.setCells (w.heap.size + 1) 0 #[y0, y1].toList := rfl
  rw [e]
  exact ⟨row_stored h.2.1 _ rfl, below_setCells (Nat.le_succ _) _ _ h.2.2.2⟩
theorem ones_pos {j : Nat} (h : j % 2 = 1) : 1 ≤ Mk.ones j := by rw [Mk.ones_step]; omega
theorem ones_half {j : Nat} (h : j % 2 = 1) : Mk.ones j = Mk.ones (j / 2) + 1 := by rw [Mk.ones_step j]; omega
set_option maxHeartbeats 8000000 in
set_option maxRecDepth 10000 in
theorem add_no (c : Int) (s : ByteArray) (ta : Option Addr) (tn tc : Nat) (l : List (List UInt8)) (hl : l.length ≤ 9223372036854775807) (H : Nat) (w : World) (hH : H ≤ w.heap.size) (hS : Sl w H (.slice ta tn tc) l) (hr : Mk.rightP c l = false) :
    Calls Tryd.prog 12 #[.agg #[.int .i64 c, .slice ta tn tc], .string s] w fun e w' => e = .returned (.tuple #[.agg #[.int .i64 0, .slice none 0 0], .int .i64 6]) ∧ Below w.heap.size w w' := by
  have CR : Hid (∀ W, Below w.heap.size w W → Calls Tryd.prog 30 #[.agg #[.int .i64 c, .slice ta tn tc]] W fun e w' => e = .returned (.bool false) ∧ Below W.heap.size W w') := fun W hW => by
    rw [← hr]; exact rightPeaks_c c ta tn tc l hl H W (Nat.le_trans hH hW.size) (hS.stays hW hH)
  clear hS hr hl
  go_enter Tryd.func12, Tryd.ntmps12
  go_wp2_with fail
  refine (CR.out _ (PS.start w c (.slice ta tn tc)).2.2.2).mono ?_
  rintro e w1 ⟨rfl, hb1⟩
  have X : Hid (PS w c (.slice ta tn tc) w1) := (PS.start w c _).call hb1
  obtain ⟨c0, c1, c2, c3⟩ := X.out.cells
  have fz := X.out.free
  have lt : w.heap.size + 1 < w1.heap.size := by have := X.out.2.2.1; omega
  clear hb1 CR
  go_wp2
  have Y := X.out.set (.int .i64 0) (.slice none 0 0)
  exact bodyPost_ret (v := .tuple #[.agg #[.int .i64 0, .slice none 0 0], .int .i64 6]) ((results_row_tmp rfl _ _ (w.heap.size + 1) 35 _ (0, 0) _ rfl Y.1 Tryd.underlying35 rfl (by exact info_peaks)).trans (by rfl)) rfl ⟨rfl, Y.2⟩
set_option maxHeartbeats 8000000 in
set_option maxRecDepth 10000 in
theorem add_full (s : ByteArray) (ta : Option Addr) (tn tc : Nat) (l : List (List UInt8)) (hl : l.length ≤ 9223372036854775807) (H : Nat) (w : World) (hH : H ≤ w.heap.size) (hS : Sl w H (.slice ta tn tc) l) (hr : Mk.rightP 1024 l = true) :
    Calls Tryd.prog 12 #[.agg #[.int .i64 1024, .slice ta tn tc], .string s] w fun e w' => e = .returned (.tuple #[.agg #[.int .i64 0, .slice none 0 0], .int .i64 3]) ∧ Below w.heap.size w w' := by
  have CR : Hid (∀ W, Below w.heap.size w W → Calls Tryd.prog 30 #[.agg #[.int .i64 1024, .slice ta tn tc]] W fun e w' => e = .returned (.bool true) ∧ Below W.heap.size W w') := fun W hW => by
    rw [← hr]; exact rightPeaks_c 1024 ta tn tc l hl H W (Nat.le_trans hH hW.size) (hS.stays hW hH)
  clear hS hr hl
  go_enter Tryd.func12, Tryd.ntmps12
  go_wp2_with fail
  refine (CR.out _ (PS.start w 1024 (.slice ta tn tc)).2.2.2).mono ?_
  rintro e w1 ⟨rfl, hb1⟩
  have X : Hid (PS w 1024 (.slice ta tn tc) w1) := (PS.start w 1024 _).call hb1
  obtain ⟨c0, c1, c2, c3⟩ := X.out.cells
  have fz := X.out.free
  have lt : w.heap.size + 1 < w1.heap.size := by have := X.out.2.2.1; omega
  clear hb1 CR
  go_wp2
  have Y := X.out.set (.int .i64 0) (.slice none 0 0)
  exact bodyPost_ret (v := .tuple #[.agg #[.int .i64 0, .slice none 0 0], .int .i64 3]) ((results_row_tmp rfl _ _ (w.heap.size + 1) 35 _ (0, 0) _ rfl Y.1 Tryd.underlying35 rfl (by exact info_peaks)).trans (by rfl)) rfl ⟨rfl, Y.2⟩
/-- a row that is owned stays where another block is stored into -/
theorem own_set2 {w : World} {base base' t g k cap : Nat} {xs : List Value} (h : w.ownsRow base t 1 (.slice (some ⟨g, 0, none⟩) k cap) k xs) (B : Nat) (hB : B < base) (hb : base' ≤ base) (y0 y1 : Value) : ((w.setCell ⟨B, 0, none⟩ y0).setCell ⟨B, 1, none⟩ y1).ownsRow base' t 1 (.slice (some ⟨g, 0, none⟩) k cap) k xs := by
  refine ⟨h.1, ?_⟩
  rcases h.2 with h2 | ⟨g', cap', cur, h1, hg, hc, h3⟩
  · exact .inl h2
  · refine .inr ⟨g', cap', cur, h1, by omega, ?_, h3⟩
    rw [heap_setCell_other _ _ _ _ (by show g' ≠ B; omega), heap_setCell_other _ _ _ _ (by show g' ≠ B; omega)]
    exact hc
/-- the first ones of a row that is owned -/
theorem own_take {w : World} {base t g k cap : Nat} {xs : List Value} (h : w.ownsRow base t 1 (.slice (some ⟨g, 0, none⟩) k cap) k xs) (k' : Nat) (hk : k' ≤ k) : w.ownsRow base t 1 (.slice (some ⟨g, 0, none⟩) k' cap) k' (xs.take k') := by
  have h1 := h.1
  refine ⟨by rw [List.length_take]; omega, ?_⟩
  rcases h.2 with ⟨h2, _⟩ | ⟨g', cap', cur, h2, h3, h4, h5, h6, h7, h8⟩
  · cases h2
  · injection h2 with e1 e2 e3
    injection e1 with e1
    injection e1 with e1
    subst e1 e3
    exact .inr ⟨g, cap, cur, rfl, h3, h4, by omega, h6, h7, by rw [← h8, List.take_take]; congr 1; omega⟩
theorem wrap_next (n : Nat) (h : n ≤ 1024) : IntKind.i64.wrap ((n : Int) + 1) = (n : Int) + 1 := by
  have : ∀ x : Fin 1025, IntKind.i64.wrap ((x.val : Int) + 1) = (x.val : Int) + 1 := by decide +kernel
  exact this ⟨n, by omega⟩
theorem scs_take (l : List (List UInt8)) (k : Nat) : (scs l).take k = scs (l.take k) := by simp [scs, List.map_take]
theorem dropLast_take (l : List (List UInt8)) (k : Nat) (h : l.length = k + 1) : l.dropLast = l.take k := by rw [List.dropLast_eq_take, h]; rfl
set_option maxHeartbeats 8000000 in
set_option maxRecDepth 10000 in
theorem add_yes (n : Nat) (hn : n < 1024) (s : ByteArray) (hs : s.size ≤ 140737488355328) (ta : Option Addr) (tn tc : Nat) (l : List (List UInt8)) (hl : l.length = Mk.ones n) (hl2 : l.length ≤ 1024) (h32 : ∀ x ∈ l, x.length = 32) (H : Nat) (w : World) (hK : HasK w) (hH : H ≤ w.heap.size) (hS : Sl w H (.slice ta tn tc) l) :
    Calls Tryd.prog 12 #[.agg #[.int .i64 (n : Int), .slice ta tn tc], .string s] w fun e w' => ∃ v, e = .returned (.tuple #[.agg #[.int .i64 ((n : Int) + 1), v], .int .i64 0]) ∧ w'.ownsRow w.heap.size 9 1 v (Mk.addM n l (Mk.leaf s.data.toList)).length (scs (Mk.addM n l (Mk.leaf s.data.toList))) ∧ Below w.heap.size w w' := by
  obtain ⟨i0, hi, hz0, hz1, hz2⟩ := info_parts info9
  have hr : Mk.rightP (n : Int) l = true := by
    rw [Mk.rightP_in (by omega), hl, all32_mk h32]; simp
  have CR : Hid (∀ W, Below w.heap.size w W → Calls Tryd.prog 30 #[.agg #[.int .i64 (n : Int), .slice ta tn tc]] W fun e w' => e = .returned (.bool true) ∧ Below W.heap.size W w') := fun W hW => by
    rw [← hr]; exact rightPeaks_c n ta tn tc l (by omega) H W (Nat.le_trans hH hW.size) (hS.stays hW hH)
  have CC : Hid (∀ W, Below w.heap.size w W → Calls Tryd.prog 17 #[.slice ta tn tc] W fun e w' => ∃ g, e = .returned (.slice (some ⟨g, 0, none⟩) tn tn) ∧ w'.ownsRow W.heap.size 9 1 (.slice (some ⟨g, 0, none⟩) tn tn) tn (scs l) ∧ Below W.heap.size W w') := fun W hW =>
    clones_c ta tc tn H l (by omega) (fun x hx => by rw [h32 x hx]; omega) W (Nat.le_trans hH hW.size) (hS.stays hW hH)
  obtain ⟨t, ht⟩ : ∃ t : ByteArray, t = bs (Mk.leafT s.data.toList) := ⟨_, rfl⟩
  obtain ⟨d, hd⟩ : ∃ d : ByteArray, d = bs (Mk.leaf s.data.toList) := ⟨_, rfl⟩
  have CL : Hid (∀ W, Below w.heap.size w W → Calls Tryd.prog 31 #[.string s] W fun e w' => e = .returned (.agg #[.string t, .string d]) ∧ Below W.heap.size W w') := fun W hW => by
    rw [ht, hd]; exact leaf_c s hs W (hK.below hK.1 hW)
  have HD : Hid (d = bs (Mk.leaf s.data.toList)) := hd
  have HTN : Hid (tn = l.length) := hS.len
  have htn : tn ≤ 1024 := by have := HTN.out; omega
  have HK : Hid (HasK w) := hK
  have HL : Hid (l.length = Mk.ones n) := hl
  have H32 : Hid (∀ x ∈ l, x.length = 32) := h32
  have q1 : ((n : Int) == 1024) = false := by rw [beq_eq_false_iff_ne]; omega
  have hf := fun wx => field_made (.string t) (.string d) wx
  clear hS hr hl h32 hs ht hd hK
  go_enter Tryd.func12, Tryd.ntmps12
  go_wp2_with fail
  refine (CR.out _ (PS.start w n (.slice ta tn tc)).2.2.2).mono ?_
  rintro e w1 ⟨rfl, hb1⟩
  have X1 : Hid (PS w n (.slice ta tn tc) w1) := (PS.start w n _).call hb1
  obtain ⟨c0, c1, c2, c3⟩ := X1.out.cells
  clear hb1 CR
  go_wp2_with fail
  refine (CC.out _ X1.out.2.2.2).mono ?_
  rintro e w2 ⟨g, rfl, ho2, hb2⟩
  have X2 : Hid (PS w n (.slice ta tn tc) w2) := X1.out.call hb2
  have O2 : Hid (w2.ownsRow (w.heap.size + 2) 9 1 (.slice (some ⟨g, 0, none⟩) tn tn) tn (scs l)) := own_mono ho2 X1.out.2.2.1
  clear ho2 hb2 CC X1 c0 c1 c2 c3
  go_wp2_with fail
  refine (CL.out _ X2.out.2.2.2).mono ?_
  rintro e w3 ⟨rfl, hb3⟩
  have X3 : Hid (PS w n (.slice ta tn tc) w3) := X2.out.call hb3
  have O3 : Hid (w3.ownsRow (w.heap.size + 2) 9 1 (.slice (some ⟨g, 0, none⟩) tn tn) tn (scs l)) := own_stays O2.out hb3
  obtain ⟨c0, c1, c2, c3⟩ := X3.out.cells
  clear hb3 CL O2 X2
  go_wp2
  go_loopw [6, 7, 8] (fun tv dv cv wr => ∃ (j k : Nat) (tk : List (List UInt8)) (dk : List UInt8), cv = .int .i64 (j : Int) ∧ j ≤ 1024 ∧ k ≤ tn ∧ dv = .string (bs dk) ∧ dk.length = 32 ∧ tv = .slice (some ⟨g, 0, none⟩) k tn ∧ Hid (tk.length = Mk.ones j ∧ tk.length = k ∧ (∀ x ∈ tk, x.length = 32) ∧ Mk.addM n l (Mk.leaf s.data.toList) = Mk.addM j tk dk) ∧ wr.ownsRow (w.heap.size + 2) 9 1 (.slice (some ⟨g, 0, none⟩) k tn) k (scs tk) ∧ PS w n (.slice ta tn tc) wr) (fun _ _ cv _ => (intOf cv).toNat)
  case atStart => exact ⟨n, tn, l, Mk.leaf s.data.toList, rfl, by omega, Nat.le_refl _, by rw [HD.out], Mk.leaf_length _, rfl, ⟨HL.out, HTN.out.symm, H32.out, rfl⟩, O3.out, X3.out⟩
  case round =>
    obtain ⟨j, k, tk, dk, rfl, hj, hk, rfl, hdk, rfl, hin, hown, hX⟩ := hrel
    clear X3 O3 c0 c1 c2 c3
    by_cases ho : j % 2 = 1
    · obtain ⟨g1, g2, g3, g4⟩ := hin.out
      have hk1 : 1 ≤ k := by have := ones_pos ho; omega
      obtain ⟨k1, hkk⟩ : ∃ k1, k = k1 + 1 := ⟨k - 1, by omega⟩
      subst hkk
      obtain ⟨x, hx⟩ : ∃ x, tk[k1]? = some x := ⟨_, List.getElem?_eq_getElem (by omega)⟩
      obtain ⟨xs, hxs⟩ : ∃ xs : ByteArray, xs = bs x := ⟨_, rfl⟩
      obtain ⟨db, hdb⟩ : ∃ db : ByteArray, db = bs dk := ⟨_, rfl⟩
      have hcx : wr.cell? ⟨g, k1, none⟩ = some (.string xs) := by
        rw [hown.cellAt k1 (by omega), hxs]; simp [scs, hx, encS]
      obtain ⟨t2, ht2⟩ : ∃ t : ByteArray, t = bs (Mk.nodeT xs.data.toList db.data.toList) := ⟨_, rfl⟩
      obtain ⟨d2, hd2⟩ : ∃ d : ByteArray, d = bs (Mk.node x dk) := ⟨_, rfl⟩
      have hx32 : x.length = 32 := g3 x (List.mem_of_getElem? hx)
      have CN : Hid (Calls Tryd.prog 32 #[.string xs, .string db] wr fun e w' => e = .returned (.agg #[.string t2, .string d2]) ∧ Below wr.heap.size wr w') := by
        have := node_c xs db (by rw [hxs, bs_size]; omega) (by rw [hdb, bs_size]; omega) wr (HK.out.below HK.out.1 hX.2.2.2)
        rw [ht2, hd2]
        have e : Mk.node x dk = Sh.sum (Mk.nodeT xs.data.toList db.data.toList) := by rw [hxs, hdb]; rfl
        rw [e]
        exact this
      have HIN : Hid ((tk.take k1).length = Mk.ones (j / 2) ∧ (tk.take k1).length = k1 ∧ (∀ x ∈ tk.take k1, x.length = 32) ∧ Mk.addM n l (Mk.leaf s.data.toList) = Mk.addM (j / 2) (tk.take k1) (Mk.node x dk)) := by
        refine ⟨?_, ?_, fun y hy => g3 y (List.mem_of_mem_take hy), ?_⟩
        · rw [List.length_take]; have := ones_half ho; omega
        · rw [List.length_take]; omega
        · rw [g4, Mk.addM_odd ho, dropLast_take tk k1 (by omega), List.getLast?_eq_getElem?, show tk.length - 1 = k1 by omega, hx]; rfl
      have HO : Hid (wr.ownsRow (w.heap.size + 2) 9 1 (.slice (some ⟨g, 0, none⟩) k1 tn) k1 (scs (tk.take k1))) := by
        show World.ownsRow _ _ _ _ _ _ _
        have := own_take hown k1 (by omega)
        rwa [scs_take] at this
      have HX : Hid (PS w n (.slice ta tn tc) wr) := hX
      have HD2 : Hid (d2 = bs (Mk.node x dk)) := hd2
      have hq : ((j : Int) % 2 == 1) = true := by rw [beq_iff_eq]; omega
      obtain ⟨j2, hj2⟩ : ∃ j2 : Nat, j2 = j / 2 := ⟨_, rfl⟩
      have ej : (j : Int) / 2 = (j2 : Int) := by omega
      have hjl : j2 < j := by omega
      rw [← hj2] at HIN
      have hf2 := fun wx => field_made (.string t2) (.string d2) wx
      have r1 : (0 : Int) ≤ (k1 : Int) := by omega
      have r2 : (k1 : Int) ≤ (tn : Int) := by omega
      have r3 : (k1 : Int) < (k1 : Int) + 1 := by omega
      rw [← hdb]
      clear hin g1 g2 g3 g4 hx hxs hdb ht2 hd2 hx32 hown hX hj2 ho hf
      go_wp2_with fail
      refine CN.out.mono ?_
      rintro e w4 ⟨rfl, hb4⟩
      have O4 : Hid (w4.ownsRow (w.heap.size + 2) 9 1 (.slice (some ⟨g, 0, none⟩) k1 tn) k1 (scs (tk.take k1))) := own_stays HO.out hb4
      have X4 : Hid (PS w n (.slice ta tn tc) w4) := HX.out.call hb4
      clear hb4
      go_wp2
      go_roundw
      case rel => exact ⟨j2, k1, tk.take k1, Mk.node x dk, rfl, by omega, by omega, by rw [HD2.out], Mk.node_length _ _, rfl, HIN, O4.out, X4.out⟩
      case measure => simp [intOf]; omega
    · obtain ⟨g1, g2, g3, g4⟩ := hin.out
      have HE : Hid (Mk.addM n l (Mk.leaf s.data.toList) = tk ++ [dk] ∧ tk.length = k) := ⟨by rw [g4, Mk.addM_even (by omega)], g2⟩
      have hq : ((j : Int) % 2 == 1) = false := by rw [beq_eq_false_iff_ne]; omega
      obtain ⟨db, hdb⟩ : ∃ db : ByteArray, db = bs dk := ⟨_, rfl⟩
      have HDB : Hid (db = bs dk) := hdb
      have HO : Hid (wr.ownsRow (w.heap.size + 2) 9 1 (.slice (some ⟨g, 0, none⟩) k tn) k (scs tk)) := hown
      have HX : Hid (PS w n (.slice ta tn tc) wr) := hX
      have HBS : Hid (∀ q, (Value.slice (some ⟨g, 0, none⟩) k tn).ownBlock = some q → w.heap.size + 2 ≤ q) := own_le hown
      obtain ⟨c0, c1, c2, c3⟩ := hX.cells
      have lt2 : w.heap.size + 2 ≤ wr.heap.size := hX.2.2.1
      have fit63 : Hid (k + 1 ≤ maxLen) := by show _ ≤ _; unfold maxLen; omega
      have fit47 : Hid ((k + 1) * 16 ≤ 140737488355328) := by show _ ≤ _; omega
      rw [← hdb]
      clear hin g1 g2 g3 g4 hdb hown hX ho
      have XA : Hid (∀ o, PS w n (.slice ta tn tc) (wr.alloc o)) := fun o => HX.out.call ((Below.refl _ _).alloc (Nat.le_refl _) o)
      have hwn : IntKind.i64.wrap ((n : Int) + 1) = (n : Int) + 1 := wrap_next n (by omega)
      have ca0 : ∀ o, (wr.alloc o).cell? ⟨w.heap.size, 0, none⟩ = some (.int .i64 (n : Int)) := fun o => (XA.out o).cells.1
      go_wp2
      go_region_law (first
        | (refine step_append_lies _ (by rfl) _ _ _ (by rfl) (w.heap.size + 2) 9 i0 _ 1 16 Tryd.underlying22 hi hz0 hz1 hz2 rfl (by omega) _ _ _ (by rfl) (by first | exact HO.out.alloc _ | exact (HO.out.alloc _).drew) ⟨wr.heap.size, 0, none⟩ 1 1 [.string db] (by rfl) (by rfl) (World.news_of_block (heap_alloc_new wr _)) (by simp [Value.oneCell']) (by omega) fit63.out fit47.out (by simp; omega) (wr.heap.size + 1) (by simp) ?_; intro gg cap2 w5 hown5 hgrow hat hglt
           have X5 : Hid (PS w n (.slice ta tn tc) w5) := (by first | exact (XA.out _).grown hgrow HBS.out | exact (XA.out _).drew.grown hgrow HBS.out)
           have O5 : Hid (w5.ownsRow (w.heap.size + 2) 9 1 (.slice (some ⟨gg, 0, none⟩) (k + 1) cap2) (k + 1) (scs tk ++ [.string db])) := hown5
           obtain ⟨f0, f1, f2, f3⟩ := X5.out.cells
           have fz5 := X5.out.free
           have lt5 : w.heap.size + 1 < w5.heap.size := (by have := X5.out.2.2.1; omega)
           clear hown5 hgrow hat hglt))
      all_goals
        go_wp2
        obtain ⟨gl, gb⟩ := O5.out.lt gg rfl
        have Y := X5.out.set (.int .i64 ((n : Int) + 1)) (.slice (some ⟨gg, 0, none⟩) (k + 1) cap2)
        have O6 : (((w5.setCell ⟨w.heap.size + 1, 0, none⟩ (.int .i64 ((n : Int) + 1))).setCell ⟨w.heap.size + 1, 1, none⟩ (.slice (some ⟨gg, 0, none⟩) (k + 1) cap2))).ownsRow w.heap.size 9 1 (.slice (some ⟨gg, 0, none⟩) (k + 1) cap2) (Mk.addM n l (Mk.leaf s.data.toList)).length (scs (Mk.addM n l (Mk.leaf s.data.toList))) := by
          have e1 : scs tk ++ [.string db] = scs (tk ++ [dk]) := by rw [HDB.out]; simp [scs, encS]
          have e2 : (tk ++ [dk]).length = k + 1 := by rw [List.length_append, HE.out.2]; rfl
          rw [HE.out.1, e2, ← e1]
          exact own_set2 O5.out (w.heap.size + 1) (by omega) (by omega) _ _
        first
          | exact bodyPost_ret (v := .tuple #[.agg #[.int .i64 ((n : Int) + 1), .slice (some ⟨gg, 0, none⟩) (k + 1) cap2], .int .i64 0]) ((results_row_tmp rfl _ _ (w.heap.size + 1) 35 _ (0, 0) _ rfl Y.1 Tryd.underlying35 rfl (by exact info_peaks)).trans (by rfl)) rfl ⟨_, rfl, O6, Y.2⟩
          | exact bodyPost_ret (v := .tuple #[.agg #[.int .i64 ((n : Int) + 1), .slice (some ⟨gg, 0, none⟩) (k + 1) cap2], .int .i64 0]) ((results_row_tmp rfl _ _ (w.heap.size + 1) 35 _ (0, 0) _ rfl (by exact Y.1) Tryd.underlying35 rfl (by exact info_peaks)).trans (by rfl)) rfl ⟨_, rfl, O6.drew, Y.2.drew⟩
end Go.Proofs.YtoldfepeldbcpaaDoor
