/- The document's own answer about peaks: one text more. -/
import Derived.Test.YthheebnmdfggnaaDoorMkPb
import Derived.Test.YthheebnmdfggnaaDoorMkOne
namespace Go.Proofs.YthheebnmdfggnaaDoor
open Go.RowKit
attribute [local go_sem ↓] Go.wp_at_zero Go.wp_at_succ
set_option maxHeartbeats 8000000 in
set_option maxRecDepth 10000 in
theorem rAdd_no (c : Int) (s : ByteArray) (ta : Option Addr) (tn tc : Nat) (l : List (List UInt8)) (hl : l.length ≤ 9223372036854775807) (H : Nat) (w : World) (hH : H ≤ w.heap.size) (hS : Sl w H (.slice ta tn tc) l) (hr : Mk.rightP c l = false) :
    Calls Tryd.prog 9 #[.agg #[.int .i64 c, .slice ta tn tc], .string s] w fun e w' => e = .returned (.tuple #[.agg #[.int .i64 0, .slice none 0 0], .int .i64 6]) ∧ Below w.heap.size w w' := by
  have CR : Hid (∀ W, Below w.heap.size w W → Calls Tryd.prog 26 #[.agg #[.int .i64 c, .slice ta tn tc]] W fun e w' => e = .returned (.bool false) ∧ Below W.heap.size W w') := fun W hW => by
    rw [← hr]; exact rright_c c ta tn tc l hl H W (Nat.le_trans hH hW.size) (hS.stays hW hH)
  clear hS hr hl
  go_enter Tryd.func9, Tryd.ntmps9
  go_wp2_with fail
  refine (CR.out _ (PS.start w c (.slice ta tn tc)).2.2.2).mono ?_
  rintro e w1 ⟨rfl, hb1⟩
  have X : Hid (PS w c (.slice ta tn tc) w1) := (PS.start w c _).call hb1
  obtain ⟨c0, c1, c2, c3⟩ := X.out.cells
  have fz := X.out.free
  have lt : w.heap.size + 1 < w1.heap.size := by have := X.out.2.2.1; omega
  clear hb1 CR
  go_wp2
  have Y := X.out.set (.int .i64 0) (.slice none 0 0)
  exact bodyPost_ret (v := .tuple #[.agg #[.int .i64 0, .slice none 0 0], .int .i64 6]) ((results_row_tmp rfl _ _ (w.heap.size + 1) 24 _ (0, 0) _ rfl Y.1 Tryd.underlying24 rfl (by exact info_peaks)).trans (by rfl)) rfl ⟨rfl, Y.2⟩
set_option maxHeartbeats 8000000 in
set_option maxRecDepth 10000 in
theorem rAdd_full (s : ByteArray) (ta : Option Addr) (tn tc : Nat) (l : List (List UInt8)) (hl : l.length ≤ 9223372036854775807) (H : Nat) (w : World) (hH : H ≤ w.heap.size) (hS : Sl w H (.slice ta tn tc) l) (hr : Mk.rightP 1024 l = true) :
    Calls Tryd.prog 9 #[.agg #[.int .i64 1024, .slice ta tn tc], .string s] w fun e w' => e = .returned (.tuple #[.agg #[.int .i64 0, .slice none 0 0], .int .i64 3]) ∧ Below w.heap.size w w' := by
  have CR : Hid (∀ W, Below w.heap.size w W → Calls Tryd.prog 26 #[.agg #[.int .i64 1024, .slice ta tn tc]] W fun e w' => e = .returned (.bool true) ∧ Below W.heap.size W w') := fun W hW => by
    rw [← hr]; exact rright_c 1024 ta tn tc l hl H W (Nat.le_trans hH hW.size) (hS.stays hW hH)
  clear hS hr hl
  go_enter Tryd.func9, Tryd.ntmps9
  go_wp2_with fail
  refine (CR.out _ (PS.start w 1024 (.slice ta tn tc)).2.2.2).mono ?_
  rintro e w1 ⟨rfl, hb1⟩
  have X : Hid (PS w 1024 (.slice ta tn tc) w1) := (PS.start w 1024 _).call hb1
  obtain ⟨c0, c1, c2, c3⟩ := X.out.cells
  have fz := X.out.free
  have lt : w.heap.size + 1 < w1.heap.size := by have := X.out.2.2.1; omega
  clear hb1 CR
  go_wp2
  have Y := X.out.set (.int .i64 0) (.slice none 0 0)
  exact bodyPost_ret (v := .tuple #[.agg #[.int .i64 0, .slice none 0 0], .int .i64 3]) ((results_row_tmp rfl _ _ (w.heap.size + 1) 24 _ (0, 0) _ rfl Y.1 Tryd.underlying24 rfl (by exact info_peaks)).trans (by rfl)) rfl ⟨rfl, Y.2⟩
theorem scs_at {l : List (List UInt8)} {k : Nat} {x : List UInt8} (h : l[k]? = some x) : (scs l)[k]? = some (.string (bs x)) := by
  rw [scs, List.getElem?_map, h]; rfl
/-- what lies below a border stays, the boxes with it -/
theorem PS.above {w W W' : World} {c : Int} {tv : Value} {B : Nat} (h : PS w c tv W) (hB : w.heap.size + 2 ≤ B) (hb : Below B W W') : PS w c tv W' :=
  ⟨(hb.block _ (by omega)).trans h.1, (hb.block _ (by omega)).trans h.2.1, Nat.le_trans h.2.2.1 hb.size, h.2.2.2.trans (hb.mono (by omega))⟩
set_option maxHeartbeats 16000000 in
set_option maxRecDepth 10000 in
theorem rAdd_yes (n : Nat) (hn : n < 1024) (s : ByteArray) (hs : s.size ≤ 140737488355328) (ta : Option Addr) (tn tc : Nat) (l : List (List UInt8)) (hl : l.length = Mk.ones n) (hl2 : l.length ≤ 1024) (h32 : ∀ x ∈ l, x.length = 32) (H : Nat) (w : World) (hH : H ≤ w.heap.size) (hS : Sl w H (.slice ta tn tc) l) :
    Calls Tryd.prog 9 #[.agg #[.int .i64 (n : Int), .slice ta tn tc], .string s] w fun e w' => ∃ v, e = .returned (.tuple #[.agg #[.int .i64 ((n : Int) + 1), v], .int .i64 0]) ∧ w'.ownsRow w.heap.size 9 1 v (Mk.addM n l (Mk.leaf s.data.toList)).length (scs (Mk.addM n l (Mk.leaf s.data.toList))) ∧ Below w.heap.size w w' := by
  have hr : Mk.rightP (n : Int) l = true := by
    rw [Mk.rightP_in (by omega), hl, all32_mk h32]; simp
  have CR : Hid (∀ W, Below w.heap.size w W → Calls Tryd.prog 26 #[.agg #[.int .i64 (n : Int), .slice ta tn tc]] W fun e w' => e = .returned (.bool true) ∧ Below W.heap.size W w') := fun W hW => by
    rw [← hr]; exact rright_c n ta tn tc l (by omega) H W (Nat.le_trans hH hW.size) (hS.stays hW hH)
  obtain ⟨lf, hlf⟩ : ∃ lf, lf = Mk.leaf s.data.toList := ⟨_, rfl⟩
  obtain ⟨d, hd⟩ : ∃ d : ByteArray, d = bs lf := ⟨_, rfl⟩
  have CL : Hid (∀ W, Calls Tryd.prog 27 #[.string s] W fun e w' => e = .returned (.string d) ∧ Below W.heap.size W w') := fun W => by
    rw [hd, hlf]; exact rleaf_c s hs W
  have HD : Hid (d = bs lf ∧ lf.length = 32) := ⟨hd, by rw [hlf]; exact Mk.leaf_length _⟩
  obtain ⟨R, hR⟩ : ∃ R, R = Mk.addM n l (Mk.leaf s.data.toList) := ⟨_, rfl⟩
  rw [← hR]
  have HR : Hid (R = Mk.addM n l lf) := by show _ = _; rw [hR, hlf]
  have HTN : Hid (tn = l.length) := hS.len
  have htn : tn ≤ 1024 := by have := HTN.out; omega
  have HL : Hid (l.length = Mk.ones n) := hl
  have H32 : Hid (∀ x ∈ l, x.length = 32) := h32
  have HS : Hid (∀ W, Below w.heap.size w W → Sl W H (.slice ta tn tc) l) := fun W hW => hS.stays hW hH
  have q1 : ((n : Int) == 1024) = false := by rw [beq_eq_false_iff_ne]; omega
  have hon : Mk.ones n ≤ 1024 := by omega
  clear hS hr hl h32 hs hd hlf hR
  go_enter Tryd.func9, Tryd.ntmps9
  go_wp2_with fail
  refine (CR.out _ (PS.start w n (.slice ta tn tc)).2.2.2).mono ?_
  rintro e w1 ⟨rfl, hb1⟩
  have X1 : Hid (PS w n (.slice ta tn tc) w1) := (PS.start w n _).call hb1
  obtain ⟨c0, c1, c2, c3⟩ := X1.out.cells
  have s1 : w.heap.size + 2 ≤ w1.heap.size := X1.out.2.2.1
  have ca : ∀ o, (w1.alloc o).cell? ⟨w.heap.size, 1, none⟩ = some (.slice ta tn tc) := fun o => (X1.out.call ((Below.refl _ _).alloc (Nat.le_refl _) o)).cells.2.1
  clear hb1 CR
  go_wp2_with (at_builtin; refine wpList_append_sl rfl _ _ rfl w1.heap.size _ 0 [] rfl (own_empty w1) ta tn tc H l rfl (HS.out _ (X1.out.2.2.2.alloc (by omega) _)) (by omega) (by simp) ?_)
  intro v2 w2 ho2 hb2
  have B2 : Hid (Below w1.heap.size w1 w2) := ((Below.refl _ _).alloc (Nat.le_refl _) _).trans hb2
  have O2 : Hid (w2.ownsRow w1.heap.size 9 1 v2 tn (scs l)) := by show World.ownsRow _ _ _ _ _ _ _; simpa using ho2
  have X2 : Hid (PS w n (.slice ta tn tc) w2) := X1.out.call B2.out
  clear ho2 hb2 ca c0 c1 c2 c3
  go_wp2_with fail
  refine (CL.out _).mono ?_
  rintro e w3 ⟨rfl, hb3⟩
  have X3 : Hid (PS w n (.slice ta tn tc) w3) := X2.out.call hb3
  have O3 : Hid (w3.ownsRow w1.heap.size 9 1 v2 tn (scs l)) := own_stays O2.out hb3
  have s3 : w1.heap.size ≤ w3.heap.size := Nat.le_trans B2.out.size hb3.size
  clear hb3 CL O2 X2 B2
  go_wp2_with (at_builtin; refine wpList_append_sl rfl _ _ rfl w1.heap.size _ tn l rfl (O3.out.alloc _) (some ⟨w3.heap.size, 0, none⟩) 1 1 (w3.heap.size + 1) [d.data.toList] rfl (one_sl w3 d) (by omega) (by simp; omega) ?_)
  intro v4 w4 ho4 hb4
  have X4 : Hid (PS w n (.slice ta tn tc) w4) := (X3.out.call ((Below.refl _ _).alloc (Nat.le_refl _) _)).above s1 hb4
  have O4 : Hid (w4.ownsRow (w.heap.size + 2) 9 1 v4 (tn + 1) (scs (l ++ [lf]))) := by
    show World.ownsRow _ _ _ _ _ _ _
    have e : d.data.toList = lf := by rw [HD.out.1]
    rw [e] at ho4
    exact own_mono ho4 s1
  clear ho4 hb4 O3 X3
  obtain ⟨g4, cap4, rfl⟩ : ∃ g c, v4 = .slice (some ⟨g, 0, none⟩) (tn + 1) c := by
    rcases O4.out.2 with ⟨_, h⟩ | ⟨g, cap, cur, h, _⟩
    · omega
    · exact ⟨g, cap, h⟩
  obtain ⟨c0, c1, c2, c3⟩ := X4.out.cells
  go_wp2
  go_loopw [6, 7] (fun tv cv wr => ∃ (j k g cap : Nat) (tk : List (List UInt8)) (dk : List UInt8), cv = .int .i64 (j : Int) ∧ j ≤ 1024 ∧ k ≤ 1024 ∧ tv = .slice (some ⟨g, 0, none⟩) (k + 1) cap ∧ Hid (tk.length = Mk.ones j ∧ tk.length = k ∧ (∀ x ∈ tk, x.length = 32) ∧ dk.length = 32 ∧ R = Mk.addM j tk dk) ∧ wr.ownsRow (w.heap.size + 2) 9 1 (.slice (some ⟨g, 0, none⟩) (k + 1) cap) (k + 1) (scs (tk ++ [dk])) ∧ PS w n (.slice ta tn tc) wr) (fun _ cv _ => (intOf cv).toNat)
  case atStart => exact ⟨n, tn, g4, cap4, l, lf, rfl, by omega, by omega, rfl, ⟨HL.out, HTN.out.symm, H32.out, HD.out.2, HR.out⟩, O4.out, X4.out⟩
  case round =>
    obtain ⟨j, k, g, cap, tk, dk, rfl, hj, hk, rfl, hin, hown, hX⟩ := hrel
    clear X4 O4 c0 c1 c2 c3 X1
    by_cases ho : j % 2 = 1
    · obtain ⟨g1, g2, g3, g5, g6⟩ := hin.out
      have hk1 : 1 ≤ k := by have := ones_pos ho; omega
      obtain ⟨k1, hkk⟩ : ∃ k1, k = k1 + 1 := ⟨k - 1, by omega⟩
      subst hkk
      obtain ⟨x, hx⟩ : ∃ x, tk[k1]? = some x := ⟨_, List.getElem?_eq_getElem (by omega)⟩
      obtain ⟨xs, hxs⟩ : ∃ xs : ByteArray, xs = bs x := ⟨_, rfl⟩
      obtain ⟨db, hdb⟩ : ∃ db : ByteArray, db = bs dk := ⟨_, rfl⟩
      have hlen : (scs (tk ++ [dk])).length = k1 + 2 := by rw [scs_length, List.length_append, g2]; rfl
      have hcx : wr.cell? ⟨g, k1, none⟩ = some (.string xs) := by
        rw [hown.cellAt k1 (by omega), hxs]
        exact scs_at (show (tk ++ [dk])[k1]? = some x by rw [List.getElem?_append_left (by omega)]; exact hx)
      have hcd : wr.cell? ⟨g, k1 + 1, none⟩ = some (.string db) := by
        rw [hown.cellAt (k1 + 1) (by omega), hdb]
        exact scs_at (show (tk ++ [dk])[k1 + 1]? = some dk by rw [List.getElem?_append_right (by omega), show k1 + 1 - tk.length = 0 by omega]; rfl)
      obtain ⟨d2, hd2⟩ : ∃ d : ByteArray, d = bs (Mk.node x dk) := ⟨_, rfl⟩
      have hx32 : x.length = 32 := g3 x (List.mem_of_getElem? hx)
      have CN : Hid (∀ W, Calls Tryd.prog 28 #[.string xs, .string db] W fun e w' => e = .returned (.string d2) ∧ Below W.heap.size W w') := fun W => by
        have := rnode_c xs db (by rw [hxs, bs_size]; omega) (by rw [hdb, bs_size]; omega) W
        rw [hd2]
        rw [hxs, hdb] at this ⊢
        exact this
      have HIN : Hid ((tk.take k1).length = Mk.ones (j / 2) ∧ (tk.take k1).length = k1 ∧ (∀ x ∈ tk.take k1, x.length = 32) ∧ (Mk.node x dk).length = 32 ∧ R = Mk.addM (j / 2) (tk.take k1) (Mk.node x dk)) := by
        refine ⟨?_, ?_, fun y hy => g3 y (List.mem_of_mem_take hy), Mk.node_length _ _, ?_⟩
        · rw [List.length_take]; have := ones_half ho; omega
        · rw [List.length_take]; omega
        · rw [g6, Mk.addM_odd ho, dropLast_take tk k1 (by omega), List.getLast?_eq_getElem?, show tk.length - 1 = k1 by omega, hx]; rfl
      have HO : Hid (wr.ownsRow (w.heap.size + 2) 9 1 (.slice (some ⟨g, 0, none⟩) k1 cap) k1 (scs (tk.take k1))) := by
        show World.ownsRow _ _ _ _ _ _ _
        have := own_take hown k1 (by omega)
        rw [scs_take, List.take_append_of_le_length (by omega)] at this
        exact this
      have HX : Hid (PS w n (.slice ta tn tc) wr) := hX
      have HD2 : Hid (d2 = bs (Mk.node x dk)) := hd2
      have hq : ((j : Int) % 2 == 1) = true := by rw [beq_iff_eq]; omega
      obtain ⟨j2, hj2⟩ : ∃ j2 : Nat, j2 = j / 2 := ⟨_, rfl⟩
      have ej : (j : Int) / 2 = (j2 : Int) := by omega
      have hjl : j2 < j := by omega
      rw [← hj2] at HIN
      have LG : Hid (g < wr.heap.size ∧ k1 ≤ cap) := by
        refine ⟨(hown.lt g rfl).2, ?_⟩
        rcases hown.2 with ⟨e, _⟩ | ⟨g', cap', cur, e, _, _, e4, _⟩
        · cases e
        · injection e with _ _ e; omega
      have hcx1 : ∀ p : BelowOf wr.heap.size wr, p.W.cell? ⟨g, k1, none⟩ = some (.string xs) := fun p => (p.h.cell (p := ⟨g, k1, none⟩) LG.out.1).trans hcx
      have hcd1 : ∀ p : BelowOf wr.heap.size wr, p.W.cell? ⟨g, k1 + 1, none⟩ = some (.string db) := fun p => (p.h.cell (p := ⟨g, k1 + 1, none⟩) LG.out.1).trans hcd
      have r0 : (k1 : Int) + 1 + 1 - 2 = (k1 : Int) := by omega
      have r0' : (k1 : Int) + 1 + 1 - 1 = (k1 : Int) + 1 := by omega
      have r1 : (0 : Int) ≤ (k1 : Int) := by omega
      have r2 : (k1 : Int) ≤ (cap : Int) := by have := LG.out.2; omega
      have r3 : (k1 : Int) < (k1 : Int) + 1 + 1 := by omega
      have hkk : k1 ≤ 1024 := by omega
      clear hin g1 g2 g3 g5 g6 hx hxs hdb hd2 hx32 hown hX hj2 ho hlen hcx hcd
      go_wp2
      refine wp_region_below wr.heap.size wr (Below.refl _ _) (by kernel_rfl) (by kernel_rfl) ?_
      repeat (go_big_quiet_step (first
        | (go_at_call 28; exact below_call _ (Nat.le_refl _) (CN.out _))))
      refine wpQuiet_nil ?_
      intro _ hw'
      obtain ⟨pq, hw''⟩ := hw'
      subst hw''
      obtain ⟨w5, hw5⟩ : ∃ W, W = pq.W := ⟨_, rfl⟩
      have B5 : Hid (Below wr.heap.size wr w5) := by show Below _ _ _; rw [hw5]; exact pq.h
      rw [← hw5]
      clear hw5 hcx1 hcd1 pq
      have X5 : Hid (PS w n (.slice ta tn tc) w5) := HX.out.call B5.out
      have O5 : Hid (w5.ownsRow (w.heap.size + 2) 9 1 (.slice (some ⟨g, 0, none⟩) k1 cap) k1 (scs (tk.take k1))) := own_stays HO.out B5.out
      have S5 : Hid (∀ o, Sl (w5.alloc o) (w5.heap.size + 1) (.slice (some ⟨g, 0, none⟩) k1 cap) (tk.take k1)) := fun o => by
        have hk : (tk.take k1).length = k1 := HIN.out.2.1
        have := own_sl (l := tk.take k1) (by rw [hk]; exact O5.out.alloc o)
        simpa using this
      have s5 : w.heap.size + 2 ≤ w5.heap.size := X5.out.2.2.1
      go_wp2_with (at_builtin; refine wpList_append_sl rfl _ _ rfl w5.heap.size _ 0 [] rfl (own_empty w5) (some ⟨g, 0, none⟩) k1 cap (w5.heap.size + 1) (tk.take k1) rfl (S5.out _) (by omega) (by simp) ?_)
      intro v6 w6 ho6 hb6
      have B6 : Hid (Below w5.heap.size w5 w6) := ((Below.refl _ _).alloc (Nat.le_refl _) _).trans hb6
      have O6 : Hid (w6.ownsRow w5.heap.size 9 1 v6 k1 (scs (tk.take k1))) := by show World.ownsRow _ _ _ _ _ _ _; simpa using ho6
      have X6 : Hid (PS w n (.slice ta tn tc) w6) := X5.out.call B6.out
      have s6 : w5.heap.size ≤ w6.heap.size := B6.out.size
      clear ho6 hb6 O5 S5 B6
      go_wp2_with (at_builtin; refine wpList_append_sl rfl _ _ rfl w5.heap.size _ k1 (tk.take k1) rfl (O6.out.alloc _) (some ⟨w6.heap.size, 0, none⟩) 1 1 (w6.heap.size + 1) [d2.data.toList] rfl (one_sl w6 d2) (by omega) (by simp; omega) ?_)
      intro v7 w7 ho7 hb7
      have X7 : Hid (PS w n (.slice ta tn tc) w7) := (X6.out.call ((Below.refl _ _).alloc (Nat.le_refl _) _)).above s5 hb7
      have O7 : Hid (w7.ownsRow (w.heap.size + 2) 9 1 v7 (k1 + 1) (scs (tk.take k1 ++ [Mk.node x dk]))) := by
        show World.ownsRow _ _ _ _ _ _ _
        have e : d2.data.toList = Mk.node x dk := by rw [HD2.out]
        rw [e] at ho7
        exact own_mono ho7 s5
      clear ho7 hb7 O6 X6
      obtain ⟨g7, cap7, rfl⟩ : ∃ g c, v7 = .slice (some ⟨g, 0, none⟩) (k1 + 1) c := by
        rcases O7.out.2 with ⟨_, h⟩ | ⟨g, cap, cur, h, _⟩
        · omega
        · exact ⟨g, cap, h⟩
      go_wp2
      go_roundw
      case rel => exact ⟨j2, k1, g7, cap7, tk.take k1, Mk.node x dk, rfl, by omega, by omega, rfl, HIN, O7.out, X7.out⟩
      case measure => simp [intOf]; omega
    · obtain ⟨g1, g2, g3, g5, g6⟩ := hin.out
      have HE : Hid (R = tk ++ [dk] ∧ tk.length = k) := ⟨by rw [g6, Mk.addM_even (by omega)], g2⟩
      have hq : ((j : Int) % 2 == 1) = false := by rw [beq_eq_false_iff_ne]; omega
      have HO : Hid (wr.ownsRow (w.heap.size + 2) 9 1 (.slice (some ⟨g, 0, none⟩) (k + 1) cap) (k + 1) (scs (tk ++ [dk]))) := hown
      have HX : Hid (PS w n (.slice ta tn tc) wr) := hX
      obtain ⟨c0, c1, c2, c3⟩ := hX.cells
      have fz := hX.free
      have lt2 : w.heap.size + 1 < wr.heap.size := by have := hX.2.2.1; omega
      have hwn : IntKind.i64.wrap ((n : Int) + 1) = (n : Int) + 1 := wrap_next n (by omega)
      clear hin g1 g2 g3 g5 g6 hown hX ho
      go_wp2
      obtain ⟨gl, gb⟩ := HO.out.lt g rfl
      have Y := HX.out.set (.int .i64 ((n : Int) + 1)) (.slice (some ⟨g, 0, none⟩) (k + 1) cap)
      have O6 : (((wr.setCell ⟨w.heap.size + 1, 0, none⟩ (.int .i64 ((n : Int) + 1))).setCell ⟨w.heap.size + 1, 1, none⟩ (.slice (some ⟨g, 0, none⟩) (k + 1) cap))).ownsRow w.heap.size 9 1 (.slice (some ⟨g, 0, none⟩) (k + 1) cap) R.length (scs R) := by
        have e2 : (tk ++ [dk]).length = k + 1 := by rw [List.length_append, HE.out.2]; rfl
        rw [HE.out.1, e2]
        exact own_set2 HO.out (w.heap.size + 1) (by omega) (by omega) _ _
      exact bodyPost_ret (v := .tuple #[.agg #[.int .i64 ((n : Int) + 1), .slice (some ⟨g, 0, none⟩) (k + 1) cap], .int .i64 0]) ((results_row_tmp rfl _ _ (w.heap.size + 1) 24 _ (0, 0) _ rfl Y.1 Tryd.underlying24 rfl (by exact info_peaks)).trans (by rfl)) rfl ⟨_, rfl, O6, Y.2⟩
end Go.Proofs.YthheebnmdfggnaaDoor
