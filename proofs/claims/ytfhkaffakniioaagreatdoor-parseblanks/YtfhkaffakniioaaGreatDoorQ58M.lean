/- Several texts, joined: QjS, QkB -/
import Derived.Test.YtfhkaffakniioaaGreatDoorQ64M
import Derived.BigQuiet
import Derived.Test.YtfhkaffakniioaaGreatDoorQ55M
import Derived.Test.YtfhkaffakniioaaGreatDoorQ47M
import Derived.Test.YtfhkaffakniioaaGreatDoorQ56M
/- The document's Same of steps, of items, of statements that are the same: walked. -/
namespace Go.Proofs.YtfhkaffakniioaaGreatDoor
open Go.RowKit
namespace Ps
theorem neqSp (k2 k : Int) (s2 s : ByteArray) (n2 n : Int) (w : World) : (binOp .neq 29 (.agg #[.int .u8 k2, .string s2, .int .i64 n2]) (.agg #[.int .u8 k, .string s, .int .i64 n])).run Tryz.prog w = .ok (.bool (!((k2 == k) && (s2.toList == s.toList) && (n2 == n)))) w := by
  rw [run_neq_struct, run_equalIn_agg (P := Tryz.prog) w 9999 29 _ _ (by kernel_rfl) (by kernel_rfl)]
  simp [go_sem]
  by_cases h1 : k2 = k
  · by_cases h2 : s2.toList = s.toList
    · by_cases h3 : n2 = n
      · simp [h1, h2, h3]
      · simp [h1, h2, h3]
    · simp [h1, h2]
  · simp [h1]
set_option maxHeartbeats 8000000 in
set_option maxRecDepth 100000 in
theorem sameSteps_c (l : List Sp) (m : Nat) (hm : m = l.length) (hn : m ≤ 9223372036854775807) (a1 a2 : Option Addr) (c1 c2 : Nat) (w : World) (h1 : Sts w a1 l) (h2 : Sts w a2 l) : Calls Tryz.prog 22 #[.slice a1 m c1, .slice a2 m c2] w fun e w' => e = .returned (.bool true) ∧ Below w.heap.size w w' := by
  have H1 := hidp h1
  have H2 := hidp h2
  have HM := hidp hm
  have HNN := hidp hn
  clear h1 h2 hm
  have q0 : ((m : Int) == (m : Int)) = true := beq_self_eq_true _
  have q0b : ((m : Int) != (m : Int)) = false := by rw [bne, q0]; rfl
  go_enter Tryz.func22, Tryz.ntmps22
  go_wp2
  go_loopw [13] (fun i wr => ∃ j : Nat, j ≤ m ∧ i = .int .i64 (j : Int) ∧ Below w.heap.size w wr) (fun i _ => m - (intOf i).toNat)
  case atStart => exact ⟨0, Nat.zero_le _, rfl, Below.refl _ _⟩
  case round =>
    obtain ⟨j, hj, rfl, hbr⟩ := hrel
    have HB : Hid (Below w.heap.size w wr) := hbr
    clear hbr
    by_cases hlt : j < m
    · have q1 : (j : Int) < (m : Int) := by omega
      obtain ⟨⟨tk, tt, tn⟩, ht⟩ : ∃ t, l[j]? = some t := ⟨_, List.getElem?_eq_getElem (by rw [← HM.out]; exact hlt)⟩
      obtain ⟨g1, o1, rfl, _⟩ := H1.out j _ ht
      obtain ⟨g2, o2, rfl, _⟩ := H2.out j _ ht
      obtain ⟨tb, htb⟩ : ∃ tb, tb = Lx.bs tt := ⟨_, rfl⟩
      have HC : Hid (∀ p : BelowOf wr.heap.size wr, (p.W.cell? ⟨g1, o1 + j * 3, none⟩ = some (.int .u8 (tk : Int)) ∧ p.W.cell? ⟨g1, o1 + j * 3 + 1, none⟩ = some (.string tb) ∧ p.W.cell? ⟨g1, o1 + j * 3 + 2, none⟩ = some (.int .i64 tn)) ∧ (p.W.cell? ⟨g2, o2 + j * 3, none⟩ = some (.int .u8 (tk : Int)) ∧ p.W.cell? ⟨g2, o2 + j * 3 + 1, none⟩ = some (.string tb) ∧ p.W.cell? ⟨g2, o2 + j * 3 + 2, none⟩ = some (.int .i64 tn))) := fun p => by
        have hb := HB.out.trans (p.h.mono HB.out.size)
        obtain ⟨g, o, e, k0, k1, k2⟩ := (H1.out.call hb) j _ ht
        cases e
        obtain ⟨g, o, e, k3, k4, k5⟩ := (H2.out.call hb) j _ ht
        cases e
        rw [htb]
        exact ⟨⟨k0, k1, k2⟩, k3, k4, k5⟩
      have d0 : ∀ p : BelowOf wr.heap.size wr, p.W.cell? ⟨g1, o1 + j * 3, none⟩ = some (.int .u8 (tk : Int)) := fun p => (HC.out p).1.1
      have d1 : ∀ p : BelowOf wr.heap.size wr, p.W.cell? ⟨g1, o1 + j * 3 + 1, none⟩ = some (.string tb) := fun p => (HC.out p).1.2.1
      have d2 : ∀ p : BelowOf wr.heap.size wr, p.W.cell? ⟨g1, o1 + j * 3 + 2, none⟩ = some (.int .i64 tn) := fun p => (HC.out p).1.2.2
      have f0 : ∀ p : BelowOf wr.heap.size wr, p.W.cell? ⟨g2, o2 + j * 3, none⟩ = some (.int .u8 (tk : Int)) := fun p => (HC.out p).2.1
      have f1 : ∀ p : BelowOf wr.heap.size wr, p.W.cell? ⟨g2, o2 + j * 3 + 1, none⟩ = some (.string tb) := fun p => (HC.out p).2.2.1
      have f2 : ∀ p : BelowOf wr.heap.size wr, p.W.cell? ⟨g2, o2 + j * 3 + 2, none⟩ = some (.int .i64 tn) := fun p => (HC.out p).2.2.2
      have hneq : ∀ wx, (binOp .neq 29 (.agg #[.int .u8 (tk : Int), .string tb, .int .i64 tn]) (.agg #[.int .u8 (tk : Int), .string tb, .int .i64 tn])).run Tryz.prog wx = .ok (.bool false) wx := fun wx => by
        have h := neqSp (tk : Int) (tk : Int) tb tb tn tn wx
        rw [beq_self_eq_true, beq_self_eq_true, beq_self_eq_true] at h
        exact h
      clear ht htb
      go_upto_region 6 with fail
      refine wp_region_below wr.heap.size wr (Below.refl _ _) (by kernel_rfl) (by kernel_rfl) ?_
      repeat (go_big_quiet_step (fail))
      refine wpQuiet_nil ?_
      intro _ hw'
      obtain ⟨pq, hw''⟩ := hw'
      subst hw''
      have HB2 : Hid (Below w.heap.size w pq.W) := HB.out.trans (pq.h.mono HB.out.size)
      clear d0 d1 d2 f0 f1 f2 HC
      go_wp2
      go_roundw
      case rel => first | exact ⟨j + 1, Nat.succ_le_of_lt hlt, by go_num, HB2.out⟩ | ((repeat apply Exists.intro); exact ⟨⟨j + 1, Nat.succ_le_of_lt hlt, by go_num, HB2.out⟩, rfl⟩)
      case measure =>
        simp only [intOf]
        exact Lx.arD hlt
    · have q1 : ¬ (j : Int) < (m : Int) := by omega
      have HF := HB.out
      go_wp2
      go_ret
      exact ⟨rfl, HF⟩
set_option maxHeartbeats 8000000 in
set_option maxRecDepth 100000 in
theorem sameItems_c (l : List It) (m : Nat) (hm : m = l.length) (hn : m ≤ 9223372036854775807) (hl : ∀ i ∈ l, i.expr.length ≤ 9223372036854775807) (a1 a2 : Option Addr) (c1 c2 : Nat) (w : World) (h1 : Itm w a1 l) (h2 : Itm w a2 l) : Calls Tryz.prog 42 #[.slice a1 m c1, .slice a2 m c2] w fun e w' => e = .returned (.bool true) ∧ Below w.heap.size w w' := by
  have H1 := hidp h1
  have H2 := hidp h2
  have HM := hidp hm
  have HNN := hidp hn
  have HL := hidp hl
  clear h1 h2 hm hl
  have q0 : ((m : Int) == (m : Int)) = true := beq_self_eq_true _
  have q0b : ((m : Int) != (m : Int)) = false := by rw [bne, q0]; rfl
  go_enter Tryz.func42, Tryz.ntmps42
  go_wp2
  go_loopw [13] (fun i wr => ∃ j : Nat, j ≤ m ∧ i = .int .i64 (j : Int) ∧ Below w.heap.size w wr) (fun i _ => m - (intOf i).toNat)
  case atStart => exact ⟨0, Nat.zero_le _, rfl, Below.refl _ _⟩
  case round =>
    obtain ⟨j, hj, rfl, hbr⟩ := hrel
    have HB : Hid (Below w.heap.size w wr) := hbr
    clear hbr
    by_cases hlt : j < m
    · have q1 : (j : Int) < (m : Int) := by omega
      have q2 : (0 : Int) ≤ (j : Int) := by omega
      obtain ⟨it, ht⟩ : ∃ t, l[j]? = some t := ⟨_, List.getElem?_eq_getElem (by rw [← HM.out]; exact hlt)⟩
      obtain ⟨g1, o1, ea1, ec1, rfl, k0, k1, k2⟩ := (H1.out.call HB.out) j _ ht
      obtain ⟨g2, o2, ea2, ec2, rfl, k3, k4, k5⟩ := (H2.out.call HB.out) j _ ht
      obtain ⟨tb, htb⟩ : ∃ tb, tb = Lx.bs it.name := ⟨_, rfl⟩
      obtain ⟨n, hnn⟩ : ∃ n, n = it.expr.length := ⟨_, rfl⟩
      rw [← htb] at k0 k3
      rw [← hnn] at k1 k4
      have CS : Hid (∀ W, Below wr.heap.size wr W → Calls Tryz.prog 22 #[.slice ea1 n ec1, .slice ea2 n ec2] W fun e w' => e = .returned (.bool true) ∧ Below W.heap.size W w') := fun W hW => sameSteps_c it.expr n hnn (by rw [hnn]; exact HL.out it (List.mem_of_getElem? ht)) ea1 ea2 ec1 ec2 W (k2.call hW) (k5.call hW)
      have t0 : (tb.toList == tb.toList) = true := beq_self_eq_true _
      have l1 : g1 < wr.heap.size := block_lt_of_cell k0
      have l2 : g2 < wr.heap.size := block_lt_of_cell k3
      have HD : Hid (Below wr.heap.size wr wr.drew) := (Below.refl _ _).drew
      clear k2 k5 ht htb hnn
      go_upto_region 6 with fail
      go_region_held3 (fun W' => W'.cell? ⟨g1, o1 + j * 2, none⟩ = some (.string tb) ∧ W'.cell? ⟨g1, o1 + j * 2 + 1, none⟩ = some (.slice ea1 n ec1) ∧ W'.cell? ⟨g2, o2 + j * 2, none⟩ = some (.string tb) ∧ W'.cell? ⟨g2, o2 + j * 2 + 1, none⟩ = some (.slice ea2 n ec2)) (go_keep) (first
        | (go_at_call 22; refine (CS.out _ HD.out).mono ?_; rintro e w5 ⟨rfl, hb5⟩
           have X5 : Hid (Below wr.heap.size wr w5) := (HD.out.trans (hb5.mono HD.out.size)); clear hb5
           have e0 := (X5.out.cell (p := ⟨g1, o1 + j * 2, none⟩) l1).trans k0
           have e1 := (X5.out.cell (p := ⟨g1, o1 + j * 2 + 1, none⟩) l1).trans k1
           have e2 := (X5.out.cell (p := ⟨g2, o2 + j * 2, none⟩) l2).trans k3
           have e3 := (X5.out.cell (p := ⟨g2, o2 + j * 2 + 1, none⟩) l2).trans k4))
      have HB2 : Hid (Below w.heap.size w w5) := HB.out.trans (X5.out.mono HB.out.size)
      clear k0 k1 k3 k4 HD CS t0 l1 l2 e0 e1 e2 e3
      go_wp2
      go_roundw
      case rel => first | exact ⟨j + 1, Nat.succ_le_of_lt hlt, by go_num, HB2.out⟩ | ((repeat apply Exists.intro); exact ⟨⟨j + 1, Nat.succ_le_of_lt hlt, by go_num, HB2.out⟩, rfl⟩)
      case measure =>
        simp only [intOf]
        exact Lx.arD hlt
    · have q1 : ¬ (j : Int) < (m : Int) := by omega
      have HF := HB.out
      go_wp2
      go_ret
      exact ⟨rfl, HF⟩
set_option maxHeartbeats 8000000 in
set_option maxRecDepth 100000 in
theorem sameX_c (x : St) (n m : Nat) (hn : n = x.items.length) (hm : m = x.expr.length) (hx : FitX x) (ia ea ja fa : Option Addr) (ic ec jc fc : Nat) (w : World) (h1 : StM w ia ea x) (h2 : StM w ja fa x) : Calls Tryz.prog 21 #[.agg #[.int .u8 (x.kind : Int), .string (Lx.bs x.table), .string (Lx.bs x.field), .slice ia n ic, .slice ea m ec, .bool x.history, .bool x.desc], .agg #[.int .u8 (x.kind : Int), .string (Lx.bs x.table), .string (Lx.bs x.field), .slice ja n jc, .slice fa m fc, .bool x.history, .bool x.desc]] w fun e w' => e = .returned (.bool true) ∧ Below w.heap.size w w' := by
  obtain ⟨k, hk⟩ : ∃ k : Int, k = (x.kind : Int) := ⟨_, rfl⟩
  obtain ⟨tb, htb⟩ : ∃ z, z = Lx.bs x.table := ⟨_, rfl⟩
  obtain ⟨fb, hfb⟩ : ∃ z, z = Lx.bs x.field := ⟨_, rfl⟩
  obtain ⟨h, hh⟩ : ∃ z, z = x.history := ⟨_, rfl⟩
  obtain ⟨d, hd⟩ : ∃ z, z = x.desc := ⟨_, rfl⟩
  rw [← hk, ← htb, ← hfb, ← hh, ← hd]
  clear hk htb hfb hh hd
  obtain ⟨w1, hw1⟩ : ∃ w1, w1 = w.alloc (.cells #[.int .u8 k, .string tb, .string fb, .slice ia n ic, .slice ea m ec, .bool h, .bool d] 26) := ⟨_, rfl⟩
  obtain ⟨T, hT⟩ : ∃ T, T = w.heap.size := ⟨_, rfl⟩
  obtain ⟨w2, hw2⟩ : ∃ w2, w2 = w1.alloc (.cells #[.int .u8 k, .string tb, .string fb, .slice ja n jc, .slice fa m fc, .bool h, .bool d] 26) := ⟨_, rfl⟩
  obtain ⟨U, hU⟩ : ∃ U, U = T + 1 := ⟨_, rfl⟩
  have X2 : Hid (w2.heap[T]? = some (.cells #[.int .u8 k, .string tb, .string fb, .slice ia n ic, .slice ea m ec, .bool h, .bool d] 26 (0, 0)) ∧ w2.heap[U]? = some (.cells #[.int .u8 k, .string tb, .string fb, .slice ja n jc, .slice fa m fc, .bool h, .bool d] 26 (0, 0)) ∧ Below w.heap.size w w2) := by
    have b1 : Below w.heap.size w w1 := by rw [hw1]; exact bnew _ _
    have b2 : Below w1.heap.size w1 w2 := by rw [hw2]; exact bnew _ _
    have r1 : w1.heap[T]? = some (.cells #[.int .u8 k, .string tb, .string fb, .slice ia n ic, .slice ea m ec, .bool h, .bool d] 26 (0, 0)) := by rw [hw1, hT]; exact heap_alloc_new w _
    have eU : U = w1.heap.size := by rw [hU, hT, hw1]; simp
    exact ⟨(b2.block T (row_lt r1)).trans r1, by rw [hw2, eU]; exact heap_alloc_new w1 _, b1.trans (b2.mono b1.size)⟩
  have CI : Hid (∀ W, Below w2.heap.size w2 W → Calls Tryz.prog 42 #[.slice ia n ic, .slice ja n jc] W fun e w' => e = .returned (.bool true) ∧ Below W.heap.size W w') := fun W hW => by
    have hB := X2.out.2.2.trans (hW.mono X2.out.2.2.size)
    exact sameItems_c x.items n hn (by rw [hn]; exact hx.items.1) (fun i hi => (hx.items.2 i hi).1) ia ja ic jc W (h1.its.call hB) (h2.its.call hB)
  have CE : Hid (∀ W, Below w2.heap.size w2 W → Calls Tryz.prog 22 #[.slice ea m ec, .slice fa m fc] W fun e w' => e = .returned (.bool true) ∧ Below W.heap.size W w') := fun W hW => by
    have hB := X2.out.2.2.trans (hW.mono X2.out.2.2.size)
    exact sameSteps_c x.expr m hm (by rw [hm]; exact hx.expr.1) ea fa ec fc W (h1.exp.call hB) (h2.exp.call hB)
  have YA : Hid (∀ W, Below w2.heap.size w2 W → (W.cell? ⟨T, 4, none⟩ = some (.slice ea m ec) ∧ W.cell? ⟨U, 4, none⟩ = some (.slice fa m fc))) := fun W hW => by
    have r := (hW.block T (row_lt X2.out.1)).trans X2.out.1
    have s := (hW.block U (row_lt X2.out.2.1)).trans X2.out.2.1
    exact ⟨by rw [cell_of_row _ _ _ _ _ _ r]; rfl, by rw [cell_of_row _ _ _ _ _ _ s]; rfl⟩
  have t0 : (k == k) = true := beq_self_eq_true _
  have t1 : (tb.toList == tb.toList) = true := beq_self_eq_true _
  have t2 : (fb.toList == fb.toList) = true := beq_self_eq_true _
  have t3 : (h == h) = true := beq_self_eq_true _
  have t4 : (d == d) = true := beq_self_eq_true _
  have c : ∀ j v, (#[.int .u8 k, .string tb, .string fb, .slice ia n ic, .slice ea m ec, .bool h, .bool d] : Array Value)[j]? = some v → w2.cell? ⟨T, j, none⟩ = some v := fun j v hv => by rw [cell_of_row _ _ _ _ _ _ X2.out.1]; exact hv
  have e : ∀ j v, (#[.int .u8 k, .string tb, .string fb, .slice ja n jc, .slice fa m fc, .bool h, .bool d] : Array Value)[j]? = some v → w2.cell? ⟨U, j, none⟩ = some v := fun j v hv => by rw [cell_of_row _ _ _ _ _ _ X2.out.2.1]; exact hv
  have a0 := c 0 _ rfl
  have a1 := c 1 _ rfl
  have a2 := c 2 _ rfl
  have a3 := c 3 _ rfl
  have a5 := c 5 _ rfl
  have a6 := c 6 _ rfl
  have b0 := e 0 _ rfl
  have b1 := e 1 _ rfl
  have b2 := e 2 _ rfl
  have b3 := e 3 _ rfl
  have b5 := e 5 _ rfl
  have b6 := e 6 _ rfl
  clear c e hn hm hx h1 h2
  go_enter Tryz.func21, Tryz.ntmps21
  go_upto_region 1 with fail
  rw [← hw1, ← hT, ← hw2, ← hU]
  clear hw1 hT hw2 hU
  go_wp2_with fail
  refine (CI.out w2 (Below.refl _ _)).mono ?_
  rintro e w3 ⟨rfl, hb3⟩
  have X3 := hidp hb3
  obtain ⟨y1, y2⟩ := YA.out w3 hb3
  clear hb3 a0 a1 a2 a3 a5 a6 b0 b1 b2 b3 b5 b6
  go_wp2_with fail
  refine (CE.out w3 X3.out).mono ?_
  rintro e w4 ⟨rfl, hb4⟩
  have X4 : Hid (Below w.heap.size w w4) := X2.out.2.2.trans ((X3.out.trans (hb4.mono X3.out.size)).mono X2.out.2.2.size)
  clear hb4 y1 y2
  go_wp2
  go_ret
  exact ⟨rfl, X4.out⟩
end Ps
end Go.Proofs.YtfhkaffakniioaaGreatDoor
/- What is printed is read: the law ParseBack, walked. -/
namespace Go.Proofs.YtfhkaffakniioaaGreatDoor
open Go.RowKit
namespace Ps
theorem fits0 {x : St} (h : FitX x) : Fits0 x := ⟨fun p hp => (h.expr.2 p hp).2.2, fun i hi p hp => ((h.items.2 i hi).2 p hp).2.2⟩
/-- what the document asks of a statement's text that is read again -/
theorem back_cases {x : St} (hx : FitX x) (hr : rightX x = true) : (16384 < (printX x).length ∧ (parseX (printX x)).2.1 = 4) ∨ ((printX x).length ≤ 16384 ∧ (parseX (printX x)).2.1 = 0 ∧ (parseX (printX x)).1 = x) ∨ ((printX x).length ≤ 16384 ∧ (parseX (printX x)).2.1 = 10 ∧ (9 ≤ x.expr.length ∨ ∃ i ∈ x.items, 9 ≤ i.expr.length)) := by
  by_cases hl : 16384 < (printX x).length
  · exact .inl ⟨hl, (long_read hl).2⟩
  · rcases print_read (fits0 hx) hr (by omega) with ⟨h1, h2⟩ | ⟨_, h2, h3⟩
    · exact .inr (.inl ⟨by omega, h2, h1⟩)
    · exact .inr (.inr ⟨by omega, h2, h3⟩)
theorem tot_le {M : Nat} : ∀ l : List Bs, (∀ t ∈ l, t.length ≤ M) → tot l ≤ M * l.length
  | [], _ => Nat.zero_le _
  | x :: r, h => by
    have h1 := h x (List.mem_cons_self ..)
    have h2 := tot_le r (fun t ht => h t (List.mem_cons_of_mem _ ht))
    rw [tot, List.length_cons, Nat.mul_succ]
    omega
theorem print_few {x : St} (hx : FitX x) : (printX x).length ≤ 400000000 := by
  by_cases hr : rightX x = true
  · obtain ⟨h1, h2⟩ := words_few hx hr
    have h3 := tot_join [32] (wordsTx x)
    have h4 := tot_le (wordsTx x) h2
    have h5 : 39000000 * (wordsTx x).length ≤ 39000000 * 9 := Nat.mul_le_mul_left _ h1
    have h6 : [(32 : UInt8)].length * (wordsTx x).length = (wordsTx x).length := Nat.one_mul _
    rw [printX, if_pos hr]
    omega
  · rw [printX, if_neg hr]
    exact Nat.zero_le _
set_option maxHeartbeats 8000000 in
set_option maxRecDepth 100000 in
theorem back_w (x : St) (ia ea : Option Addr) (ic ec n m : Nat) (w : World) (hn : n = x.items.length) (hm : m = x.expr.length) (hO : HasO w) (hL : HasL w) (hx : FitX x) (hM : StM w ia ea x) : Calls Tryz.prog 4 #[.agg #[.int .u8 (x.kind : Int), .string (Lx.bs x.table), .string (Lx.bs x.field), .slice ia n ic, .slice ea m ec, .bool x.history, .bool x.desc]] w fun e w' => e = .returned (.bool true) ∧ Below w.heap.size w w' := by
  obtain ⟨w1, hw1⟩ : ∃ w1, w1 = w.alloc (.cells #[.int .u8 (x.kind : Int), .string (Lx.bs x.table), .string (Lx.bs x.field), .slice ia n ic, .slice ea m ec, .bool x.history, .bool x.desc] 26) := ⟨_, rfl⟩
  obtain ⟨T, hT⟩ : ∃ T, T = w.heap.size := ⟨_, rfl⟩
  have X1 : Hid (w1.heap[T]? = some (.cells #[.int .u8 (x.kind : Int), .string (Lx.bs x.table), .string (Lx.bs x.field), .slice ia n ic, .slice ea m ec, .bool x.history, .bool x.desc] 26 (0, 0)) ∧ Below w.heap.size w w1) := ⟨by rw [hw1, hT]; exact heap_alloc_new w _, by rw [hw1]; exact bnew _ _⟩
  have LV : Hid (Calls Tryz.prog 13 #[] w1 fun e w' => e = .returned (.bool true) ∧ Below w1.heap.size w1 w') := lives_c w1 (hO.stays X1.out.2) (hL.stays X1.out.2)
  obtain ⟨rx, hrx⟩ : ∃ rx, rx = rightX x := ⟨_, rfl⟩
  obtain ⟨s, hs⟩ : ∃ s, s = Lx.bs (printX x) := ⟨_, rfl⟩
  obtain ⟨sz, hsz⟩ : ∃ sz : Int, sz = ((printX x).length : Int) := ⟨_, rfl⟩
  have hss : (s.size : Int) = sz := by rw [hs, Lx.bs_size, hsz]
  have CP : Hid (∀ W, Below w1.heap.size w1 W → Calls Tryz.prog 7 #[.agg #[.int .u8 (x.kind : Int), .string (Lx.bs x.table), .string (Lx.bs x.field), .slice ia n ic, .slice ea m ec, .bool x.history, .bool x.desc]] W fun e w' => e = .returned (.tuple #[.string s, .int .i64 (if rx = true then 0 else 13)]) ∧ Below W.heap.size W w') := fun W hW => by
    have hB := X1.out.2.trans (hW.mono X1.out.2.size)
    rw [hs, hrx, hn, hm]
    exact print_c x ia ea ic ec W hx (hM.call hB) (hL.stays hB) (hO.stays hB)
  have CK : Hid (∀ W, Below w1.heap.size w1 W → Calls Tryz.prog 14 #[.agg #[.int .u8 (x.kind : Int), .string (Lx.bs x.table), .string (Lx.bs x.field), .slice ia n ic, .slice ea m ec, .bool x.history, .bool x.desc]] W fun e w' => e = .returned (.int .i64 (if rx = true then 0 else 13)) ∧ Below W.heap.size W w') := fun W hW => by
    have hB := X1.out.2.trans (hW.mono X1.out.2.size)
    rw [hrx, hn, hm]
    exact checkX_c x ia ea ic ec W hx (hM.call hB) (hL.stays hB)
  have HE : Hid (rx = false → s = ⟨#[]⟩) := fun h => by rw [hs, printX, ← hrx, h, if_neg (by decide)]; rfl
  obtain ⟨y, hy⟩ : ∃ y, y = (parseX (printX x)).1 := ⟨_, rfl⟩
  obtain ⟨no, hno⟩ : ∃ no, no = (parseX (printX x)).2.1 := ⟨_, rfl⟩
  have CR : Hid (∀ W, Below w1.heap.size w1 W → Calls Tryz.prog 20 #[.string s] W fun e w' => ∃ ja jc fa fc yn ym, ∃ ps : Int, e = .returned (.tuple #[.agg #[.int .u8 (y.kind : Int), .string (Lx.bs y.table), .string (Lx.bs y.field), .slice ja yn jc, .slice fa ym fc, .bool y.history, .bool y.desc], .int .i64 (no : Int), .int .i64 ps]) ∧ Hid (Below W.heap.size W w' ∧ StM w' ja fa y ∧ yn = y.items.length ∧ ym = y.expr.length)) := fun W hW => by
    have hB := X1.out.2.trans (hW.mono X1.out.2.size)
    rw [hs, hy, hno]
    refine (parse_c (printX x) (Nat.le_trans (print_few hx) (by decide)) W (hO.stays hB) (hL.stays hB)).mono ?_
    rintro e w' ⟨ja, jc, fa, fc, rfl, G⟩
    exact ⟨ja, jc, fa, fc, _, _, _, rfl, G.out.1, G.out.2.1, rfl, rfl⟩
  have HC : Hid (rx = true → (16384 < sz ∧ no = 4) ∨ (¬ 16384 < sz ∧ no = 0 ∧ y = x) ∨ (¬ 16384 < sz ∧ no = 10 ∧ (9 ≤ m ∨ ∃ i ∈ x.items, 9 ≤ i.expr.length))) := fun h => by
    rw [hsz, hno, hy, hm]
    rcases back_cases hx (hrx ▸ h) with ⟨a, b⟩ | ⟨a, b, c⟩ | ⟨a, b, c⟩
    · exact .inl ⟨by omega, b⟩
    · exact .inr (.inl ⟨by omega, b, c⟩)
    · exact .inr (.inr ⟨by omega, b, c⟩)
  have HI : Hid (∀ W, Below w1.heap.size w1 W → StM W ia ea x) := fun W hW => hM.call (X1.out.2.trans (hW.mono X1.out.2.size))
  have HN : Hid (n = x.items.length ∧ m = x.expr.length ∧ n ≤ 9223372036854775807 ∧ m ≤ 9223372036854775807 ∧ (∀ i ∈ x.items, i.expr.length ≤ 9223372036854775807)) := ⟨hn, hm, by rw [hn]; exact hx.items.1, by rw [hm]; exact hx.expr.1, fun i hi => (hx.items.2 i hi).1⟩
  have HX : Hid (FitX x) := hx
  have YA : Hid (∀ W, Below w1.heap.size w1 W → W.cell? ⟨T, 0, none⟩ = some (.int .u8 (x.kind : Int)) ∧ W.cell? ⟨T, 1, none⟩ = some (.string (Lx.bs x.table)) ∧ W.cell? ⟨T, 2, none⟩ = some (.string (Lx.bs x.field)) ∧ W.cell? ⟨T, 3, none⟩ = some (.slice ia n ic) ∧ W.cell? ⟨T, 4, none⟩ = some (.slice ea m ec) ∧ W.cell? ⟨T, 5, none⟩ = some (.bool x.history) ∧ W.cell? ⟨T, 6, none⟩ = some (.bool x.desc)) := fun W hW => by
    have r := (hW.block T (row_lt X1.out.1)).trans X1.out.1
    have c : ∀ k v, (#[.int .u8 (x.kind : Int), .string (Lx.bs x.table), .string (Lx.bs x.field), .slice ia n ic, .slice ea m ec, .bool x.history, .bool x.desc] : Array Value)[k]? = some v → W.cell? ⟨T, k, none⟩ = some v := fun k v hv => by rw [cell_of_row _ _ _ _ _ _ r]; exact hv
    exact ⟨c 0 _ rfl, c 1 _ rfl, c 2 _ rfl, c 3 _ rfl, c 4 _ rfl, c 5 _ rfl, c 6 _ rfl⟩
  have Xw : Hid (Below w.heap.size w w1) := X1.out.2
  have XT : Hid (T < w1.heap.size) := row_lt X1.out.1
  clear hn hm hO hL hx hM hrx hs hsz hy hno X1
  go_enter Tryz.func4, Tryz.ntmps4
  go_upto_region 1 with fail
  rw [← hw1, ← hT]
  clear hw1 hT
  go_wp2_with fail
  refine (LV.out).mono ?_
  rintro e w3 ⟨rfl, hb3⟩
  have X3 := hidp hb3
  clear hb3 LV
  obtain ⟨y0, y1, y2, y3, y4, y5, y6⟩ := YA.out w3 X3.out
  go_wp2_with fail
  refine (CP.out w3 X3.out).mono ?_
  rintro e w4 ⟨rfl, hb4⟩
  have X4 : Hid (Below w1.heap.size w1 w4) := X3.out.trans (hb4.mono X3.out.size)
  clear hb4 CP y0 y1 y2 y3 y4 y5 y6
  obtain ⟨y0, y1, y2, y3, y4, y5, y6⟩ := YA.out w4 X4.out
  cases rx with
  | false =>
    rw [if_neg (by decide)]
    have hse := HE.out rfl
    subst hse
    have CK4 := hidp (CK.out w4 X4.out)
    rw [if_neg (by decide)] at CK4
    go_wp2_with fail
    refine (CK4.out).mono ?_
    rintro e w5 ⟨rfl, hb5⟩
    have X5 : Hid (Below w1.heap.size w1 w5) := X4.out.trans (hb5.mono X4.out.size)
    clear hb5
    go_wp2
    go_ret
    exact ⟨rfl, Xw.out.trans (X5.out.mono Xw.out.size)⟩
  | true =>
  rw [if_pos rfl]
  have HCC := hidp (HC.out rfl)
  clear HC HE CK
  go_wp2_with fail
  refine (CR.out w4 X4.out).mono ?_
  rintro e w5 ⟨ja, jc, fa, fc, yn, ym, ps, rfl, G5⟩
  have X5 : Hid (Below w1.heap.size w1 w5) := X4.out.trans (G5.out.1.mono X4.out.size)
  clear CR y0 y1 y2 y3 y4 y5 y6
  obtain ⟨w6, hw6⟩ : ∃ w6, w6 = w5.alloc (.cells #[.int .u8 (y.kind : Int), .string (Lx.bs y.table), .string (Lx.bs y.field), .slice ja yn jc, .slice fa ym fc, .bool y.history, .bool y.desc] 26) := ⟨_, rfl⟩
  obtain ⟨Y, hY⟩ : ∃ Y, Y = w5.heap.size := ⟨_, rfl⟩
  have X6 : Hid (w6.heap[Y]? = some (.cells #[.int .u8 (y.kind : Int), .string (Lx.bs y.table), .string (Lx.bs y.field), .slice ja yn jc, .slice fa ym fc, .bool y.history, .bool y.desc] 26 (0, 0)) ∧ Below w5.heap.size w5 w6) := ⟨by rw [hw6, hY]; exact heap_alloc_new w5 _, by rw [hw6]; exact bnew _ _⟩
  have X7 : Hid (Below w1.heap.size w1 w6) := X5.out.trans (X6.out.2.mono X5.out.size)
  go_upto_region 7 with fail
  rw [← hw6, ← hY]
  clear hw6 hY
  have QQ : (16384 < sz ∧ no = 4) ∨ (¬ 16384 < sz ∧ ((no = 0 ∧ y = x) ∨ (no = 10 ∧ (9 ≤ m ∨ ∃ i ∈ x.items, 9 ≤ i.expr.length)))) := by
    rcases HCC.out with h | ⟨h, h2⟩ | ⟨h, h2⟩
    · exact .inl h
    · exact .inr ⟨by omega, .inl h2⟩
    · exact .inr ⟨by omega, .inr h2⟩
  clear HCC
  rcases QQ with ⟨q1, q2⟩ | ⟨q1, q2⟩
  · subst q2
    go_wp2
    go_ret
    exact ⟨rfl, Xw.out.trans (X7.out.mono Xw.out.size)⟩
  · have Q2 := hidp q2
    clear q2
    obtain ⟨y0, y1, y2, y3, y4, y5, y6⟩ := YA.out w6 X7.out
    go_wp2
    go_loopw [8, 44] (fun v q wr => ∃ (j k : Nat), j ≤ n ∧ q = .int .i64 j ∧ v = .int .i64 k ∧ Hid (Below w6.heap.size w6 wr ∧ k ≤ 9223372036854775807 ∧ m ≤ k ∧ ∀ i ∈ x.items.take j, i.expr.length ≤ k)) (fun _ q _ => n - (intOf q).toNat)
    case atStart => exact ⟨0, m, Nat.zero_le _, rfl, rfl, Below.refl _ _, HN.out.2.2.2.1, Nat.le_refl _, fun i hi => by simp at hi⟩
    case round =>
      obtain ⟨j, k, hj, rfl, rfl, HJ⟩ := hrel
      clear y0 y1 y2 y3 y4 y5 y6
      by_cases hlt : j < n
      · have q0 : (j : Int) < (n : Int) := by omega
        have q1 : (0 : Int) ≤ (j : Int) := by omega
        obtain ⟨p, hp⟩ : ∃ p, x.items[j]? = some p := ⟨_, List.getElem?_eq_getElem (by have := HN.out.1; omega)⟩
        obtain ⟨g, o, pa, pc, rfl, c0, c1, _⟩ := (HI.out wr (X7.out.trans (HJ.out.1.mono X7.out.size))).its j p hp
        obtain ⟨pl, hpl⟩ : ∃ pl, pl = p.expr.length := ⟨_, rfl⟩
        rw [← hpl] at c1
        obtain ⟨w8, hw8⟩ : ∃ w8, w8 = wr.alloc (.cells #[.string (Lx.bs p.name), .slice pa pl pc] 43) := ⟨_, rfl⟩
        obtain ⟨O, hO⟩ : ∃ O, O = wr.heap.size := ⟨_, rfl⟩
        have X8 : Hid (w8.heap[O]? = some (.cells #[.string (Lx.bs p.name), .slice pa pl pc] 43 (0, 0)) ∧ Below w6.heap.size w6 w8) := ⟨by rw [hw8, hO]; exact heap_alloc_new wr _, by rw [hw8]; exact HJ.out.1.alloc HJ.out.1.size _⟩
        have n1 : w8.cell? ⟨O, 1, none⟩ = some (.slice pa pl pc) := by rw [cell_of_row _ _ _ _ _ _ X8.out.1]; rfl
        obtain ⟨j1, hj1⟩ : ∃ j1, j1 = j + 1 := ⟨_, rfl⟩
        have HV : Hid (IntKind.i64.wrap ((j : Int) + 1) = (j1 : Int) ∧ wrap64 ((j : Int) + 1) = (j1 : Int)) := wrp (by omega) (by have := HN.out; omega)
        obtain ⟨k1, hk1⟩ : ∃ k1, k1 = max k pl := ⟨_, rfl⟩
        have HK : Hid (j1 = j + 1 ∧ j < n ∧ k1 ≤ 9223372036854775807 ∧ m ≤ k1 ∧ ∀ i ∈ x.items.take j1, i.expr.length ≤ k1) := by
          have b1 := HJ.out.2.1
          have b2 := HJ.out.2.2.1
          have b3 := HN.out.2.2.2.2 p (List.mem_of_getElem? hp)
          refine ⟨hj1, hlt, by omega, by omega, fun i hi => ?_⟩
          rw [hj1, List.take_add_one, hp] at hi
          rcases List.mem_append.1 hi with hi | hi
          · have := HJ.out.2.2.2 i hi
            omega
          · have e : i = p := by simpa using hi
            rw [e, ← hpl]
            omega
        have hmx : max (k : Int) (pl : Int) = (k1 : Int) := by omega
        clear hp hlt hj hj1 hpl hk1
        go_upto_region 13 with fail
        rw [← hw8, ← hO]
        clear hw8 hO c0 c1
        obtain ⟨v1, v2⟩ := HV.out
        go_wp2
        clear v1 v2
        go_roundw
        all_goals first
          | (simp only [intOf]; have := HK.out.1; have := HK.out.2.1; omega)
          | exact ⟨j1, k1, by have := HK.out.1; have := HK.out.2.1; omega, rfl, rfl, X8.out.2, HK.out.2.2.1, HK.out.2.2.2.1, HK.out.2.2.2.2⟩
          | ((repeat apply Exists.intro); exact ⟨⟨j1, k1, by have := HK.out.1; have := HK.out.2.1; omega, rfl, rfl, X8.out.2, HK.out.2.2.1, HK.out.2.2.2.1, HK.out.2.2.2.2⟩, rfl⟩)
      · have q0 : ¬ (j : Int) < (n : Int) := by omega
        have HK : Hid (m ≤ k ∧ ∀ i ∈ x.items, i.expr.length ≤ k) := ⟨HJ.out.2.2.1, fun i hi => HJ.out.2.2.2 i (by rw [List.take_of_length_le (by have := HN.out.1; omega)]; exact hi)⟩
        have X8 : Hid (Below w1.heap.size w1 wr) := X7.out.trans (HJ.out.1.mono X7.out.size)
        rcases Q2.out with ⟨h0, hyx⟩ | ⟨h10, h9⟩
        · subst h0
          have YB : Hid (∀ W, Below w6.heap.size w6 W → W.cell? ⟨Y, 0, none⟩ = some (.int .u8 (y.kind : Int)) ∧ W.cell? ⟨Y, 1, none⟩ = some (.string (Lx.bs y.table)) ∧ W.cell? ⟨Y, 2, none⟩ = some (.string (Lx.bs y.field)) ∧ W.cell? ⟨Y, 3, none⟩ = some (.slice ja yn jc) ∧ W.cell? ⟨Y, 4, none⟩ = some (.slice fa ym fc) ∧ W.cell? ⟨Y, 5, none⟩ = some (.bool y.history) ∧ W.cell? ⟨Y, 6, none⟩ = some (.bool y.desc)) := fun W hW => by
            have r := (hW.block Y (row_lt X6.out.1)).trans X6.out.1
            have c : ∀ k v, (#[.int .u8 (y.kind : Int), .string (Lx.bs y.table), .string (Lx.bs y.field), .slice ja yn jc, .slice fa ym fc, .bool y.history, .bool y.desc] : Array Value)[k]? = some v → W.cell? ⟨Y, k, none⟩ = some v := fun k v hv => by rw [cell_of_row _ _ _ _ _ _ r]; exact hv
            exact ⟨c 0 _ rfl, c 1 _ rfl, c 2 _ rfl, c 3 _ rfl, c 4 _ rfl, c 5 _ rfl, c 6 _ rfl⟩
          obtain ⟨y0, y1, y2, y3, y4, y5, y6⟩ := YA.out wr X8.out
          obtain ⟨z0, z1, z2, z3, z4, z5, z6⟩ := YB.out wr HJ.out.1
          have CS : Hid (Calls Tryz.prog 21 #[.agg #[.int .u8 (x.kind : Int), .string (Lx.bs x.table), .string (Lx.bs x.field), .slice ia n ic, .slice ea m ec, .bool x.history, .bool x.desc], .agg #[.int .u8 (y.kind : Int), .string (Lx.bs y.table), .string (Lx.bs y.field), .slice ja yn jc, .slice fa ym fc, .bool y.history, .bool y.desc]] wr fun e w' => e = .returned (.bool true) ∧ Below wr.heap.size wr w') := by
            have g1 := G5.out.2.1
            have g2 := G5.out.2.2.1
            have g3 := G5.out.2.2.2
            rw [hyx] at g1 g2 g3 ⊢
            have e2 : yn = n := by rw [g2]; exact HN.out.1.symm
            have e3 : ym = m := by rw [g3]; exact HN.out.2.1.symm
            rw [e2, e3]
            exact sameX_c x n m HN.out.1 HN.out.2.1 HX.out ia ea ja fa ic ec jc fc wr (HI.out wr X8.out) (g1.call (X6.out.2.trans (HJ.out.1.mono X6.out.2.size)))
          clear hyx hj hlt
          by_cases q8 : (8 : Int) < (k : Int)
          all_goals
            go_wp2_with fail
            refine (CS.out).mono ?_
            rintro e w9 ⟨rfl, hb9⟩
            have X9 : Hid (Below w1.heap.size w1 w9) := X8.out.trans (hb9.mono X8.out.size)
            clear hb9 CS y0 y1 y2 y3 y4 y5 y6 z0 z1 z2 z3 z4 z5 z6
            go_wp2
            go_ret
            exact ⟨rfl, Xw.out.trans (X9.out.mono Xw.out.size)⟩
        · subst h10
          have q8 : (8 : Int) < (k : Int) := by
            rcases h9 with h9 | ⟨i, hi, h9⟩
            · have := HK.out.1; omega
            · have := HK.out.2 i hi; omega
          clear h9 hj hlt
          go_wp2
          go_ret
          exact ⟨rfl, Xw.out.trans (X8.out.mono Xw.out.size)⟩
end Ps
end Go.Proofs.YtfhkaffakniioaaGreatDoor
