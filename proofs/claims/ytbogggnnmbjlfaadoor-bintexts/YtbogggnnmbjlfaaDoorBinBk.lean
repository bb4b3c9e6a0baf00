/- BinBack, walked. -/
import Derived.Test.YtbogggnnmbjlfaaDoorBinL
namespace Go.Proofs.YtbogggnnmbjlfaaDoor
open Go.RowKit
open Vl (V)
theorem read_yes {s : ByteArray} {u : V} (hu : Bn.Is s u) (W : World) (hT : Bn.HasU W) : Calls Tryd.prog 20 #[.string s] W fun e w' => ∃ (yk : Nat) (yb : Bool) (yn : Int) (ys : ByteArray) (ya : Option Addr) (yl yc : Nat) (ua : Option Addr) (ul uc : Nat), e = .returned (.tuple #[.agg #[.int .u8 (yk : Int), .bool yb, .int .i64 yn, .string ys, .slice ya yl yc, .slice ua ul uc], .int .i64 0]) ∧ Below W.heap.size W w' ∧ Rep w' w'.heap.size u (.agg #[.int .u8 (yk : Int), .bool yb, .int .i64 yn, .string ys, .slice ya yl yc, .slice ua ul uc]) :=
  (read20 s W hT).mono (fun e w' ⟨h1, h2⟩ => by
    rcases h2 with ⟨t, zk, zb, zn, zs, za, zl, zc, ta, tl, tc, k1, k2, k3⟩ | ⟨k1, _⟩
    · obtain rfl := k1.one hu
      exact ⟨zk, zb, zn, zs, za, zl, zc, ta, tl, tc, k2, h1, repA_rep (fun g hg => hg.2) _ _ k3⟩
    · exact absurd hu (k1 _))
theorem read_no {s : ByteArray} (hn : ∀ u, ¬ Bn.Is s u) (W : World) (hT : Bn.HasU W) : Calls Tryd.prog 20 #[.string s] W fun e w' => ∃ c : Int, c ≠ 0 ∧ e = .returned (.tuple #[.agg #[.int .u8 0, .bool false, .int .i64 0, .string ⟨#[]⟩, .slice none 0 0, .slice none 0 0], .int .i64 c]) ∧ Below W.heap.size W w' :=
  (read20 s W hT).mono (fun e w' ⟨h1, h2⟩ => by
    rcases h2 with ⟨t, zk, zb, zn, zs, za, zl, zc, ta, tl, tc, k1, _⟩ | ⟨_, k2⟩
    · exact absurd k1 (hn t)
    · exact ⟨_, by split <;> omega, k2, h1⟩)
theorem Bn.Is.wrote {s : ByteArray} {u : V} (hu : Bn.Is s u) : Bn.werr u = 0 ∧ Bn.wtext u = s := by
  have hl : ¬ 16384 < (Bn.bytes u).length := by rw [← hu.2.2.1, ← Lib.size_eq]; have := hu.1; omega
  obtain ⟨h1, h2⟩ := Bn.werr_ok hu.2.2.2 hl
  refine ⟨h1, ?_⟩
  rw [h2]
  exact Bn.data_ext (by rw [hu.2.2.1])
theorem write_back {s : ByteArray} {u : V} (hu : Bn.Is s u) (W : World) (hT : Bn.HasU W) (xv : Value) (hr : Rep W W.heap.size u xv) : Calls Tryd.prog 18 #[xv] W fun e w' => e = .returned (.tuple #[.string s, .int .i64 0]) ∧ Below W.heap.size W w' := by
  have h := write18 u W hT W.heap.size xv (Nat.le_refl _) hr
  rw [hu.wrote.1, hu.wrote.2] at h
  exact h
theorem rep_zero (W : World) (H : Nat) : Rep W H ⟨0, false, 0, ⟨#[]⟩, [], []⟩ (.agg #[.int .u8 0, .bool false, .int .i64 0, .string ⟨#[]⟩, .slice none 0 0, .slice none 0 0]) := by
  rw [Rep]
  exact ⟨none, 0, none, 0, rfl, by omega, by omega, by decide, by simp, by simp, fun h => by simp at h, fun h => by simp at h⟩
theorem same_zero (W : World) : Calls Tryd.prog 17 #[.agg #[.int .u8 0, .bool false, .int .i64 0, .string ⟨#[]⟩, .slice none 0 0, .slice none 0 0], .agg #[.int .u8 0, .bool false, .int .i64 0, .string ⟨#[]⟩, .slice none 0 0, .slice none 0 0]] W fun e w' => e = .returned (.bool true) ∧ Below W.heap.size W w' := by
  have h := rsame17 _ ⟨0, false, 0, ⟨#[]⟩, [], []⟩ (Nat.le_refl _) ⟨0, false, 0, ⟨#[]⟩, [], []⟩ W W.heap.size _ _ (Nat.le_refl _) (rep_zero W _) (rep_zero W _)
  rw [Vl.same_refl] at h
  exact h
theorem Bn.is_wrote {t : V} (hf : Bn.rng t) (h : Bn.werr t = 0) : Bn.Is (Bn.wtext t) t := by
  have hc : Vl.check Bn.u8 0 t = 0 := Decidable.byContradiction fun hn => by
    have := (Bn.werr_why hn).1
    omega
  have hl : ¬ 16384 < (Bn.bytes t).length := fun hn => by
    have := (Bn.werr_long hc hn).1
    omega
  have e := (Bn.werr_ok hc hl).2
  have e2 : (Bn.wtext t).data.toList = Bn.bytes t := by rw [e]
  refine ⟨?_, Bn.fit_of Bn.u8 0 t hc hf, e2, hc⟩
  rw [Lib.size_eq, e2]
  omega
/-- the law's own variable -/
structure OB (w0 W : World) (B : Nat) (t : V) (a0 a1 a2 a3 a4 a5 : Value) : Prop where
  below : Below w0.heap.size w0 W
  row : Row6 W B a0 a1 a2 a3 a4 a5
  rep : Rep W w0.heap.size t (.agg #[a0, a1, a2, a3, a4, a5])
theorem OB.call {w0 W W' : World} {B : Nat} {t : V} {a0 a1 a2 a3 a4 a5 : Value} (h : OB w0 W B t a0 a1 a2 a3 a4 a5) (b : Below W.heap.size W W') : OB w0 W' B t a0 a1 a2 a3 a4 a5 :=
  ⟨h.below.trans (b.mono h.below.size), h.row.call b, rep_stays (b.mono h.below.size) (Nat.le_refl _) t _ h.rep⟩
theorem OB.start (w : World) (t : V) (a0 a1 a2 a3 a4 a5 : Value) (hr : Rep w w.heap.size t (.agg #[a0, a1, a2, a3, a4, a5])) : OB w (w.alloc (.cells #[a0, a1, a2, a3, a4, a5] 26)) w.heap.size t a0 a1 a2 a3 a4 a5 :=
  ⟨below_new _ _, ⟨by simp, heap_alloc_new w _⟩, rep_stays (below_new _ _) (Nat.le_refl _) t _ hr⟩
set_option maxHeartbeats 8000000 in
set_option maxRecDepth 10000 in
theorem back7 (t : V) (s : ByteArray) (w : World) (hT : Bn.HasU w) (v : Value) (hR : Rep w w.heap.size t v) :
    Calls Tryd.prog 7 #[v, .string s] w fun e w' => e = .returned (.bool true) ∧ Below w.heap.size w w' := by
  obtain ⟨xk, xb, xn, xs, xa, xl, xc, va, vl, vc, hv⟩ := repA_form (rep_repA t v hR)
  subst hv
  have HT : Hid (Bn.HasU w) := hT
  obtain ⟨B, hB⟩ : ∃ B, B = w.heap.size := ⟨_, rfl⟩
  obtain ⟨w1, hw1⟩ : ∃ w1, w1 = w.alloc (.cells #[.int .u8 (xk : Int), .bool xb, .int .i64 xn, .string xs, .slice xa xl xc, .slice va vl vc] 26) := ⟨_, rfl⟩
  have O1 : Hid (OB w w1 B t (.int .u8 (xk : Int)) (.bool xb) (.int .i64 xn) (.string xs) (.slice xa xl xc) (.slice va vl vc)) := by
    show OB _ _ _ _ _ _ _ _ _ _
    rw [hw1, hB]; exact OB.start w t _ _ _ _ _ _ hR
  have C22 : Hid (∀ W, Below w.heap.size w W → Calls Tryd.prog 22 #[] W fun e w' => e = .returned (.bool true) ∧ Below W.heap.size W w') := fun W hW => lives22 W (hT.stays hW)
  obtain ⟨we, hwe⟩ : ∃ we, we = Bn.werr t := ⟨_, rfl⟩
  obtain ⟨wt, hwt⟩ : ∃ wt, wt = Bn.wtext t := ⟨_, rfl⟩
  have C18 : Hid (∀ W, OB w W B t (.int .u8 (xk : Int)) (.bool xb) (.int .i64 xn) (.string xs) (.slice xa xl xc) (.slice va vl vc) → Calls Tryd.prog 18 #[.agg #[.int .u8 (xk : Int), .bool xb, .int .i64 xn, .string xs, .slice xa xl xc, .slice va vl vc]] W fun e w' => e = .returned (.tuple #[.string wt, .int .i64 (we : Int)]) ∧ Below W.heap.size W w') := fun W hW => by
    rw [hwe, hwt]
    exact write18 t W (hT.stays hW.below) w.heap.size _ hW.below.size hW.rep
  have HIS : Hid (we = 0 → Bn.Is wt t) := fun h => by rw [hwt]; exact Bn.is_wrote (Bn.rep_rng t _ hR) (by rw [← hwe]; exact h)
  clear hR hT hwe hwt
  go_enter Tryd.func7, Tryd.ntmps7
  go_upto_region 1 with fail
  rw [← hB, ← hw1]
  clear hB hw1
  obtain ⟨p0, p1, p2, p3, p4, p5⟩ := O1.out.row.cells
  go_upto_region 4 with (first
    | (go_at_call 22; refine (C22.out _ O1.out.below).mono ?_; rintro e w2 ⟨rfl, hb2⟩
       have O2 : Hid (OB w w2 B t (.int .u8 (xk : Int)) (.bool xb) (.int .i64 xn) (.string xs) (.slice xa xl xc) (.slice va vl vc)) := O1.out.call hb2
       obtain ⟨p0, p1, p2, p3, p4, p5⟩ := O2.out.row.cells
       clear hb2)
    | (go_at_call 18; refine (C18.out _ O2.out).mono ?_; rintro e w3 ⟨rfl, hb3⟩
       have O3 : Hid (OB w w3 B t (.int .u8 (xk : Int)) (.bool xb) (.int .i64 xn) (.string xs) (.slice xa xl xc) (.slice va vl vc)) := O2.out.call hb3
       clear hb3))
  clear p0 p1 p2 p3 p4 p5 O1 O2
  by_cases hwe : we = 0
  · have CR : Hid (∀ W, OB w W B t (.int .u8 (xk : Int)) (.bool xb) (.int .i64 xn) (.string xs) (.slice xa xl xc) (.slice va vl vc) → Calls Tryd.prog 20 #[.string wt] W fun e w' => ∃ (yk : Nat) (yb : Bool) (yn : Int) (ys : ByteArray) (ya : Option Addr) (yl yc : Nat) (ua : Option Addr) (ul uc : Nat), e = .returned (.tuple #[.agg #[.int .u8 (yk : Int), .bool yb, .int .i64 yn, .string ys, .slice ya yl yc, .slice ua ul uc], .int .i64 0]) ∧ Below W.heap.size W w' ∧ Rep w' w'.heap.size t (.agg #[.int .u8 (yk : Int), .bool yb, .int .i64 yn, .string ys, .slice ya yl yc, .slice ua ul uc])) := fun W hW => read_yes (HIS.out hwe) W (HT.out.stays hW.below)
    have C17 : Hid (∀ W va vb, Rep W W.heap.size t va → Rep W W.heap.size t vb → Calls Tryd.prog 17 #[va, vb] W fun e w' => e = .returned (.bool true) ∧ Below W.heap.size W w') := fun W va vb h1 h2 => by
      have h := rsame17 _ t (Nat.le_refl _) t W W.heap.size va vb (Nat.le_refl _) h1 h2
      rw [Vl.same_refl] at h
      exact h
    subst hwe
    clear HIS
    go_upto_region 6 with (first
      | (go_at_call 20; refine (CR.out _ O3.out).mono ?_; rintro e w4 ⟨yk, yb, yn, ys, ya, yl, yc, ua, ul, uc, rfl, hb4, hr4⟩
         have O4 : Hid (OB w w4 B t (.int .u8 (xk : Int)) (.bool xb) (.int .i64 xn) (.string xs) (.slice xa xl xc) (.slice va vl vc)) := O3.out.call hb4
         have H4 : Hid (Rep w4 w4.heap.size t (.agg #[.int .u8 (yk : Int), .bool yb, .int .i64 yn, .string ys, .slice ya yl yc, .slice ua ul uc])) := hr4
         clear hb4 hr4))
    obtain ⟨E, hE⟩ : ∃ E, E = w4.heap.size := ⟨_, rfl⟩
    obtain ⟨w5, hw5⟩ : ∃ w5, w5 = w4.alloc (.cells #[.int .u8 (yk : Int), .bool yb, .int .i64 yn, .string ys, .slice ya yl yc, .slice ua ul uc] 26) := ⟨_, rfl⟩
    have hb5 : Below w4.heap.size w4 w5 := by rw [hw5]; exact below_new _ _
    have O5 : Hid (OB w w5 B t (.int .u8 (xk : Int)) (.bool xb) (.int .i64 xn) (.string xs) (.slice xa xl xc) (.slice va vl vc)) := O4.out.call hb5
    have R5 : Hid (Row6 w5 E (.int .u8 (yk : Int)) (.bool yb) (.int .i64 yn) (.string ys) (.slice ya yl yc) (.slice ua ul uc)) := by
      show Row6 _ _ _ _ _ _ _ _
      rw [hw5, hE]; exact ⟨by simp, heap_alloc_new w4 _⟩
    have H5 : Hid (Rep w5 w5.heap.size t (.agg #[.int .u8 (yk : Int), .bool yb, .int .i64 yn, .string ys, .slice ya yl yc, .slice ua ul uc])) := rep_stays hb5 hb5.size _ _ H4.out
    rw [← hE, ← hw5]
    clear hE hw5 hb5 O4 H4 O3
    obtain ⟨p0, p1, p2, p3, p4, p5⟩ := O5.out.row.cells
    obtain ⟨q0, q1, q2, q3, q4, q5⟩ := R5.out.cells
    go_upto_region 8 with (first
      | (go_at_call 17; refine (C17.out _ _ _ (rep_stays (Below.refl _ _) O5.out.below.size t _ O5.out.rep) H5.out).mono ?_; rintro e w6 ⟨rfl, hb6⟩
         have O6 : Hid (OB w w6 B t (.int .u8 (xk : Int)) (.bool xb) (.int .i64 xn) (.string xs) (.slice xa xl xc) (.slice va vl vc)) := O5.out.call hb6
         clear hb6))
    clear p0 p1 p2 p3 p4 p5 q0 q1 q2 q3 q4 q5 O5 R5 H5 CR
    by_cases hs2 : ∃ u, Bn.Is s u
    · obtain ⟨u, hu⟩ := hs2
      have CS : Hid (∀ W, OB w W B t (.int .u8 (xk : Int)) (.bool xb) (.int .i64 xn) (.string xs) (.slice xa xl xc) (.slice va vl vc) → Calls Tryd.prog 20 #[.string s] W fun e w' => ∃ (yk : Nat) (yb : Bool) (yn : Int) (ys : ByteArray) (ya : Option Addr) (yl yc : Nat) (ua : Option Addr) (ul uc : Nat), e = .returned (.tuple #[.agg #[.int .u8 (yk : Int), .bool yb, .int .i64 yn, .string ys, .slice ya yl yc, .slice ua ul uc], .int .i64 0]) ∧ Below W.heap.size W w' ∧ Rep w' w'.heap.size u (.agg #[.int .u8 (yk : Int), .bool yb, .int .i64 yn, .string ys, .slice ya yl yc, .slice ua ul uc])) := fun W hW => read_yes hu W (HT.out.stays hW.below)
      have CW2 : Hid (∀ W xv, Below w.heap.size w W → Rep W W.heap.size u xv → Calls Tryd.prog 18 #[xv] W fun e w' => e = .returned (.tuple #[.string s, .int .i64 0]) ∧ Below W.heap.size W w') := fun W xv hW hr => write_back hu W (HT.out.stays hW) xv hr
      have C27 : Hid (∀ W xv, Below w.heap.size w W → Rep W W.heap.size u xv → Calls Tryd.prog 27 #[xv] W fun e w' => e = .returned (.int .i64 0) ∧ Below W.heap.size W w') := fun W xv hW hr => by
        have h := check27 u W (HT.out.stays hW) W.heap.size xv (Nat.le_refl _) hr
        rw [hu.2.2.2] at h
        exact h
      clear hu
      go_upto_region 9 with (first
        | (go_at_call 20; refine (CS.out _ O6.out).mono ?_; rintro e w7 ⟨yk, yb, yn, ys, ya, yl, yc, ua, ul, uc, rfl, hb7, hr7⟩
           have B7 : Hid (Below w.heap.size w w7) := O6.out.below.trans (hb7.mono O6.out.below.size)
           have H7 : Hid (Rep w7 w7.heap.size u (.agg #[.int .u8 (yk : Int), .bool yb, .int .i64 yn, .string ys, .slice ya yl yc, .slice ua ul uc])) := hr7
           clear hb7 hr7))
      obtain ⟨G, hG⟩ : ∃ G, G = w7.heap.size := ⟨_, rfl⟩
      obtain ⟨w8, hw8⟩ : ∃ w8, w8 = w7.alloc (.cells #[.int .u8 (yk : Int), .bool yb, .int .i64 yn, .string ys, .slice ya yl yc, .slice ua ul uc] 26) := ⟨_, rfl⟩
      have hb8 : Below w7.heap.size w7 w8 := by rw [hw8]; exact below_new _ _
      have B8 : Hid (Below w.heap.size w w8) := B7.out.trans (hb8.mono B7.out.size)
      have R8 : Hid (Row6 w8 G (.int .u8 (yk : Int)) (.bool yb) (.int .i64 yn) (.string ys) (.slice ya yl yc) (.slice ua ul uc)) := by
        show Row6 _ _ _ _ _ _ _ _
        rw [hw8, hG]; exact ⟨by simp, heap_alloc_new w7 _⟩
      have H8 : Hid (Rep w8 w8.heap.size u (.agg #[.int .u8 (yk : Int), .bool yb, .int .i64 yn, .string ys, .slice ya yl yc, .slice ua ul uc])) := rep_stays hb8 hb8.size _ _ H7.out
      rw [← hG, ← hw8]
      clear hG hw8 hb8 B7 H7
      obtain ⟨q0, q1, q2, q3, q4, q5⟩ := R8.out.cells
      go_wp2_with (first
        | (go_at_call 18; refine (CW2.out _ _ B8.out H8.out).mono ?_; rintro e w9 ⟨rfl, hb9⟩
           have B9 : Hid (Below w.heap.size w w9) := B8.out.trans (hb9.mono B8.out.size)
           have H9 : Hid (Rep w9 w9.heap.size u (.agg #[.int .u8 (yk : Int), .bool yb, .int .i64 yn, .string ys, .slice ya yl yc, .slice ua ul uc])) := rep_stays hb9 hb9.size _ _ H8.out
           obtain ⟨q0, q1, q2, q3, q4, q5⟩ := (R8.out.call hb9).cells
           clear hb9)
        | (go_at_call 27; refine (C27.out _ _ B9.out H9.out).mono ?_; rintro e w10 ⟨rfl, hb10⟩
           have B10 : Hid (Below w.heap.size w w10) := B9.out.trans (hb10.mono B9.out.size)
           clear hb10))
      go_ret
      exact ⟨rfl, B10.out⟩
    · have CS : Hid (∀ W, OB w W B t (.int .u8 (xk : Int)) (.bool xb) (.int .i64 xn) (.string xs) (.slice xa xl xc) (.slice va vl vc) → Calls Tryd.prog 20 #[.string s] W fun e w' => ∃ c : Int, c ≠ 0 ∧ e = .returned (.tuple #[.agg #[.int .u8 0, .bool false, .int .i64 0, .string ⟨#[]⟩, .slice none 0 0, .slice none 0 0], .int .i64 c]) ∧ Below W.heap.size W w') := fun W hW => read_no (fun u hu => hs2 ⟨u, hu⟩) W (HT.out.stays hW.below)
      have C17 : Hid (∀ W, Calls Tryd.prog 17 #[.agg #[.int .u8 0, .bool false, .int .i64 0, .string ⟨#[]⟩, .slice none 0 0, .slice none 0 0], .agg #[.int .u8 0, .bool false, .int .i64 0, .string ⟨#[]⟩, .slice none 0 0, .slice none 0 0]] W fun e w' => e = .returned (.bool true) ∧ Below W.heap.size W w') := fun W => same_zero W
      clear hs2
      go_upto_region 9 with (first
        | (go_at_call 20; refine (CS.out _ O6.out).mono ?_; rintro e w7 ⟨c7, hc7, rfl, hb7⟩
           have B7 : Hid (Below w.heap.size w w7) := O6.out.below.trans (hb7.mono O6.out.below.size)
           clear hb7))
      obtain ⟨G, hG⟩ : ∃ G, G = w7.heap.size := ⟨_, rfl⟩
      obtain ⟨w8, hw8⟩ : ∃ w8, w8 = w7.alloc (.cells #[.int .u8 0, .bool false, .int .i64 0, .string ⟨#[]⟩, .slice none 0 0, .slice none 0 0] 26) := ⟨_, rfl⟩
      have hb8 : Below w7.heap.size w7 w8 := by rw [hw8]; exact below_new _ _
      have B8 : Hid (Below w.heap.size w w8) := B7.out.trans (hb8.mono B7.out.size)
      have R8 : Hid (Row6 w8 G (.int .u8 0) (.bool false) (.int .i64 0) (.string ⟨#[]⟩) (.slice none 0 0) (.slice none 0 0)) := by
        show Row6 _ _ _ _ _ _ _ _
        rw [hw8, hG]; exact ⟨by simp, heap_alloc_new w7 _⟩
      rw [← hG, ← hw8]
      clear hG hw8 hb8 B7
      obtain ⟨q0, q1, q2, q3, q4, q5⟩ := R8.out.cells
      go_wp2_with (first
        | (go_at_call 17; refine (C17.out _).mono ?_; rintro e w9 ⟨rfl, hb9⟩
           have B9 : Hid (Below w.heap.size w w9) := B8.out.trans (hb9.mono B8.out.size)
           clear hb9))
      go_ret
      exact ⟨rfl, B9.out⟩
  · have hwi : ¬ (we : Int) = 0 := by omega
    clear HIS hwe
    go_upto_region 8 with fail
    by_cases hs2 : ∃ u, Bn.Is s u
    · obtain ⟨u, hu⟩ := hs2
      have CS : Hid (∀ W, OB w W B t (.int .u8 (xk : Int)) (.bool xb) (.int .i64 xn) (.string xs) (.slice xa xl xc) (.slice va vl vc) → Calls Tryd.prog 20 #[.string s] W fun e w' => ∃ (yk : Nat) (yb : Bool) (yn : Int) (ys : ByteArray) (ya : Option Addr) (yl yc : Nat) (ua : Option Addr) (ul uc : Nat), e = .returned (.tuple #[.agg #[.int .u8 (yk : Int), .bool yb, .int .i64 yn, .string ys, .slice ya yl yc, .slice ua ul uc], .int .i64 0]) ∧ Below W.heap.size W w' ∧ Rep w' w'.heap.size u (.agg #[.int .u8 (yk : Int), .bool yb, .int .i64 yn, .string ys, .slice ya yl yc, .slice ua ul uc])) := fun W hW => read_yes hu W (HT.out.stays hW.below)
      have CW2 : Hid (∀ W xv, Below w.heap.size w W → Rep W W.heap.size u xv → Calls Tryd.prog 18 #[xv] W fun e w' => e = .returned (.tuple #[.string s, .int .i64 0]) ∧ Below W.heap.size W w') := fun W xv hW hr => write_back hu W (HT.out.stays hW) xv hr
      have C27 : Hid (∀ W xv, Below w.heap.size w W → Rep W W.heap.size u xv → Calls Tryd.prog 27 #[xv] W fun e w' => e = .returned (.int .i64 0) ∧ Below W.heap.size W w') := fun W xv hW hr => by
        have h := check27 u W (HT.out.stays hW) W.heap.size xv (Nat.le_refl _) hr
        rw [hu.2.2.2] at h
        exact h
      clear hu
      go_upto_region 9 with (first
        | (go_at_call 20; refine (CS.out _ O3.out).mono ?_; rintro e w7 ⟨yk, yb, yn, ys, ya, yl, yc, ua, ul, uc, rfl, hb7, hr7⟩
           have B7 : Hid (Below w.heap.size w w7) := O3.out.below.trans (hb7.mono O3.out.below.size)
           have H7 : Hid (Rep w7 w7.heap.size u (.agg #[.int .u8 (yk : Int), .bool yb, .int .i64 yn, .string ys, .slice ya yl yc, .slice ua ul uc])) := hr7
           clear hb7 hr7))
      obtain ⟨G, hG⟩ : ∃ G, G = w7.heap.size := ⟨_, rfl⟩
      obtain ⟨w8, hw8⟩ : ∃ w8, w8 = w7.alloc (.cells #[.int .u8 (yk : Int), .bool yb, .int .i64 yn, .string ys, .slice ya yl yc, .slice ua ul uc] 26) := ⟨_, rfl⟩
      have hb8 : Below w7.heap.size w7 w8 := by rw [hw8]; exact below_new _ _
      have B8 : Hid (Below w.heap.size w w8) := B7.out.trans (hb8.mono B7.out.size)
      have R8 : Hid (Row6 w8 G (.int .u8 (yk : Int)) (.bool yb) (.int .i64 yn) (.string ys) (.slice ya yl yc) (.slice ua ul uc)) := by
        show Row6 _ _ _ _ _ _ _ _
        rw [hw8, hG]; exact ⟨by simp, heap_alloc_new w7 _⟩
      have H8 : Hid (Rep w8 w8.heap.size u (.agg #[.int .u8 (yk : Int), .bool yb, .int .i64 yn, .string ys, .slice ya yl yc, .slice ua ul uc])) := rep_stays hb8 hb8.size _ _ H7.out
      rw [← hG, ← hw8]
      clear hG hw8 hb8 B7 H7
      obtain ⟨q0, q1, q2, q3, q4, q5⟩ := R8.out.cells
      go_wp2_with (first
        | (go_at_call 18; refine (CW2.out _ _ B8.out H8.out).mono ?_; rintro e w9 ⟨rfl, hb9⟩
           have B9 : Hid (Below w.heap.size w w9) := B8.out.trans (hb9.mono B8.out.size)
           have H9 : Hid (Rep w9 w9.heap.size u (.agg #[.int .u8 (yk : Int), .bool yb, .int .i64 yn, .string ys, .slice ya yl yc, .slice ua ul uc])) := rep_stays hb9 hb9.size _ _ H8.out
           obtain ⟨q0, q1, q2, q3, q4, q5⟩ := (R8.out.call hb9).cells
           clear hb9)
        | (go_at_call 27; refine (C27.out _ _ B9.out H9.out).mono ?_; rintro e w10 ⟨rfl, hb10⟩
           have B10 : Hid (Below w.heap.size w w10) := B9.out.trans (hb10.mono B9.out.size)
           clear hb10))
      go_ret
      exact ⟨rfl, B10.out⟩
    · have CS : Hid (∀ W, OB w W B t (.int .u8 (xk : Int)) (.bool xb) (.int .i64 xn) (.string xs) (.slice xa xl xc) (.slice va vl vc) → Calls Tryd.prog 20 #[.string s] W fun e w' => ∃ c : Int, c ≠ 0 ∧ e = .returned (.tuple #[.agg #[.int .u8 0, .bool false, .int .i64 0, .string ⟨#[]⟩, .slice none 0 0, .slice none 0 0], .int .i64 c]) ∧ Below W.heap.size W w') := fun W hW => read_no (fun u hu => hs2 ⟨u, hu⟩) W (HT.out.stays hW.below)
      have C17 : Hid (∀ W, Calls Tryd.prog 17 #[.agg #[.int .u8 0, .bool false, .int .i64 0, .string ⟨#[]⟩, .slice none 0 0, .slice none 0 0], .agg #[.int .u8 0, .bool false, .int .i64 0, .string ⟨#[]⟩, .slice none 0 0, .slice none 0 0]] W fun e w' => e = .returned (.bool true) ∧ Below W.heap.size W w') := fun W => same_zero W
      clear hs2
      go_upto_region 9 with (first
        | (go_at_call 20; refine (CS.out _ O3.out).mono ?_; rintro e w7 ⟨c7, hc7, rfl, hb7⟩
           have B7 : Hid (Below w.heap.size w w7) := O3.out.below.trans (hb7.mono O3.out.below.size)
           clear hb7))
      obtain ⟨G, hG⟩ : ∃ G, G = w7.heap.size := ⟨_, rfl⟩
      obtain ⟨w8, hw8⟩ : ∃ w8, w8 = w7.alloc (.cells #[.int .u8 0, .bool false, .int .i64 0, .string ⟨#[]⟩, .slice none 0 0, .slice none 0 0] 26) := ⟨_, rfl⟩
      have hb8 : Below w7.heap.size w7 w8 := by rw [hw8]; exact below_new _ _
      have B8 : Hid (Below w.heap.size w w8) := B7.out.trans (hb8.mono B7.out.size)
      have R8 : Hid (Row6 w8 G (.int .u8 0) (.bool false) (.int .i64 0) (.string ⟨#[]⟩) (.slice none 0 0) (.slice none 0 0)) := by
        show Row6 _ _ _ _ _ _ _ _
        rw [hw8, hG]; exact ⟨by simp, heap_alloc_new w7 _⟩
      rw [← hG, ← hw8]
      clear hG hw8 hb8 B7
      obtain ⟨q0, q1, q2, q3, q4, q5⟩ := R8.out.cells
      go_wp2_with (first
        | (go_at_call 17; refine (C17.out _).mono ?_; rintro e w9 ⟨rfl, hb9⟩
           have B9 : Hid (Below w.heap.size w w9) := B8.out.trans (hb9.mono B8.out.size)
           clear hb9))
      go_ret
      exact ⟨rfl, B9.out⟩
end Go.Proofs.YtbogggnnmbjlfaaDoor
