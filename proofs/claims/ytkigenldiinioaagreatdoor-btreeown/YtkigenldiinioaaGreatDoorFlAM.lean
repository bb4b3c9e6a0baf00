/- A tree of pairs put and dropped one by one, beside the list that it should be: walked. -/
import Derived.Test.YtkigenldiinioaaGreatDoorRfDM
import Derived.Test.YtkigenldiinioaaGreatDoorBtPaM
import Derived.Test.YtkigenldiinioaaGreatDoorQ42M
import Derived.Test.YtkigenldiinioaaGreatDoorQ36M
namespace Go.Proofs.YtkigenldiinioaaGreatDoor
open Go.RowKit
open Vl (V)
attribute [local go_sem ↓] Go.wp_at_zero Go.wp_at_succ
theorem TSt.own_in {w : World} {F O : Nat → Prop} {tb : Nat} {L : Bt.KL} (h : TSt w F O tb L) : ∀ g, O g → F g := by
  obtain ⟨_, _, _, _, _, _, _, _, h⟩ := h
  exact h
theorem wr63 {x : Int} {c : Nat} (h : x = (c : Int)) (hc : c ≤ 9223372036854775807) : IntKind.i64.wrap x = (c : Int) ∧ wrap64 x = (c : Int) := by
  subst h
  exact ⟨by rw [IntKind.wrap_i64]; omega, by unfold wrap64; omega⟩
/-- a tree, beside the list that it should be; blocks that stay -/
structure FS (w0 : World) (tb : Nat) (Lt Le : Bt.KL) (a : Option Addr) (P : Nat → Obj → Prop) (W : World) : Prop where
  ex : ∃ F O, TSt W F O tb Lt ∧ EntsA W (fun g => g < W.heap.size ∧ ¬ F g) a Le ∧ ∀ g, F g → w0.heap.size ≤ g ∧ ∀ o, ¬ P g o
  below : Below w0.heap.size w0 W
  lw : Bt.LW Le
  box : ∀ g o, P g o → W.heap[g]? = some o
  ok : ∀ p ∈ Lt, Bt.kerr p.1 = 0
section
variable {w0 W W' : World} {tb : Nat} {Lt Le L : Bt.KL} {a : Option Addr} {P : Nat → Obj → Prop}
theorem FS.call (h : FS w0 tb Lt Le a P W) (hb : Below W.heap.size W W') : FS w0 tb Lt Le a P W' := by
  obtain ⟨F, O, h1, h2, h3⟩ := h.ex
  exact ⟨⟨F, O, h1.stays hb, h2.stays (fun g hg => hb.block g hg.1) (fun g hg => ⟨Nat.lt_of_lt_of_le hg.1 hb.size, hg.2⟩), h3⟩, h.below.trans (hb.mono h.below.size), h.lw, fun g o hg => (hb.block g (lt_of_row (h.box g o hg))).trans (h.box g o hg), h.ok⟩
theorem FS.less {Q : Nat → Obj → Prop} (h : FS w0 tb Lt Le a P W) (hq : ∀ g o, Q g o → P g o) : FS w0 tb Lt Le a Q W := by
  obtain ⟨F, O, h1, h2, h3⟩ := h.ex
  exact ⟨⟨F, O, h1, h2, fun g hg => ⟨(h3 g hg).1, fun o q => (h3 g hg).2 o (hq g o q)⟩⟩, h.below, h.lw, fun g o q => h.box g o (hq g o q), h.ok⟩
/-- one more block that stays -/
theorem FS.more {X : Nat} {o : Obj} (h : FS w0 tb Lt Le a P W) (hb : Below W.heap.size W W') (hX : W.heap.size ≤ X) (ho : W'.heap[X]? = some o) : FS w0 tb Lt Le a (fun g u => g = X ∧ u = o) W' := by
  have h' := h.call hb
  obtain ⟨F, O, h1, h2, h3⟩ := h.ex
  refine ⟨⟨F, O, h1.stays hb, h2.stays (fun g hg => hb.block g hg.1) (fun g hg => ⟨Nat.lt_of_lt_of_le hg.1 hb.size, hg.2⟩), fun g hg => ⟨(h3 g hg).1, fun u q => ?_⟩⟩, h'.below, h.lw, fun g u q => (by rw [q.1, q.2]; exact ho), h.ok⟩
  have := h1.lt hg
  have := q.1
  omega
theorem FS.start (hb : Below w0.heap.size w0 W) (h : W.heap[tb]? = some (.cells #[.pointer none, .int .i64 0] 69 (0, 0))) (ht : w0.heap.size ≤ tb) : FS w0 tb [] [] none (fun _ _ => False) W :=
  ⟨⟨fun g => g = tb, fun g => g = tb, TSt.start h rfl (fun g hg => by rw [hg]; exact lt_of_row h), EntsA.nil _ _ _, fun g hg => ⟨by rw [hg]; exact ht, fun _ q => q⟩⟩, hb, Bt.LW.nil, fun _ _ q => q.elim, fun _ q => by cases q⟩
theorem fs_rep {x : V} {v : Value} (h : FS w0 tb Lt Le a P W) (hv : Rep w0 w0.heap.size x v) : Rep W W.heap.size x v := rep_stays h.below h.below.size _ _ hv
theorem fs_put {Lo : Bt.KL} (h : FS w0 tb L Lo a P W) (hU : Bn.HasU w0) {x : V} {v : Value} (hv : Rep w0 w0.heap.size x v) (id : Nat) :
    Calls Tryz.prog 24 #[.pointer (some ⟨tb, 0, none⟩), v, .int .u64 (id : Int)] W fun ex w' => ex = .returned (.int .i64 (Bt.perr x id L : Int)) ∧ FS w0 tb (if Bt.perr x id L = 0 then Bt.lput x id L else L) Lo a P w' := by
  have h' := h
  obtain ⟨F, O, h1, h2, h3⟩ := h.ex
  refine (put_a h1 (hU.stays h.below) (fs_rep h' hv) id).mono ?_
  rintro ex w' ⟨rfl, F', O', k1, k2⟩
  have oF : ∀ g, O g → F g := h1.own_in
  refine ⟨rfl, ⟨F', O', k1, h2.stays (fun g hg => k2.kept.block g hg.1 fun q => hg.2 (oF g q)) (fun g hg => ⟨Nat.lt_of_lt_of_le hg.1 k2.kept.size, fun q => ?_⟩), fun g hg => ?_⟩, h.below.trans (k2.kept.below (fun g hg => (h3 g (oF g hg)).1) h.below.size), h.lw, fun g o hg => ?_, Bt.put_ok h.ok⟩
  · rcases k2.new g q with q2 | q2
    · exact hg.2 q2
    · have := hg.1; omega
  · rcases k2.new g hg with q | q
    · exact h3 g q
    · exact ⟨Nat.le_trans h.below.size q, fun o q2 => by have := lt_of_row (h.box g o q2); omega⟩
  · exact (k2.kept.block g (lt_of_row (h.box g o hg)) fun q => (h3 g (oF g q)).2 o hg).trans (h.box g o hg)
theorem fs_drop {Lo : Bt.KL} (h : FS w0 tb L Lo a P W) (hU : Bn.HasU w0) {x : V} {v : Value} (hv : Rep w0 w0.heap.size x v) (id : Nat) :
    Calls Tryz.prog 25 #[.pointer (some ⟨tb, 0, none⟩), v, .int .u64 (id : Int)] W fun ex w' => ex = .returned (.int .i64 (Bt.derr x id L : Int)) ∧ FS w0 tb (if Bt.derr x id L = 0 then Bt.ldrop x id L else L) Lo a P w' := by
  have h' := h
  obtain ⟨F, O, h1, h2, h3⟩ := h.ex
  refine (drop_a h1 (hU.stays h.below) (fs_rep h' hv) (fun W2 hk => ?_) id).mono ?_
  · have hb := h.below.trans (hk.below (fun g hg => (h3 g hg).1) h.below.size)
    exact rep_stays hb hb.size _ _ hv
  rintro ex w' ⟨rfl, F', O', k1, k2⟩
  have oF : ∀ g, O g → F g := h1.own_in
  refine ⟨rfl, ⟨F', O', k1, h2.stays (fun g hg => k2.kept.block g hg.1 fun q => hg.2 (oF g q)) (fun g hg => ⟨Nat.lt_of_lt_of_le hg.1 k2.kept.size, fun q => ?_⟩), fun g hg => ?_⟩, h.below.trans (k2.kept.below (fun g hg => (h3 g (oF g hg)).1) h.below.size), h.lw, fun g o hg => ?_, Bt.drop_ok h.ok⟩
  · rcases k2.new g q with q2 | q2
    · exact hg.2 q2
    · have := hg.1; omega
  · rcases k2.new g hg with q | q
    · exact h3 g q
    · exact ⟨Nat.le_trans h.below.size q, fun o q2 => by have := lt_of_row (h.box g o q2); omega⟩
  · exact (k2.kept.block g (lt_of_row (h.box g o hg)) fun q => (h3 g (oF g q)).2 o hg).trans (h.box g o hg)
end
/-- what a round's calls do -/
structure FC (w0 : World) (tb : Nat) (x : V) (v : Value) (P : Nat → Obj → Prop) : Prop where
  pp : ∀ (id : Nat) (L : Bt.KL) (a : Option Addr) (W : World), FS w0 tb L L a P W → Calls Tryz.prog 24 #[.pointer (some ⟨tb, 0, none⟩), v, .int .u64 (id : Int)] W fun ex w' => ex = .returned (.int .i64 (Bt.perr x id L : Int)) ∧ FS w0 tb (if Bt.perr x id L = 0 then Bt.lput x id L else L) L a P w'
  pr : ∀ (id : Nat) (L L2 : Bt.KL) (a : Option Addr) (ca : Nat) (W : World), L2 = (if Bt.perr x id L = 0 then Bt.lput x id L else L) → FS w0 tb L2 L a P W → Calls Tryz.prog 27 #[.slice a L.length ca, v, .int .u64 (id : Int)] W fun ex w' => ∃ a' n c, ex = .returned (.tuple #[.slice a' n c, .int .i64 (Bt.perr x id L : Int)]) ∧ n = L2.length ∧ FS w0 tb L2 L2 a' P w'
  dp : ∀ (id : Nat) (L : Bt.KL) (a : Option Addr) (W : World), FS w0 tb L L a P W → Calls Tryz.prog 25 #[.pointer (some ⟨tb, 0, none⟩), v, .int .u64 (id : Int)] W fun ex w' => ex = .returned (.int .i64 (Bt.derr x id L : Int)) ∧ FS w0 tb (if Bt.derr x id L = 0 then Bt.ldrop x id L else L) L a P w'
  dr : ∀ (id : Nat) (L L2 : Bt.KL) (a : Option Addr) (ca : Nat) (W : World), L2 = (if Bt.derr x id L = 0 then Bt.ldrop x id L else L) → FS w0 tb L2 L a P W → Calls Tryz.prog 29 #[.slice a L.length ca, v, .int .u64 (id : Int)] W fun ex w' => ∃ a' n c, ex = .returned (.tuple #[.slice a' n c, .int .i64 (Bt.derr x id L : Int)]) ∧ n = L2.length ∧ FS w0 tb L2 L2 a' P w'
theorem fc_of {w0 : World} {tb : Nat} {x : V} {v : Value} {P : Nat → Obj → Prop} (hU : Bn.HasU w0) (hv : Rep w0 w0.heap.size x v) : FC w0 tb x v P where
  pp := fun id L a W h => fs_put h hU hv id
  dp := fun id L a W h => fs_drop h hU hv id
  pr := fun id L L2 a ca W hL h => by
    subst hL
    obtain ⟨F, O, h1, h2, h3⟩ := h.ex
    refine (rput_c L a ca W (fun g => g < W.heap.size ∧ ¬ F g) x v id h.lw (fun g hg => hg.1) h2 (fs_rep h hv)).mono ?_
    rintro ex w' ⟨a', n, c, rfl, hn, hA, hb⟩
    refine ⟨a', n, c, rfl, hn, ⟨F, O, h1.stays hb, hA.stays (fun _ _ => rfl) (fun g hg => ?_), h3⟩, h.below.trans (hb.mono h.below.size), h1.lw, fun g o hg => (hb.block g (lt_of_row (h.box g o hg))).trans (h.box g o hg), h.ok⟩
    rcases hg with q | q
    · exact ⟨Nat.lt_of_lt_of_le q.1 hb.size, q.2⟩
    · exact ⟨q.2, fun q2 => by have := h1.lt q2; omega⟩
  dr := fun id L L2 a ca W hL h => by
    subst hL
    obtain ⟨F, O, h1, h2, h3⟩ := h.ex
    refine (rdrop_c L a ca W (fun g => g < W.heap.size ∧ ¬ F g) x v id h.lw (fun g hg => hg.1) h2 (fs_rep h hv)).mono ?_
    rintro ex w' ⟨a', n, c, rfl, hn, hA, hb⟩
    refine ⟨a', n, c, rfl, hn, ⟨F, O, h1.stays hb, hA.stays (fun _ _ => rfl) (fun g hg => ?_), h3⟩, h.below.trans (hb.mono h.below.size), h1.lw, fun g o hg => (hb.block g (lt_of_row (h.box g o hg))).trans (h.box g o hg), h.ok⟩
    rcases hg with q | q
    · exact ⟨Nat.lt_of_lt_of_le q.1 hb.size, q.2⟩
    · exact ⟨q.2, fun q2 => by have := h1.lt q2; omega⟩
theorem hidden {p : Prop} (h : p) : Hid p := h
/-- what is handed back -/
def FilledR (w : World) (e : Ending) (w' : World) : Prop := ∃ tb L a c, e = .returned (.tuple #[.pointer (some ⟨tb, 0, none⟩), .slice a (List.length L) c, .bool true]) ∧ FS w tb L L a (fun _ _ => False) w'
theorem evens {k r : Nat} (hr : r = k % 2) : (k : Int).tmod 2 = (r : Int) ∧ (k : Int) % 2 = (r : Int) := ⟨by rw [hr]; rfl, by omega⟩
set_option maxHeartbeats 16000000 in
set_option maxRecDepth 100000 in
theorem filled_c (w : World) (hU : Bn.HasU w) (l : List (V × List Nat)) (la : Option Addr) (lc : Nat) (hl : l.length ≤ maxLen) (hI : InEs w w.heap.size la l) : Calls Tryz.prog 9 #[.slice la l.length lc] w (FilledR w) := by
  obtain ⟨n, hn⟩ : ∃ n, n = l.length := ⟨_, rfl⟩
  rw [← hn] at hl ⊢
  have HN : Hid (n = l.length ∧ n ≤ 9223372036854775807) := ⟨hn, by unfold maxLen at hl; omega⟩
  have HI : Hid (InEs w w.heap.size la l) := hI
  have HU : Hid (Bn.HasU w) := hU
  clear hn hl hI hU
  go_enter Tryz.func9, Tryz.ntmps9
  go_wp2_with fail
  refine (new_c w).mono ?_
  rintro e w1 ⟨rfl, hw1⟩
  obtain ⟨tb, htb⟩ : ∃ tb, tb = w.heap.size := ⟨_, rfl⟩
  rw [← htb]
  have HST : Hid (FS w tb [] [] none (fun _ _ => False) w1) := by
    refine FS.start ?_ ?_ (by rw [htb]; exact Nat.le_refl _)
    · rw [hw1]; exact below_new _ _
    · rw [hw1, htb]; exact heap_alloc_new w _
  clear hw1 htb
  go_wp2_with fail
  go_loopw [6, 16] (fun o i wr => ∃ (j : Nat) (L : Bt.KL) (a : Option Addr) (c : Nat), o = .slice a L.length c ∧ i = .int .i64 (j : Int) ∧ j ≤ n ∧ FS w tb L L a (fun _ _ => False) wr) (fun _ i _ => n - (intOf i).toNat)
  case atStart => exact ⟨0, [], none, 0, rfl, rfl, by omega, HST.out⟩
  case round =>
    clear HST
    obtain ⟨j, L, a, ca, rfl, rfl, hj, hfs⟩ := hrel
    have HF : Hid (FS w tb L L a (fun _ _ => False) wr) := hfs
    clear hfs
    by_cases hjn : j = n
    · subst hjn
      have q0 : ¬ (j : Int) < (j : Int) := by omega
      go_wp2
      go_ret3
      exact ⟨tb, L, a, ca, rfl, HF.out⟩
    · have q0 : (j : Int) < (n : Int) := by omega
      have q1 : (0 : Int) ≤ (j : Int) := by omega
      have hjl : j < l.length := by have := HN.out; omega
      obtain ⟨p, hp⟩ : ∃ p, l[j]? = some p := ⟨_, List.getElem?_eq_getElem hjl⟩
      obtain ⟨g, o, rfl, hg, hE⟩ := HI.out (by omega)
      obtain ⟨k0, k1, k2, k3, k4, k5, pi, cap, ⟨c0, c1, c2, c3, c4, c5, c6⟩, h4, h5, h6⟩ := hE j p hp
      obtain ⟨kk0, kk1, kk2, kk3, kk4, kk5, ky0, ky1, kz0, kz1, f0, f1, f2, f3, f4, f5⟩ := rep_form h4
      subst f0 f1 f2 f3 f4 f5
      obtain ⟨ln, hln⟩ : ∃ ln, ln = p.2.length := ⟨_, rfl⟩
      obtain ⟨qo, hqo⟩ : ∃ qo, qo = o + j * 7 := ⟨_, rfl⟩
      rw [← hqo] at c0 c1 c2 c3 c4 c5 c6
      rw [← hln] at c6 h5
      have cl := fun q => HF.out.below.cell (p := ⟨g, q, none⟩) hg
      have a0 := (cl _).trans c0
      have a1 := (cl _).trans c1
      have a2 := (cl _).trans c2
      have a3 := (cl _).trans c3
      have a4 := (cl _).trans c4
      have a5 := (cl _).trans c5
      have a6 := (cl _).trans c6
      have hqo' := hqo.symm
      obtain ⟨j1, hj1⟩ : ∃ j1, j1 = j + 1 := ⟨_, rfl⟩
      have HVV : Hid (IntKind.i64.wrap ((j : Int) + 1) = (j1 : Int) ∧ wrap64 ((j : Int) + 1) = (j1 : Int)) := wr63 (by omega) (by have := HN.out; omega)
      have HJ : Hid (j1 = j + 1 ∧ j < n) := ⟨hj1, by omega⟩
      have HP : Hid (ln = p.2.length ∧ ln ≤ 9223372036854775807 ∧ NumsI w w.heap.size pi p.2 ∧ Rep w w.heap.size p.1 (.agg #[.int .u8 (kk0 : Int), .bool kk1, .int .i64 kk2, .string kk3, .slice kk4 kk5 ky0, .slice ky1 kz0 kz1])) := ⟨hln, by unfold maxLen at h5; omega, h6, h4⟩
      clear c0 c1 c2 c3 c4 c5 c6 cl h4 h5 h6 hp hln hqo hj1 hjn hj hjl hg hE HI
      go_upto_region 6 with fail
      obtain ⟨w3, hw3⟩ : ∃ w3, w3 = wr.alloc (.cells #[.int .u8 (kk0 : Int), .bool kk1, .int .i64 kk2, .string kk3, .slice kk4 kk5 ky0, .slice ky1 kz0 kz1, .slice pi ln cap] 49) := ⟨_, rfl⟩
      have n1 := by have := heap_alloc_new wr (.cells #[.int .u8 (kk0 : Int), .bool kk1, .int .i64 kk2, .string kk3, .slice kk4 kk5 ky0, .slice ky1 kz0 kz1, .slice pi ln cap] 49); rw [← hw3] at this; exact this
      have n2 : Below wr.heap.size wr w3 := by rw [hw3]; exact below_new _ _
      rw [← hw3]
      obtain ⟨X, hX⟩ : ∃ X, X = wr.heap.size := ⟨_, rfl⟩
      rw [← hX] at n1 ⊢
      have HX : Hid (FS w tb L L a (fun g u => g = X ∧ u = .cells #[.int .u8 (kk0 : Int), .bool kk1, .int .i64 kk2, .string kk3, .slice kk4 kk5 ky0, .slice ky1 kz0 kz1, .slice pi ln cap] 49 (0, 0)) w3) := HF.out.more n2 (by omega) n1
      have y6 := cells_at n1 6 _ rfl
      clear n2 hw3 n1 hX HF a0 a1 a2 a3 a4 a5 a6
      have HCALL : Hid (FC w tb p.1 (.agg #[.int .u8 (kk0 : Int), .bool kk1, .int .i64 kk2, .string kk3, .slice kk4 kk5 ky0, .slice ky1 kz0 kz1]) (fun g u => g = X ∧ u = .cells #[.int .u8 (kk0 : Int), .bool kk1, .int .i64 kk2, .string kk3, .slice kk4 kk5 ky0, .slice ky1 kz0 kz1, .slice pi ln cap] 49 (0, 0))) := fc_of HU.out HP.out.2.2.2
      go_wp2_with fail
      clear y6
      go_loopw [6, 23] (fun o i wr => ∃ (k : Nat) (L : Bt.KL) (a : Option Addr) (c : Nat), o = .slice a L.length c ∧ i = .int .i64 (k : Int) ∧ k ≤ ln ∧ FS w tb L L a (fun g u => g = X ∧ u = .cells #[.int .u8 (kk0 : Int), .bool kk1, .int .i64 kk2, .string kk3, .slice kk4 kk5 ky0, .slice ky1 kz0 kz1, .slice pi ln cap] 49 (0, 0)) wr) (fun _ i _ => ln - (intOf i).toNat)
      case atStart => exact ⟨0, L, a, ca, rfl, rfl, by omega, HX.out⟩
      case round =>
        clear HX
        obtain ⟨k, L3, a3, ca3, rfl, rfl, hk, hfs⟩ := hrel
        have HFW : Hid (FS w tb L3 L3 a3 (fun g u => g = X ∧ u = .cells #[.int .u8 (kk0 : Int), .bool kk1, .int .i64 kk2, .string kk3, .slice kk4 kk5 ky0, .slice ky1 kz0 kz1, .slice pi ln cap] 49 (0, 0)) wr) := hfs
        clear hfs
        by_cases hkn : k = ln
        · subst hkn
          have q2 : ¬ (k : Int) < (k : Int) := by omega
          obtain ⟨v1, v2⟩ := HVV.out
          go_wp2
          clear v1 v2
          go_roundw
          case rel => first | exact ⟨j1, L3, a3, ca3, rfl, rfl, by have := HJ.out; omega, HFW.out.less fun _ _ q => q.elim⟩ | ((repeat apply Exists.intro); exact ⟨⟨j1, L3, a3, ca3, rfl, rfl, by have := HJ.out; omega, HFW.out.less fun _ _ q => q.elim⟩, rfl⟩)
          case measure =>
            simp only [intOf]
            have := HJ.out
            omega
        · have q2 : (k : Int) < (ln : Int) := by omega
          have q3 : (0 : Int) ≤ (k : Int) := by omega
          obtain ⟨y, hy⟩ : ∃ y, p.2[k]? = some y := ⟨_, List.getElem?_eq_getElem (by have := HP.out.1; omega)⟩
          obtain ⟨gi, oi, rfl, hgi, hci⟩ := HP.out.2.2.1 (by have := HP.out.1; omega)
          have ci := (HFW.out.below.cell (p := ⟨gi, oi + k, none⟩) hgi).trans (hci k y hy)
          obtain ⟨k1, hk1⟩ : ∃ k1, k1 = k + 1 := ⟨_, rfl⟩
          have HUU : Hid (IntKind.i64.wrap ((k : Int) + 1) = (k1 : Int) ∧ wrap64 ((k : Int) + 1) = (k1 : Int)) := wr63 (by omega) (by have := HP.out.2.1; omega)
          have HK1 : Hid (k1 = k + 1 ∧ k < ln) := ⟨hk1, by omega⟩
          obtain ⟨r, hr⟩ : ∃ r, r = k % 2 := ⟨_, rfl⟩
          obtain ⟨r1, r2⟩ := evens hr
          have hbx := HFW.out.box X _ ⟨rfl, rfl⟩
          have y0 := cells_at hbx 0 _ rfl
          have y1 := cells_at hbx 1 _ rfl
          have y2 := cells_at hbx 2 _ rfl
          have y3 := cells_at hbx 3 _ rfl
          have y4 := cells_at hbx 4 _ rfl
          have y5 := cells_at hbx 5 _ rfl
          obtain ⟨u1, u2⟩ := HUU.out
          have hr2 : r = 0 ∨ r = 1 := by clear u1 u2 r1 r2; omega
          clear hbx hy hgi hci hk1 hk hkn hr
          rcases hr2 with rfl | rfl
          · go_wp2_with fail
            refine (HCALL.out.pp y _ _ _ HFW.out).mono ?_
            rintro ex w5 ⟨rfl, hf5⟩
            have HF5 := hidden hf5
            clear hf5 y0 y1 y2 y3 y4 y5 HFW ci
            have hbx := HF5.out.box X _ ⟨rfl, rfl⟩
            have y0 := cells_at hbx 0 _ rfl
            have y1 := cells_at hbx 1 _ rfl
            have y2 := cells_at hbx 2 _ rfl
            have y3 := cells_at hbx 3 _ rfl
            have y4 := cells_at hbx 4 _ rfl
            have y5 := cells_at hbx 5 _ rfl
            clear hbx
            go_wp2_with fail
            refine (HCALL.out.pr y _ _ _ _ _ rfl HF5.out).mono ?_
            rintro ex w6 ⟨a6, n6, c6, rfl, hn6, hf6⟩
            subst hn6
            have HF6 := hidden hf6
            clear hf6 y0 y1 y2 y3 y4 y5 HF5
            go_wp2
            clear u1 u2
            go_roundw
            case rel => first | exact ⟨k1, _, a6, c6, rfl, rfl, by have := HK1.out; omega, HF6.out⟩ | ((repeat apply Exists.intro); exact ⟨⟨k1, _, a6, c6, rfl, rfl, by have := HK1.out; omega, HF6.out⟩, rfl⟩)
            case measure =>
              simp only [intOf]
              have := HK1.out
              omega
          · go_wp2_with fail
            refine (HCALL.out.dp y _ _ _ HFW.out).mono ?_
            rintro ex w5 ⟨rfl, hf5⟩
            have HF5 := hidden hf5
            clear hf5 y0 y1 y2 y3 y4 y5 HFW ci
            have hbx := HF5.out.box X _ ⟨rfl, rfl⟩
            have y0 := cells_at hbx 0 _ rfl
            have y1 := cells_at hbx 1 _ rfl
            have y2 := cells_at hbx 2 _ rfl
            have y3 := cells_at hbx 3 _ rfl
            have y4 := cells_at hbx 4 _ rfl
            have y5 := cells_at hbx 5 _ rfl
            clear hbx
            go_wp2_with fail
            refine (HCALL.out.dr y _ _ _ _ _ rfl HF5.out).mono ?_
            rintro ex w6 ⟨a6, n6, c6, rfl, hn6, hf6⟩
            subst hn6
            have HF6 := hidden hf6
            clear hf6 y0 y1 y2 y3 y4 y5 HF5
            go_wp2
            clear u1 u2
            go_roundw
            case rel => first | exact ⟨k1, _, a6, c6, rfl, rfl, by have := HK1.out; omega, HF6.out⟩ | ((repeat apply Exists.intro); exact ⟨⟨k1, _, a6, c6, rfl, rfl, by have := HK1.out; omega, HF6.out⟩, rfl⟩)
            case measure =>
              simp only [intOf]
              have := HK1.out
              omega
end Go.Proofs.YtkigenldiinioaaGreatDoor
