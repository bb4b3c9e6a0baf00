/- lives, walked. -/
import Derived.Test.YtbdjmedhoaillaaCrash
import Derived.LoopN
namespace Go.Proofs.Ytbdjmedhoaillaa
open Go.RowKit
theorem info30 : (Try.prog.info? 30).map (·.size) = some 3 := by kernel_rfl
theorem results_box3 {fn : Func} {p : Tmp} (h : fn.results = #[.cell p 30]) (tmps : Array Value) (W : World) (g : Nat) (v0 v1 v2 : Value)
    (hp : tmps.getD p undef = .pointer (some ⟨g, 0, none⟩)) (hg : Box W g #[v0, v1, v2] 30) : (results fn tmps).run Try.prog W = .ok (.agg #[v0, v1, v2]) W := by
  have hp' : tmps[p]?.getD undef = .pointer (some ⟨g, 0, none⟩) := by simpa using hp
  simp [results, h, hp', asAddr, run_loadVar_row W g 30 30 _ (0, 0) _ hg.2 Try.underlying30 rfl info30]
theorem write12 (t : ByteArray) (w : World) : Calls Try.prog 12 #[.string t] w fun e w' => e = .returned (.agg #[.int .u8 1, .string t, .int .i64 0]) ∧ Below w.heap.size w w' := by
  go_enter Try.func12, Try.ntmps12
  go_wp2
  exact bodyPost_ret (v := .agg #[.int .u8 1, .string t, .int .i64 0]) (results_box3 (fn := Try.f12) (p := 2) rfl _ _ w.heap.size _ _ _ rfl (Box.new w _ _)) rfl ⟨rfl, below_new _ _⟩
theorem sync10 (w : World) : Calls Try.prog 10 #[] w fun e w' => e = .returned (.agg #[.int .u8 2, .string ⟨#[]⟩, .int .i64 0]) ∧ Below w.heap.size w w' := by
  go_enter Try.func10, Try.ntmps10
  go_wp2
  exact bodyPost_ret (v := .agg #[.int .u8 2, .string ⟨#[]⟩, .int .i64 0]) (results_box3 (fn := Try.f10) (p := 0) rfl _ _ w.heap.size _ _ _ rfl (Box.new w _ _)) rfl ⟨rfl, below_new _ _⟩
theorem l1 : runM ⟨⟨#[]⟩, 0, 10, false, -1⟩ 1 ⟨#[120, 121]⟩ 0 = (⟨⟨#[120, 121]⟩, 0, 10, false, -1⟩, 0) := by rfl
theorem l2 : runM ⟨⟨#[120, 121]⟩, 0, 10, false, -1⟩ 2 ⟨#[]⟩ 0 = (⟨⟨#[120, 121]⟩, 2, 10, false, -1⟩, 0) := by rfl
theorem l3 : runM ⟨⟨#[120, 121]⟩, 2, 10, false, -1⟩ 1 ⟨#[122]⟩ 0 = (⟨⟨#[120, 121, 122]⟩, 2, 10, false, -1⟩, 0) := by rfl
theorem l4 : (⟨#[120, 121, 122]⟩ : ByteArray).extract 0 (keptM ⟨#[120, 121, 122]⟩ 2 0).toNat = ⟨#[120, 121]⟩ := by rfl
theorem l4' : keptM ⟨#[120, 121, 122]⟩ 2 0 = 2 := by rfl
theorem l5 : runM ⟨⟨#[120, 121, 122]⟩, 2, 10, false, -1⟩ 1 ⟨#[49, 50, 51, 52, 53, 54, 55, 56]⟩ 0 = (⟨⟨#[120, 121, 122]⟩, 2, 10, false, -1⟩, 8) := by rfl
/-- lives' own variables: the disk, the steps -/
structure LV (w W : World) (G : Nat) (s : ByteArray) (y : Int) : Prop where
  below : Below w.heap.size w W
  box : Box W w.heap.size #[.string s, .int .i64 y, .int .i64 10, .bool false, .int .i64 (-1)] 24
  row : Box W G #[.int .u8 1, .string ⟨#[120, 121]⟩, .int .i64 0, .int .u8 2, .string ⟨#[]⟩, .int .i64 0, .int .u8 1, .string ⟨#[122]⟩, .int .i64 0] 30
  apart : G ≠ w.heap.size
theorem LV.call {w W W' : World} {G : Nat} {s : ByteArray} {y : Int} (h : LV w W G s y) (hb : Below W.heap.size W W') : LV w W' G s y :=
  ⟨h.below.trans (hb.mono h.below.size), h.box.call hb, h.row.call hb, h.apart⟩
theorem Box.other {W : World} {b g i : Nat} {C : Array Value} {t : TypeId} (h : Box W g C t) (v : Value) (hg : g ≠ b) : Box (W.setCell ⟨b, i, none⟩ v) g C t :=
  ⟨by simp; exact h.1, (heap_setCell_other _ _ _ _ hg).trans h.2⟩
theorem LV.put {w W : World} {G : Nat} {s : ByteArray} {y : Int} (h : LV w W G s y) (s' : ByteArray) (y' : Int) :
    LV w (((((W.setCell ⟨w.heap.size, 0, none⟩ (.string s')).setCell ⟨w.heap.size, 1, none⟩ (.int .i64 y')).setCell ⟨w.heap.size, 2, none⟩ (.int .i64 10)).setCell ⟨w.heap.size, 3, none⟩ (.bool false)).setCell ⟨w.heap.size, 4, none⟩ (.int .i64 (-1))) G s' y' :=
  have F := fin5 h.box h.below (Nat.le_refl _) (.string s') (.int .i64 y') (.int .i64 10) (.bool false) (.int .i64 (-1))
  ⟨F.2, F.1, ((((h.row.other _ h.apart).other _ h.apart).other _ h.apart).other _ h.apart).other _ h.apart, h.apart⟩
theorem do9' (s t : ByteArray) (y z k : Int) (w : World) (h : okB s y 10 = true) (h0 : 0 ≤ k) (h1 : k < 256) (d' : Dk) (n : Int) (hr : runM ⟨s, y, 10, false, -1⟩ k t z = (d', n)) :
    Calls Try.prog 9 #[.agg #[.string s, .int .i64 y, .int .i64 10, .bool false, .int .i64 (-1)], .agg #[.int .u8 k, .string t, .int .i64 z]] w fun e w' => e = .returned (.tuple #[.agg #[.string d'.s, .int .i64 d'.y, .int .i64 d'.c, .bool d'.dn, .int .i64 d'.f], .int .i64 n]) ∧ Below w.heap.size w w' := by
  refine (do9_yes s t y 10 (-1) z k false w h (by omega) (by omega) h0 h1).mono ?_
  rintro e w' ⟨d, m, rfl, hm, hb⟩
  rw [hr] at hm
  cases hm
  exact ⟨rfl, hb⟩
set_option maxHeartbeats 4000000 in
set_option maxRecDepth 100000 in
theorem lives8 (w : World) : Calls Try.prog 8 #[] w fun e w' => e = .returned (.bool true) ∧ Below w.heap.size w w' := by
  go_enter Try.func8, Try.ntmps8
  go_wp2_with fail
  refine (write12 ⟨#[120, 121]⟩ _).mono ?_
  rintro e w1 ⟨rfl, hb1⟩
  go_wp2_with fail
  refine (sync10 _).mono ?_
  rintro e w2 ⟨rfl, hb2⟩
  go_wp2_with fail
  refine (write12 ⟨#[122]⟩ _).mono ?_
  rintro e w3 ⟨rfl, hb3⟩
  have L4 : Hid (LV w (w3.alloc (.cells #[.int .u8 1, .string ⟨#[120, 121]⟩, .int .i64 0, .int .u8 2, .string ⟨#[]⟩, .int .i64 0, .int .u8 1, .string ⟨#[122]⟩, .int .i64 0] 30)) w3.heap.size ⟨#[]⟩ 0) := by
    have h0 : Box (w.alloc (.cells #[.string ⟨#[]⟩, .int .i64 0, .int .i64 10, .bool false, .int .i64 (-1)] 24)) w.heap.size #[.string ⟨#[]⟩, .int .i64 0, .int .i64 10, .bool false, .int .i64 (-1)] 24 := Box.new w _ _
    have h3 := ((h0.call hb1).call hb2).call hb3
    have b1 := (below_new w _).trans (hb1.mono (by simp))
    have b2 := b1.trans (hb2.mono b1.size)
    have b3 := b2.trans (hb3.mono b2.size)
    exact ⟨b3.alloc b3.size _, h3.past _, Box.new w3 _ _, by have := h3.1; omega⟩
  clear hb1 hb2 hb3
  go_wp2_with fail
  obtain ⟨G, hG⟩ : ∃ G, G = w3.heap.size := ⟨_, rfl⟩
  obtain ⟨w4, hw4⟩ : ∃ w4, w4 = w3.alloc (.cells #[.int .u8 1, .string ⟨#[120, 121]⟩, .int .i64 0, .int .u8 2, .string ⟨#[]⟩, .int .i64 0, .int .u8 1, .string ⟨#[122]⟩, .int .i64 0] 30) := ⟨_, rfl⟩
  rw [← hw4, ← hG] at L4 ⊢
  clear hw4 hG
  refine wp_loop_rounds 4 ?_
  rw [rounds_succ]
  have c := L4.out.row.cell
  have r0 := c 0 _ rfl
  have r1 := c 1 _ rfl
  have r2 := c 2 _ rfl
  have lt1 := L4.out.box.1
  obtain ⟨p0, p1, p2, p3, p4⟩ := L4.out.box.five
  clear c
  go_wp2_with fail
  refine (do9' ⟨#[]⟩ ⟨#[120, 121]⟩ 0 0 1 _ (by decide) (by decide) (by decide) ⟨⟨#[120, 121]⟩, 0, 10, false, -1⟩ 0 l1).mono ?_
  rintro e w5a ⟨rfl, hb⟩
  have L5a : Hid (LV w w5a G ⟨#[]⟩ 0) := (L4.out.call (below_new _ _)).call hb
  clear hb r0 r1 r2 lt1 p0 p1 p2 p3 p4
  have lt1 := L5a.out.box.1
  obtain ⟨p0, p1, p2, p3, p4⟩ := L5a.out.box.five
  have fp := L5a.out.box.free
  dsimp only
  go_wp2_with fail
  obtain ⟨w5, hw5⟩ : ∃ W, W = (((((w5a.setCell ⟨w.heap.size, 0, none⟩ (.string ⟨#[120, 121]⟩)).setCell ⟨w.heap.size, 1, none⟩ (.int .i64 0)).setCell ⟨w.heap.size, 2, none⟩ (.int .i64 10)).setCell ⟨w.heap.size, 3, none⟩ (.bool false)).setCell ⟨w.heap.size, 4, none⟩ (.int .i64 (-1))) := ⟨_, rfl⟩
  have L5 : Hid (LV w w5 G ⟨#[120, 121]⟩ 0) := by
    show LV _ _ _ _ _
    rw [hw5]; exact L5a.out.put ⟨#[120, 121]⟩ 0
  rw [← hw5]
  clear hw5 p0 p1 p2 p3 p4 fp lt1 L5a L4
  rw [rounds_succ]
  have c := L5.out.row.cell
  have r0 := c 3 _ rfl
  have r1 := c 4 _ rfl
  have r2 := c 5 _ rfl
  have lt1 := L5.out.box.1
  obtain ⟨p0, p1, p2, p3, p4⟩ := L5.out.box.five
  clear c
  go_wp2_with fail
  refine (do9' ⟨#[120, 121]⟩ ⟨#[]⟩ 0 0 2 _ (by decide) (by decide) (by decide) ⟨⟨#[120, 121]⟩, 2, 10, false, -1⟩ 0 l2).mono ?_
  rintro e w6a ⟨rfl, hb⟩
  have L6a : Hid (LV w w6a G ⟨#[120, 121]⟩ 0) := (L5.out.call (below_new _ _)).call hb
  clear hb r0 r1 r2 lt1 p0 p1 p2 p3 p4
  have lt1 := L6a.out.box.1
  obtain ⟨p0, p1, p2, p3, p4⟩ := L6a.out.box.five
  have fp := L6a.out.box.free
  dsimp only
  go_wp2_with fail
  obtain ⟨w6, hw6⟩ : ∃ W, W = (((((w6a.setCell ⟨w.heap.size, 0, none⟩ (.string ⟨#[120, 121]⟩)).setCell ⟨w.heap.size, 1, none⟩ (.int .i64 2)).setCell ⟨w.heap.size, 2, none⟩ (.int .i64 10)).setCell ⟨w.heap.size, 3, none⟩ (.bool false)).setCell ⟨w.heap.size, 4, none⟩ (.int .i64 (-1))) := ⟨_, rfl⟩
  have L6 : Hid (LV w w6 G ⟨#[120, 121]⟩ 2) := by
    show LV _ _ _ _ _
    rw [hw6]; exact L6a.out.put ⟨#[120, 121]⟩ 2
  rw [← hw6]
  clear hw6 p0 p1 p2 p3 p4 fp lt1 L6a L5
  rw [rounds_succ]
  have c := L6.out.row.cell
  have r0 := c 6 _ rfl
  have r1 := c 7 _ rfl
  have r2 := c 8 _ rfl
  have lt1 := L6.out.box.1
  obtain ⟨p0, p1, p2, p3, p4⟩ := L6.out.box.five
  clear c
  go_wp2_with fail
  refine (do9' ⟨#[120, 121]⟩ ⟨#[122]⟩ 2 0 1 _ (by decide) (by decide) (by decide) ⟨⟨#[120, 121, 122]⟩, 2, 10, false, -1⟩ 0 l3).mono ?_
  rintro e w7a ⟨rfl, hb⟩
  have L7a : Hid (LV w w7a G ⟨#[120, 121]⟩ 2) := (L6.out.call (below_new _ _)).call hb
  clear hb r0 r1 r2 lt1 p0 p1 p2 p3 p4
  have lt1 := L7a.out.box.1
  obtain ⟨p0, p1, p2, p3, p4⟩ := L7a.out.box.five
  have fp := L7a.out.box.free
  dsimp only
  go_wp2_with fail
  obtain ⟨w7, hw7⟩ : ∃ W, W = (((((w7a.setCell ⟨w.heap.size, 0, none⟩ (.string ⟨#[120, 121, 122]⟩)).setCell ⟨w.heap.size, 1, none⟩ (.int .i64 2)).setCell ⟨w.heap.size, 2, none⟩ (.int .i64 10)).setCell ⟨w.heap.size, 3, none⟩ (.bool false)).setCell ⟨w.heap.size, 4, none⟩ (.int .i64 (-1))) := ⟨_, rfl⟩
  have L7 : Hid (LV w w7 G ⟨#[120, 121, 122]⟩ 2) := by
    show LV _ _ _ _ _
    rw [hw7]; exact L7a.out.put ⟨#[120, 121, 122]⟩ 2
  rw [← hw7]
  clear hw7 p0 p1 p2 p3 p4 fp lt1 L7a L6
  rw [rounds_succ]
  obtain ⟨p0, p1, p2, p3, p4⟩ := L7.out.box.five
  go_wp2_with fail
  refine (crash11_yes ⟨#[120, 121, 122]⟩ 2 10 (-1) 0 false _ (by decide)).mono ?_
  rintro e w8 ⟨s8, n8, rfl, hs8, hn8, hb8⟩
  rw [l4] at hs8
  rw [l4'] at hn8
  subst hs8 hn8
  have L8 : Hid (LV w (w8.alloc (.cells #[.string ⟨#[120, 121]⟩, .int .i64 2, .int .i64 10, .bool false, .int .i64 (-1)] 24)) G ⟨#[120, 121, 122]⟩ 2) := (L7.out.call hb8).call (below_new _ _)
  clear hb8 p0 p1 p2 p3 p4 L7
  go_wp2_with fail
  refine (read14_yes ⟨#[120, 121]⟩ 2 10 (-1) _ (by decide)).mono ?_
  rintro e w9 ⟨rfl, hb9⟩
  have L9 : Hid (LV w w9 G ⟨#[120, 121, 122]⟩ 2) := L8.out.call hb9
  clear hb9 L8
  obtain ⟨p0, p1, p2, p3, p4⟩ := L9.out.box.five
  go_wp2_with fail
  have lt9 := L9.out.box.1
  go_cut [10, 11] from 42 to 47 (fun _ s11 wx => s11 = .int .i64 8 ∧ Below w.heap.size w wx)
  case first =>
    go_region_with (first
      | (go_at_call 12; refine (write12 _ _).mono ?_; rintro e wa ⟨rfl, hba⟩
         have LA : Hid (LV w wa G ⟨#[120, 121, 122]⟩ 2) := L9.out.call (by first | exact (Below.refl _ w9).drew.trans hba | exact ((Below.refl _ w9).drew.alloc (by simp) _).trans (hba.mono (by simp)))
         obtain ⟨t0, t1, t2, t3, t4⟩ := LA.out.box.five
         have lta := LA.out.box.1
         first
           | (have hbx : Box wa w9.heap.size #[.string ⟨#[]⟩, .int .i64 0, .int .i64 0, .bool false, .int .i64 0] 24 := Box.call (w := (w9.alloc (.cells #[.string ⟨#[]⟩, .int .i64 0, .int .i64 0, .bool false, .int .i64 0] 24)).drew) (Box.new w9 _ _) hba
              obtain ⟨x0, x1, x2, x3, x4⟩ := hbx.five
              have fx := hbx.free
              have lx := hbx.1
              have HBX : Hid _ := hbx
              clear hbx)
           | skip
         clear hba)
      | (go_at_call 9; refine (do9' ⟨#[120, 121, 122]⟩ ⟨#[49, 50, 51, 52, 53, 54, 55, 56]⟩ 2 0 1 _ (by decide) (by decide) (by decide) ⟨⟨#[120, 121, 122]⟩, 2, 10, false, -1⟩ 8 l5).mono ?_; rintro e wb ⟨rfl, hbb⟩
         have LB : Hid (LV w wb G ⟨#[120, 121, 122]⟩ 2) := LA.out.call (by first | exact hbb | exact ((Below.refl _ wa).alloc (Nat.le_refl _) _).trans (hbb.mono (by simp)))
         first
           | (have hby : Box wb w9.heap.size #[.string ⟨#[]⟩, .int .i64 0, .int .i64 0, .bool false, .int .i64 0] 24 := Box.call HBX.out hbb
              clear x0 x1 x2 x3 x4 fx lx HBX
              obtain ⟨x0, x1, x2, x3, x4⟩ := hby.five
              have fx := hby.free
              have lx := hby.1
              clear hby)
           | (have hby : Box wb wa.heap.size #[.string ⟨#[]⟩, .int .i64 0, .int .i64 0, .bool false, .int .i64 0] 24 := Box.call (Box.new wa _ _) hbb
              obtain ⟨x0, x1, x2, x3, x4⟩ := hby.five
              have fx := hby.free
              have lx := hby.1
              clear hby)
           | skip
         clear hbb))
    all_goals
      go_wp2_with fail
      go_meet
      refine ⟨rfl, ?_⟩
      first
        | exact LB.out.below.alloc LB.out.below.size _
        | (have h := Nat.le_of_lt lt9
           exact ((((LB.out.below.setCell h _).setCell h _).setCell h _).setCell h _).setCell h _)
        | (have h := Nat.le_of_lt lta
           exact ((((LB.out.below.setCell h _).setCell h _).setCell h _).setCell h _).setCell h _)
  case rest =>
    obtain ⟨rfl, hB⟩ := hcut
    have HB : Hid _ := hB
    clear hB L9 p0 p1 p2 p3 p4 lt9
    go_wp2_with fail
    refine (check13_no ⟨#[]⟩ 0 (-1) 0 false (by decide) _).mono ?_
    rintro e wz ⟨rfl, hbz⟩
    have HZ : Hid (Below w.heap.size w wz) := HB.out.trans (hbz.mono HB.out.size)
    clear hbz HB
    go_wp2
    exact ⟨rfl, _, results_tmp (by rfl) _ _ _, rfl, HZ.out⟩
end Go.Proofs.Ytbdjmedhoaillaa
