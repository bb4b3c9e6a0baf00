/- DiskFuse, walked. -/
import Derived.Test.YtbdjmedhoaillaaLives
namespace Go.Proofs.Ytbdjmedhoaillaa
open Go.RowKit
/-- the disk behind so many changes -/
def fuseD (n j : Nat) : Dk := if j ≤ n then ⟨⟨#[]⟩, 0, 1000, false, (n : Int) - j⟩ else ⟨⟨#[]⟩, 0, 1000, true, 0⟩
/-- what the next change comes to -/
def fuseE (n j : Nat) : Int := if j < n then 0 else 12
theorem fuse_next (n j : Nat) : runM (fuseD n j) 2 ⟨#[]⟩ 0 = (fuseD n (j + 1), fuseE n j) := by
  by_cases h1 : j < n
  · have h2 : ¬ ((n : Int) - j = 0) := by omega
    have h3 : (0 : Int) < (n : Int) - j := by omega
    simp only [fuseD, fuseE, if_pos h1, if_pos (Nat.le_of_lt h1), if_pos (Nat.succ_le_of_lt h1)]
    simp [runM, fuse, h2]
    exact ⟨rfl, by omega⟩
  · by_cases h2 : j = n
    · subst h2
      simp [fuseD, fuseE, runM]
    · have h3 : ¬ j ≤ n := by omega
      have h4 : ¬ j + 1 ≤ n := by omega
      simp [fuseD, fuseE, runM, h1, h3, h4]
theorem fuse_parts (n j : Nat) : (fuseD n j).s = ⟨#[]⟩ ∧ (fuseD n j).y = 0 ∧ (fuseD n j).c = 1000 ∧ 0 ≤ (fuseD n j).f ∧ (fuseD n j).f ≤ n ∧ (n < j → (fuseD n j).dn = true) := by
  unfold fuseD
  split
  · exact ⟨rfl, rfl, rfl, by simp; omega, by simp; omega, fun h => by omega⟩
  · exact ⟨rfl, rfl, rfl, by simp, by simp, fun _ => rfl⟩
/-- a disk's variable in a block of its own -/
structure FU (w W : World) (D : Nat) (s : ByteArray) (y c : Int) (dn : Bool) (f : Int) : Prop where
  below : Below w.heap.size w W
  box : Box W D #[.string s, .int .i64 y, .int .i64 c, .bool dn, .int .i64 f] 24
  low : w.heap.size ≤ D
theorem FU.call {w W W' : World} {D : Nat} {s : ByteArray} {y c f : Int} {dn : Bool} (h : FU w W D s y c dn f) (hb : Below W.heap.size W W') : FU w W' D s y c dn f :=
  ⟨h.below.trans (hb.mono h.below.size), h.box.call hb, h.low⟩
theorem FU.other {w W : World} {D : Nat} {s : ByteArray} {y c f : Int} {dn : Bool} (h : FU w W D s y c dn f) {X : Nat} (hX : D ≠ X) (hl : w.heap.size ≤ X) (v0 v1 v2 v3 v4 : Value) :
    FU w (((((W.setCell ⟨X, 0, none⟩ v0).setCell ⟨X, 1, none⟩ v1).setCell ⟨X, 2, none⟩ v2).setCell ⟨X, 3, none⟩ v3).setCell ⟨X, 4, none⟩ v4) D s y c dn f :=
  ⟨((((h.below.setCell hl _).setCell hl _).setCell hl _).setCell hl _).setCell hl _, ((((h.box.other _ hX).other _ hX).other _ hX).other _ hX).other _ hX, h.low⟩
theorem FU.put {w W : World} {D : Nat} {s : ByteArray} {y c f : Int} {dn : Bool} (h : FU w W D s y c dn f) (s' : ByteArray) (y' c' : Int) (dn' : Bool) (f' : Int) :
    FU w (((((W.setCell ⟨D, 0, none⟩ (.string s')).setCell ⟨D, 1, none⟩ (.int .i64 y')).setCell ⟨D, 2, none⟩ (.int .i64 c')).setCell ⟨D, 3, none⟩ (.bool dn')).setCell ⟨D, 4, none⟩ (.int .i64 f')) D s' y' c' dn' f' :=
  have F := fin5 h.box h.below h.low (.string s') (.int .i64 y') (.int .i64 c') (.bool dn') (.int .i64 f')
  ⟨F.2, F.1, h.low⟩
theorem do9_to (s t : ByteArray) (y c f z k : Int) (dn : Bool) (w : World) (h : okB s y c = true) (hf1 : -9223372036854775808 ≤ f) (hf2 : f ≤ 9223372036854775807) (h0 : 0 ≤ k) (h1 : k < 256) (s' : ByteArray) (y' c' : Int) (dn' : Bool) (f' n : Int) (hr : runM ⟨s, y, c, dn, f⟩ k t z = (⟨s', y', c', dn', f'⟩, n)) :
    Calls Try.prog 9 #[.agg #[.string s, .int .i64 y, .int .i64 c, .bool dn, .int .i64 f], .agg #[.int .u8 k, .string t, .int .i64 z]] w fun e w' => e = .returned (.tuple #[.agg #[.string s', .int .i64 y', .int .i64 c', .bool dn', .int .i64 f'], .int .i64 n]) ∧ Below w.heap.size w w' := by
  refine (do9_yes s t y c f z k dn w h hf1 hf2 h0 h1).mono ?_
  rintro e w' ⟨d, m, rfl, hm, hb⟩
  rw [hr] at hm
  cases hm
  exact ⟨rfl, hb⟩
theorem f1 : (⟨#[]⟩ : ByteArray).extract 0 (keptM ⟨#[]⟩ 0 0).toNat = ⟨#[]⟩ := by rfl
theorem f2 : keptM ⟨#[]⟩ 0 0 = 0 := by rfl
theorem f3 : runM ⟨⟨#[]⟩, 0, 1000, false, -1⟩ 1 ⟨#[120]⟩ 0 = (⟨⟨#[120]⟩, 0, 1000, false, -1⟩, 0) := by rfl
set_option maxHeartbeats 8000000 in
set_option maxRecDepth 100000 in
theorem fuse3 (n : Nat) (hn : n ≤ 255) (many : Int) (w : World) :
    Calls Try.prog 3 #[.int .u8 (n : Int), .int .i64 many] w fun e w' => e = .returned (.bool true) ∧ Below w.heap.size w w' := by
  go_enter Try.func3, Try.ntmps3
  go_wp2_with fail
  refine (lives8 _).mono ?_
  rintro e w1 ⟨rfl, hb1⟩
  have U1 : Hid (FU w (w1.alloc (.cells #[.string ⟨#[]⟩, .int .i64 0, .int .i64 1000, .bool false, .int .i64 (n : Int)] 24)) w1.heap.size ⟨#[]⟩ 0 1000 false (n : Int)) :=
    ⟨hb1.alloc hb1.size _, Box.new w1 _ _, hb1.size⟩
  clear hb1
  go_wp2_with fail
  obtain ⟨D, hD⟩ : ∃ D, D = w1.heap.size := ⟨_, rfl⟩
  obtain ⟨w2, hw2⟩ : ∃ W, W = w1.alloc (.cells #[.string ⟨#[]⟩, .int .i64 0, .int .i64 1000, .bool false, .int .i64 (n : Int)] 24) := ⟨_, rfl⟩
  rw [← hw2, ← hD] at U1 ⊢
  clear hw2 hD
  go_loopw [6] (fun i wr => ∃ (j : Nat) (dn : Bool) (f : Int), j ≤ 300 ∧ i = .int .i64 j ∧ fuseD n j = ⟨⟨#[]⟩, 0, 1000, dn, f⟩ ∧ FU w wr D ⟨#[]⟩ 0 1000 dn f) (fun i _ => 300 - (intOf i).toNat)
  case atStart => exact ⟨0, false, n, by omega, rfl, by simp [fuseD], U1.out⟩
  case round =>
    obtain ⟨j, dn, f, hj, rfl, hfd, hU⟩ := hrel
    have UR : Hid (FU w wr D ⟨#[]⟩ 0 1000 dn f) := hU
    have HFD : Hid (fuseD n j = ⟨⟨#[]⟩, 0, 1000, dn, f⟩) := hfd
    have hf1 : 0 ≤ f ∧ f ≤ n := by have := fuse_parts n j; rw [hfd] at this; exact ⟨this.2.2.2.1, this.2.2.2.2.1⟩
    clear hfd hU U1
    by_cases hlt : (j : Int) < many ∧ (j : Int) < 300
    · obtain ⟨hl1, hl2⟩ := hlt
      obtain ⟨dn', f', hfd'⟩ : ∃ dn' f', fuseD n (j + 1) = ⟨⟨#[]⟩, 0, 1000, dn', f'⟩ := by
        have h := fuse_parts n (j + 1)
        generalize fuseD n (j + 1) = q at h ⊢
        obtain ⟨a, b, c, d, e⟩ := q
        obtain ⟨h1, h2, h3, _⟩ := h
        dsimp only at h1 h2 h3
        subst h1 h2 h3
        exact ⟨d, e, rfl⟩
      have HFD' : Hid _ := hfd'
      have hrun : runM ⟨⟨#[]⟩, 0, 1000, dn, f⟩ 2 ⟨#[]⟩ 0 = (⟨⟨#[]⟩, 0, 1000, dn', f'⟩, fuseE n j) := by rw [← HFD.out, ← hfd']; exact fuse_next n j
      have HRUN : Hid _ := hrun
      obtain ⟨er, her⟩ : ∃ e, e = fuseE n j := ⟨_, rfl⟩
      rw [← her] at HRUN
      have HER : Hid _ := her
      have HDN : Hid (n < j + 1 → dn' = true) := fun h => by have := (fuse_parts n (j + 1)).2.2.2.2.2 h; rw [HFD'.out] at this; exact this
      clear hrun hfd' her
      obtain ⟨p0, p1, p2, p3, p4⟩ := UR.out.box.five
      have lt1 := UR.out.box.1
      go_wp2_with fail
      go_cut [7, 8] from 27 to 32 (fun s7 s8 wx => ∃ X, s7 = .pointer (some ⟨X, 0, none⟩) ∧ s8 = .int .i64 er ∧ Box wx X #[.string ⟨#[]⟩, .int .i64 0, .int .i64 1000, .bool dn', .int .i64 f'] 24 ∧ FU w wx D ⟨#[]⟩ 0 1000 dn f ∧ D ≠ X)
      case first =>
        go_region_with (first
          | (go_at_call 10; refine (sync10 _).mono ?_; rintro e wa ⟨rfl, hba⟩
             have LA : Hid (FU w wa D ⟨#[]⟩ 0 1000 dn f) := UR.out.call (by first | exact (Below.refl _ wr).drew.trans hba | exact ((Below.refl _ wr).drew.alloc (by simp) _).trans (hba.mono (by simp)))
             obtain ⟨t0, t1, t2, t3, t4⟩ := LA.out.box.five
             have lta := LA.out.box.1
             first
               | (have hbx : Box wa wr.heap.size #[.string ⟨#[]⟩, .int .i64 0, .int .i64 0, .bool false, .int .i64 0] 24 := Box.call (w := (wr.alloc (.cells #[.string ⟨#[]⟩, .int .i64 0, .int .i64 0, .bool false, .int .i64 0] 24)).drew) (Box.new wr _ _) hba
                  obtain ⟨x0, x1, x2, x3, x4⟩ := hbx.five
                  have fx := hbx.free
                  have lx := hbx.1
                  have HBX : Hid (Box wa wr.heap.size #[.string ⟨#[]⟩, .int .i64 0, .int .i64 0, .bool false, .int .i64 0] 24) := hbx
                  clear hbx)
               | skip
             clear hba)
          | (go_at_call 9; refine (do9_to ⟨#[]⟩ ⟨#[]⟩ 0 1000 f 0 2 dn _ (by decide) (by omega) (by omega) (by omega) (by omega) ⟨#[]⟩ 0 1000 dn' f' er HRUN.out).mono ?_; rintro e wb ⟨rfl, hbb⟩
             have LB : Hid (FU w wb D ⟨#[]⟩ 0 1000 dn f) := LA.out.call (by first | exact hbb | exact ((Below.refl _ wa).alloc (Nat.le_refl _) _).trans (hbb.mono (by simp)))
             first
               | (have hby : Box wb wr.heap.size #[.string ⟨#[]⟩, .int .i64 0, .int .i64 0, .bool false, .int .i64 0] 24 := Box.call HBX.out hbb
                  have HNE : Hid (D ≠ wr.heap.size ∧ w.heap.size ≤ wr.heap.size) := ⟨Nat.ne_of_lt UR.out.box.1, UR.out.below.size⟩
                  clear x0 x1 x2 x3 x4 fx lx HBX
                  obtain ⟨x0, x1, x2, x3, x4⟩ := hby.five
                  have fx := hby.free
                  have lx := hby.1
                  have HBY : Hid (Box wb wr.heap.size #[.string ⟨#[]⟩, .int .i64 0, .int .i64 0, .bool false, .int .i64 0] 24) := hby
                  clear hby)
               | (have hby : Box wb wa.heap.size #[.string ⟨#[]⟩, .int .i64 0, .int .i64 0, .bool false, .int .i64 0] 24 := Box.call (Box.new wa _ _) hbb
                  have HNE : Hid (D ≠ wa.heap.size ∧ w.heap.size ≤ wa.heap.size) := ⟨Nat.ne_of_lt LA.out.box.1, LA.out.below.size⟩
                  obtain ⟨x0, x1, x2, x3, x4⟩ := hby.five
                  have fx := hby.free
                  have lx := hby.1
                  have HBY : Hid (Box wb wa.heap.size #[.string ⟨#[]⟩, .int .i64 0, .int .i64 0, .bool false, .int .i64 0] 24) := hby
                  clear hby)
               | skip
             clear hbb))
        all_goals
          go_wp2_with fail
          go_meet
          first
            | exact ⟨_, rfl, rfl, (fin5 HBY.out LB.out.below HNE.out.2 _ _ _ _ _).1, LB.out.other HNE.out.1 HNE.out.2 _ _ _ _ _, HNE.out.1⟩
            | exact ⟨_, rfl, rfl, Box.new wb _ _, LB.out.call (below_new _ _), Nat.ne_of_lt LB.out.box.1⟩
      case rest =>
        obtain ⟨X, rfl, rfl, hX, hU, hne⟩ := hcut
        have UX : Hid (FU w wc D ⟨#[]⟩ 0 1000 dn f) := hU
        have EX : Hid (Box wc X #[.string ⟨#[]⟩, .int .i64 0, .int .i64 1000, .bool dn', .int .i64 f'] 24) := hX
        clear hX hU p0 p1 p2 p3 p4 lt1 UR HRUN
        obtain ⟨p0, p1, p2, p3, p4⟩ := UX.out.box.five
        obtain ⟨q0, q1, q2, q3, q4⟩ := Box.five EX.out
        have fp := UX.out.box.free
        have UN : Hid _ := UX.out.put ⟨#[]⟩ 0 1000 dn' f'
        by_cases hjn : j < n
        · have he : er = 0 := by rw [HER.out, fuseE, if_pos hjn]
          have hjn' : (j : Int) < (n : Int) := by omega
          subst he
          clear HER hjn
          go_wp2
          go_roundw
          case rel => exact ⟨j + 1, dn', f', by omega, by go_num, HFD'.out, UN.out⟩
          case measure => simp [intOf]; omega
        · have he : er = 12 := by rw [HER.out, fuseE, if_neg hjn]
          have hjn' : ¬ (j : Int) < (n : Int) := by omega
          have hd : dn' = true := HDN.out (by omega)
          subst he hd
          clear HER hjn HDN
          go_wp2
          go_roundw
          case rel => exact ⟨j + 1, true, f', by omega, by go_num, HFD'.out, UN.out⟩
          case measure => simp [intOf]; omega
    · obtain ⟨p0, p1, p2, p3, p4⟩ := UR.out.box.five
      have lt1 := UR.out.box.1
      have hx : many ≤ j ∨ 300 ≤ (j : Int) := by omega
      clear hlt HFD
      by_cases hm : (j : Int) < many
      case' pos => have h3 : 300 ≤ (j : Int) := by omega
      all_goals
        clear hx
        go_wp2_with fail
        refine (crash11_yes ⟨#[]⟩ 0 1000 f 0 dn _ (by decide)).mono ?_
        rintro e w3 ⟨s3, n3, rfl, hs3, hn3, hb3⟩
        rw [f1] at hs3
        rw [f2] at hn3
        subst hs3 hn3
        have V3 : Hid (FU w (w3.alloc (.cells #[.string ⟨#[]⟩, .int .i64 0, .int .i64 1000, .bool false, .int .i64 (-1)] 24)) w3.heap.size ⟨#[]⟩ 0 1000 false (-1)) :=
          have B3 := UR.out.below.trans (hb3.mono UR.out.below.size)
          ⟨B3.alloc B3.size _, Box.new w3 _ _, B3.size⟩
        clear hb3 p0 p1 p2 p3 p4 lt1 UR
        go_wp2_with fail
        obtain ⟨D2, hD2⟩ : ∃ D, D = w3.heap.size := ⟨_, rfl⟩
        obtain ⟨w4, hw4⟩ : ∃ W, W = w3.alloc (.cells #[.string ⟨#[]⟩, .int .i64 0, .int .i64 1000, .bool false, .int .i64 (-1)] 24) := ⟨_, rfl⟩
        rw [← hw4, ← hD2] at V3 ⊢
        clear hw4 hD2
        obtain ⟨p0, p1, p2, p3, p4⟩ := V3.out.box.five
        have lt1 := V3.out.box.1
        go_cut [11, 12] from 59 to 64 (fun s7 s8 wx => ∃ X, s7 = .pointer (some ⟨X, 0, none⟩) ∧ s8 = .int .i64 0 ∧ Box wx X #[.string ⟨#[120]⟩, .int .i64 0, .int .i64 1000, .bool false, .int .i64 (-1)] 24 ∧ FU w wx D2 ⟨#[]⟩ 0 1000 false (-1) ∧ D2 ≠ X)
        case first =>
          go_region_with (first
            | (go_at_call 12; refine (write12 ⟨#[120]⟩ _).mono ?_; rintro e wa ⟨rfl, hba⟩
               have LA : Hid (FU w wa D2 ⟨#[]⟩ 0 1000 false (-1)) := V3.out.call (by first | exact (Below.refl _ w4).drew.trans hba | exact ((Below.refl _ w4).drew.alloc (by simp) _).trans (hba.mono (by simp)))
               obtain ⟨t0, t1, t2, t3, t4⟩ := LA.out.box.five
               have lta := LA.out.box.1
               first
                 | (have hbx : Box wa w4.heap.size #[.string ⟨#[]⟩, .int .i64 0, .int .i64 0, .bool false, .int .i64 0] 24 := Box.call (w := (w4.alloc (.cells #[.string ⟨#[]⟩, .int .i64 0, .int .i64 0, .bool false, .int .i64 0] 24)).drew) (Box.new w4 _ _) hba
                    obtain ⟨x0, x1, x2, x3, x4⟩ := hbx.five
                    have fx := hbx.free
                    have lx := hbx.1
                    have HBX : Hid (Box wa w4.heap.size #[.string ⟨#[]⟩, .int .i64 0, .int .i64 0, .bool false, .int .i64 0] 24) := hbx
                    clear hbx)
                 | skip
               clear hba)
            | (go_at_call 9; refine (do9_to ⟨#[]⟩ ⟨#[120]⟩ 0 1000 (-1) 0 1 false _ (by decide) (by omega) (by omega) (by omega) (by omega) ⟨#[120]⟩ 0 1000 false (-1) 0 f3).mono ?_; rintro e wb ⟨rfl, hbb⟩
               have LB : Hid (FU w wb D2 ⟨#[]⟩ 0 1000 false (-1)) := LA.out.call (by first | exact hbb | exact ((Below.refl _ wa).alloc (Nat.le_refl _) _).trans (hbb.mono (by simp)))
               first
                 | (have hby : Box wb w4.heap.size #[.string ⟨#[]⟩, .int .i64 0, .int .i64 0, .bool false, .int .i64 0] 24 := Box.call HBX.out hbb
                    have HNE : Hid (D2 ≠ w4.heap.size ∧ w.heap.size ≤ w4.heap.size) := ⟨Nat.ne_of_lt V3.out.box.1, V3.out.below.size⟩
                    clear x0 x1 x2 x3 x4 fx lx HBX
                    obtain ⟨x0, x1, x2, x3, x4⟩ := hby.five
                    have fx := hby.free
                    have lx := hby.1
                    have HBY : Hid (Box wb w4.heap.size #[.string ⟨#[]⟩, .int .i64 0, .int .i64 0, .bool false, .int .i64 0] 24) := hby
                    clear hby)
                 | (have hby : Box wb wa.heap.size #[.string ⟨#[]⟩, .int .i64 0, .int .i64 0, .bool false, .int .i64 0] 24 := Box.call (Box.new wa _ _) hbb
                    have HNE : Hid (D2 ≠ wa.heap.size ∧ w.heap.size ≤ wa.heap.size) := ⟨Nat.ne_of_lt LA.out.box.1, LA.out.below.size⟩
                    obtain ⟨x0, x1, x2, x3, x4⟩ := hby.five
                    have fx := hby.free
                    have lx := hby.1
                    have HBY : Hid (Box wb wa.heap.size #[.string ⟨#[]⟩, .int .i64 0, .int .i64 0, .bool false, .int .i64 0] 24) := hby
                    clear hby)
                 | skip
               clear hbb))
          all_goals
            go_wp2_with fail
            go_meet
            first
              | exact ⟨_, rfl, rfl, (fin5 HBY.out LB.out.below HNE.out.2 _ _ _ _ _).1, LB.out.other HNE.out.1 HNE.out.2 _ _ _ _ _, HNE.out.1⟩
              | exact ⟨_, rfl, rfl, Box.new wb _ _, LB.out.call (below_new _ _), Nat.ne_of_lt LB.out.box.1⟩
        case rest =>
          obtain ⟨X, rfl, rfl, hX, hU, hne⟩ := hcut
          have UX : Hid (Below w.heap.size w wc) := hU.below
          obtain ⟨q0, q1, q2, q3, q4⟩ := hX.five
          clear hX hU p0 p1 p2 p3 p4 lt1
          go_wp2
          go_ret
          exact ⟨rfl, UX.out⟩
end Go.Proofs.Ytbdjmedhoaillaa
