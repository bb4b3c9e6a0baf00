/- DiskDoes, walked: the program and the document, whatever the disk. -/
import Derived.Test.YtbdjmedhoaillaaRef4
import Derived.Test.YtbdjmedhoaillaaLives
namespace Go.Proofs.Ytbdjmedhoaillaa
open Go.RowKit
/-- a change of any disk -/
def doM (d : Dk) (k : Int) (t : ByteArray) (z : Int) : Dk × Int := if okB d.s d.y d.c then runM d k t z else (⟨⟨#[]⟩, 0, 0, false, 0⟩, 6)
/-- the bytes of any disk -/
def rdM (d : Dk) : ByteArray × Int := if okB d.s d.y d.c then (if d.dn then (⟨#[]⟩, 12) else (d.s, 0)) else (⟨#[]⟩, 6)
/-- any disk behind a crash -/
def crM (d : Dk) (keep : Int) : Dk × Int := if okB d.s d.y d.c then (crashM d keep, 0) else (⟨⟨#[]⟩, 0, 0, false, 0⟩, 6)
/-- what is wrong with a disk -/
def ckM (d : Dk) : Int := if okB d.s d.y d.c then 0 else 6
theorem do9_any (s t : ByteArray) (y c f z k : Int) (dn : Bool) (w : World) (hf1 : -9223372036854775808 ≤ f) (hf2 : f ≤ 9223372036854775807) (h0 : 0 ≤ k) (h1 : k < 256) :
    Calls Try.prog 9 #[.agg #[.string s, .int .i64 y, .int .i64 c, .bool dn, .int .i64 f], .agg #[.int .u8 k, .string t, .int .i64 z]] w fun e w' => e = .returned (.tuple #[.agg #[.string (doM ⟨s, y, c, dn, f⟩ k t z).1.s, .int .i64 (doM ⟨s, y, c, dn, f⟩ k t z).1.y, .int .i64 (doM ⟨s, y, c, dn, f⟩ k t z).1.c, .bool (doM ⟨s, y, c, dn, f⟩ k t z).1.dn, .int .i64 (doM ⟨s, y, c, dn, f⟩ k t z).1.f], .int .i64 (doM ⟨s, y, c, dn, f⟩ k t z).2]) ∧ Below w.heap.size w w' := by
  cases h : okB s y c
  · have e : doM ⟨s, y, c, dn, f⟩ k t z = (⟨⟨#[]⟩, 0, 0, false, 0⟩, 6) := by simp [doM, h]
    rw [e]
    exact do9_no s t y c f z k dn w h
  · have e : doM ⟨s, y, c, dn, f⟩ k t z = runM ⟨s, y, c, dn, f⟩ k t z := by simp [doM, h]
    rw [e]
    refine (do9_yes s t y c f z k dn w h hf1 hf2 h0 h1).mono ?_
    rintro e w' ⟨d', n, rfl, hM, hb⟩
    rw [hM]
    exact ⟨rfl, hb⟩
theorem rdo15_any (s t : ByteArray) (y c f z k : Int) (dn : Bool) (w : World) (hf1 : -9223372036854775808 ≤ f) (hf2 : f ≤ 9223372036854775807) (h0 : 0 ≤ k) (h1 : k < 256) :
    Calls Try.prog 15 #[.agg #[.string s, .int .i64 y, .int .i64 c, .bool dn, .int .i64 f], .agg #[.int .u8 k, .string t, .int .i64 z]] w fun e w' => e = .returned (.tuple #[.agg #[.string (doM ⟨s, y, c, dn, f⟩ k t z).1.s, .int .i64 (doM ⟨s, y, c, dn, f⟩ k t z).1.y, .int .i64 (doM ⟨s, y, c, dn, f⟩ k t z).1.c, .bool (doM ⟨s, y, c, dn, f⟩ k t z).1.dn, .int .i64 (doM ⟨s, y, c, dn, f⟩ k t z).1.f], .int .i64 (doM ⟨s, y, c, dn, f⟩ k t z).2]) ∧ Below w.heap.size w w' := by
  cases h : okB s y c
  · have e : doM ⟨s, y, c, dn, f⟩ k t z = (⟨⟨#[]⟩, 0, 0, false, 0⟩, 6) := by simp [doM, h]
    rw [e]
    exact rdo15_no s t y c f z k dn w h
  · have e : doM ⟨s, y, c, dn, f⟩ k t z = runM ⟨s, y, c, dn, f⟩ k t z := by simp [doM, h]
    rw [e]
    refine (rdo15 s t y c f z k dn w h hf1 hf2 h0 h1).mono ?_
    rintro e w' ⟨d', n, rfl, hM, hb⟩
    rw [hM]
    exact ⟨rfl, hb⟩
theorem read14_any (s : ByteArray) (y c f : Int) (dn : Bool) (w : World) :
    Calls Try.prog 14 #[.agg #[.string s, .int .i64 y, .int .i64 c, .bool dn, .int .i64 f]] w fun e w' => e = .returned (.tuple #[.string (rdM ⟨s, y, c, dn, f⟩).1, .int .i64 (rdM ⟨s, y, c, dn, f⟩).2]) ∧ Below w.heap.size w w' := by
  cases h : okB s y c
  · have e : rdM ⟨s, y, c, dn, f⟩ = (⟨#[]⟩, 6) := by simp [rdM, h]
    rw [e]
    exact read14_no s y c f dn w h
  · cases dn
    · have e : rdM ⟨s, y, c, false, f⟩ = (s, 0) := by simp [rdM, h]
      rw [e]
      exact read14_yes s y c f w h
    · have e : rdM ⟨s, y, c, true, f⟩ = (⟨#[]⟩, 12) := by simp [rdM, h]
      rw [e]
      exact read14_down s y c f w h
theorem rread16_any (s : ByteArray) (y c f : Int) (dn : Bool) (w : World) :
    Calls Try.prog 16 #[.agg #[.string s, .int .i64 y, .int .i64 c, .bool dn, .int .i64 f]] w fun e w' => e = .returned (.tuple #[.string (rdM ⟨s, y, c, dn, f⟩).1, .int .i64 (rdM ⟨s, y, c, dn, f⟩).2]) ∧ Below w.heap.size w w' := by
  cases h : okB s y c
  · have e : rdM ⟨s, y, c, dn, f⟩ = (⟨#[]⟩, 6) := by simp [rdM, h]
    rw [e]
    exact rread16_no s y c f dn w h
  · cases dn
    · have e : rdM ⟨s, y, c, false, f⟩ = (s, 0) := by simp [rdM, h]
      rw [e]
      exact rread16_yes s y c f w h
    · have e : rdM ⟨s, y, c, true, f⟩ = (⟨#[]⟩, 12) := by simp [rdM, h]
      rw [e]
      exact rread16_down s y c f w h
theorem crash11_any (s : ByteArray) (y c f keep : Int) (dn : Bool) (w : World) :
    Calls Try.prog 11 #[.agg #[.string s, .int .i64 y, .int .i64 c, .bool dn, .int .i64 f], .int .i64 keep] w fun e w' => e = .returned (.tuple #[.agg #[.string (crM ⟨s, y, c, dn, f⟩ keep).1.s, .int .i64 (crM ⟨s, y, c, dn, f⟩ keep).1.y, .int .i64 (crM ⟨s, y, c, dn, f⟩ keep).1.c, .bool (crM ⟨s, y, c, dn, f⟩ keep).1.dn, .int .i64 (crM ⟨s, y, c, dn, f⟩ keep).1.f], .int .i64 (crM ⟨s, y, c, dn, f⟩ keep).2]) ∧ Below w.heap.size w w' := by
  cases h : okB s y c
  · have e : crM ⟨s, y, c, dn, f⟩ keep = (⟨⟨#[]⟩, 0, 0, false, 0⟩, 6) := by simp [crM, h]
    rw [e]
    exact crash11_no s y c f keep dn w h
  · have e : crM ⟨s, y, c, dn, f⟩ keep = (crashM ⟨s, y, c, dn, f⟩ keep, 0) := by simp [crM, h]
    rw [e]
    refine (crash11_yes s y c f keep dn w h).mono ?_
    rintro e w' ⟨s', n, rfl, rfl, rfl, hb⟩
    exact ⟨rfl, hb⟩
theorem rcrash17_any (s : ByteArray) (y c f keep : Int) (dn : Bool) (w : World) :
    Calls Try.prog 17 #[.agg #[.string s, .int .i64 y, .int .i64 c, .bool dn, .int .i64 f], .int .i64 keep] w fun e w' => e = .returned (.tuple #[.agg #[.string (crM ⟨s, y, c, dn, f⟩ keep).1.s, .int .i64 (crM ⟨s, y, c, dn, f⟩ keep).1.y, .int .i64 (crM ⟨s, y, c, dn, f⟩ keep).1.c, .bool (crM ⟨s, y, c, dn, f⟩ keep).1.dn, .int .i64 (crM ⟨s, y, c, dn, f⟩ keep).1.f], .int .i64 (crM ⟨s, y, c, dn, f⟩ keep).2]) ∧ Below w.heap.size w w' := by
  cases h : okB s y c
  · have e : crM ⟨s, y, c, dn, f⟩ keep = (⟨⟨#[]⟩, 0, 0, false, 0⟩, 6) := by simp [crM, h]
    rw [e]
    exact rcrash17_no s y c f keep dn w h
  · have e : crM ⟨s, y, c, dn, f⟩ keep = (crashM ⟨s, y, c, dn, f⟩ keep, 0) := by simp [crM, h]
    rw [e]
    refine (rcrash17_yes s y c f keep dn w h).mono ?_
    rintro e w' ⟨s', n, rfl, rfl, rfl, hb⟩
    exact ⟨rfl, hb⟩
theorem check13_any (s : ByteArray) (y c f : Int) (dn : Bool) (w : World) :
    Calls Try.prog 13 #[.agg #[.string s, .int .i64 y, .int .i64 c, .bool dn, .int .i64 f]] w fun e w' => e = .returned (.int .i64 (ckM ⟨s, y, c, dn, f⟩)) ∧ Below w.heap.size w w' := by
  cases h : okB s y c
  · have e : ckM ⟨s, y, c, dn, f⟩ = 6 := by simp [ckM, h]
    rw [e]
    exact check13_no s y c f dn h w
  · have e : ckM ⟨s, y, c, dn, f⟩ = 0 := by simp [ckM, h]
    rw [e]
    exact check13_yes s y c f dn h w
theorem rcheck18_any (s : ByteArray) (y c f : Int) (dn : Bool) (w : World) :
    Calls Try.prog 18 #[.agg #[.string s, .int .i64 y, .int .i64 c, .bool dn, .int .i64 f]] w fun e w' => e = .returned (.int .i64 (ckM ⟨s, y, c, dn, f⟩)) ∧ Below w.heap.size w w' := by
  cases h : okB s y c
  · have e : ckM ⟨s, y, c, dn, f⟩ = 6 := by simp [ckM, h]
    rw [e]
    exact rcheck18_no s y c f dn h w
  · have e : ckM ⟨s, y, c, dn, f⟩ = 0 := by simp [ckM, h]
    rw [e]
    exact rcheck18_yes s y c f dn h w
/-- the law's own variables: the disk, the step, what both came to -/
structure GS (w W : World) (A B C E : Nat) (s : ByteArray) (y c f : Int) (dn : Bool) (a b : Dk) : Prop where
  below : Below w.heap.size w W
  box : Box W w.heap.size #[.string s, .int .i64 y, .int .i64 c, .bool dn, .int .i64 f] 24
  ba : Box W A #[.string a.s, .int .i64 a.y, .int .i64 a.c, .bool a.dn, .int .i64 a.f] 24
  bb : Box W B #[.string a.s, .int .i64 a.y, .int .i64 a.c, .bool a.dn, .int .i64 a.f] 24
  bc : Box W C #[.string b.s, .int .i64 b.y, .int .i64 b.c, .bool b.dn, .int .i64 b.f] 24
  be : Box W E #[.string b.s, .int .i64 b.y, .int .i64 b.c, .bool b.dn, .int .i64 b.f] 24
theorem GS.call {w W W' : World} {A B C E : Nat} {s : ByteArray} {y c f : Int} {dn : Bool} {a b : Dk} (h : GS w W A B C E s y c f dn a b) (hb : Below W.heap.size W W') : GS w W' A B C E s y c f dn a b :=
  ⟨h.below.trans (hb.mono h.below.size), h.box.call hb, h.ba.call hb, h.bb.call hb, h.bc.call hb, h.be.call hb⟩
/-- the disk, the step -/
structure FT (w W : World) (s t : ByteArray) (y c f z k : Int) (dn : Bool) : Prop where
  below : Below w.heap.size w W
  box : Box W w.heap.size #[.string s, .int .i64 y, .int .i64 c, .bool dn, .int .i64 f] 24
  step : Box W (w.heap.size + 1) #[.int .u8 k, .string t, .int .i64 z] 30
theorem FT.call {w W W' : World} {s t : ByteArray} {y c f z k : Int} {dn : Bool} (h : FT w W s t y c f z k dn) (hb : Below W.heap.size W W') : FT w W' s t y c f z k dn :=
  ⟨h.below.trans (hb.mono h.below.size), h.box.call hb, h.step.call hb⟩
theorem FT.new (w : World) (s t : ByteArray) (y c f z k : Int) (dn : Bool) : FT w ((w.alloc (.cells #[.string s, .int .i64 y, .int .i64 c, .bool dn, .int .i64 f] 24)).alloc (.cells #[.int .u8 k, .string t, .int .i64 z] 30)) s t y c f z k dn :=
  ⟨below2 w _ _, (box2 w _ _ _ _).1, (box2 w _ _ _ _).2⟩
set_option maxHeartbeats 8000000 in
set_option maxRecDepth 100000 in
theorem does7 (s t : ByteArray) (y c f z k keep : Int) (dn : Bool) (w : World) (hf1 : -9223372036854775808 ≤ f) (hf2 : f ≤ 9223372036854775807) (h0 : 0 ≤ k) (h1 : k < 256) :
    Calls Try.prog 7 #[.agg #[.string s, .int .i64 y, .int .i64 c, .bool dn, .int .i64 f], .agg #[.int .u8 k, .string t, .int .i64 z], .int .i64 keep] w fun e w' => e = .returned (.bool true) ∧ Below w.heap.size w w' := by
  obtain ⟨ar, har⟩ : ∃ r, r = doM ⟨s, y, c, dn, f⟩ k t z := ⟨_, rfl⟩
  have D9 := fun W => do9_any s t y c f z k dn W hf1 hf2 h0 h1
  have D15 := fun W => rdo15_any s t y c f z k dn W hf1 hf2 h0 h1
  obtain ⟨rr, hrr⟩ : ∃ r, r = rdM ⟨s, y, c, dn, f⟩ := ⟨_, rfl⟩
  have D14 := fun W => read14_any s y c f dn W
  have D16 := fun W => rread16_any s y c f dn W
  obtain ⟨cr, hcr⟩ : ∃ r, r = crM ⟨s, y, c, dn, f⟩ keep := ⟨_, rfl⟩
  have D11 := fun W => crash11_any s y c f keep dn W
  have D17 := fun W => rcrash17_any s y c f keep dn W
  obtain ⟨kk, hkk⟩ : ∃ r, r = ckM ⟨s, y, c, dn, f⟩ := ⟨_, rfl⟩
  have D13 := fun W => check13_any s y c f dn W
  have D18 := fun W => rcheck18_any s y c f dn W
  rw [← har] at D9 D15
  rw [← hrr] at D14 D16
  rw [← hcr] at D11 D17
  rw [← hkk] at D13 D18
  obtain ⟨⟨av, ay, ac, an, af⟩, ae⟩ := ar
  obtain ⟨rs, re⟩ := rr
  obtain ⟨⟨cv, cy, cc, cn, cf⟩, ce⟩ := cr
  dsimp only at D9 D15 D14 D16 D11 D17 D13 D18
  have H9 : Hid _ := D9
  have H15 : Hid _ := D15
  have H14 : Hid _ := D14
  have H16 : Hid _ := D16
  have H11 : Hid _ := D11
  have H17 : Hid _ := D17
  have H13 : Hid _ := D13
  have H18 : Hid _ := D18
  clear D9 D15 D14 D16 D11 D17 D13 D18 har hrr hcr hkk
  go_enter Try.func7, Try.ntmps7
  go_wp2_with fail
  refine (H9.out _).mono ?_
  rintro e w1 ⟨rfl, hb1⟩
  have S1 : Hid (FT w w1 s t y c f z k dn) := (FT.new w s t y c f z k dn).call hb1
  clear hb1 
  obtain ⟨p0, p1, p2, p3, p4⟩ := S1.out.box.five
  obtain ⟨r0, r1, r2⟩ := S1.out.step.three
  have lt1 := S1.out.box.1
  have lt2 := S1.out.step.1
  go_wp2_with fail
  refine (H15.out _).mono ?_
  rintro e w2 ⟨rfl, hb2⟩
  have S2 : Hid (FT w w2 s t y c f z k dn) := (S1.out.call (below_new _ _)).call hb2
  have A2 : Hid (Box w2 w1.heap.size #[.string av, .int .i64 ay, .int .i64 ac, .bool an, .int .i64 af] 24) := (Box.new w1 _ _).call hb2
  clear hb2 p0 p1 p2 p3 p4 r0 r1 r2 lt1 lt2 S1
  obtain ⟨p0, p1, p2, p3, p4⟩ := S2.out.box.five
  obtain ⟨r0, r1, r2⟩ := S2.out.step.three
  have lt1 := S2.out.box.1
  have lt2 := S2.out.step.1
  go_wp2_with fail
  refine (H14.out _).mono ?_
  rintro e w3 ⟨rfl, hb3⟩
  have S3 : Hid (FT w w3 s t y c f z k dn) := (S2.out.call (below_new _ _)).call hb3
  have A3 : Hid (Box w3 w1.heap.size #[.string av, .int .i64 ay, .int .i64 ac, .bool an, .int .i64 af] 24) := Box.call (Box.past A2.out _) hb3
  have B3 : Hid (Box w3 w2.heap.size #[.string av, .int .i64 ay, .int .i64 ac, .bool an, .int .i64 af] 24) := (Box.new w2 _ _).call hb3
  clear hb3 p0 p1 p2 p3 p4 r0 r1 r2 lt1 lt2 S2 A2
  obtain ⟨p0, p1, p2, p3, p4⟩ := S3.out.box.five
  obtain ⟨r0, r1, r2⟩ := S3.out.step.three
  have lt1 := S3.out.box.1
  have lt2 := S3.out.step.1
  go_wp2_with fail
  refine (H16.out _).mono ?_
  rintro e w4 ⟨rfl, hb4⟩
  have S4 : Hid (FT w w4 s t y c f z k dn) := S3.out.call hb4
  have A4 : Hid (Box w4 w1.heap.size #[.string av, .int .i64 ay, .int .i64 ac, .bool an, .int .i64 af] 24) := Box.call A3.out hb4
  have B4 : Hid (Box w4 w2.heap.size #[.string av, .int .i64 ay, .int .i64 ac, .bool an, .int .i64 af] 24) := Box.call B3.out hb4
  clear hb4 p0 p1 p2 p3 p4 r0 r1 r2 lt1 lt2 S3 A3 B3
  obtain ⟨p0, p1, p2, p3, p4⟩ := S4.out.box.five
  obtain ⟨r0, r1, r2⟩ := S4.out.step.three
  have lt1 := S4.out.box.1
  have lt2 := S4.out.step.1
  go_wp2_with fail
  refine (H11.out _).mono ?_
  rintro e w5 ⟨rfl, hb5⟩
  have S5 : Hid (FT w w5 s t y c f z k dn) := S4.out.call hb5
  have A5 : Hid (Box w5 w1.heap.size #[.string av, .int .i64 ay, .int .i64 ac, .bool an, .int .i64 af] 24) := Box.call A4.out hb5
  have B5 : Hid (Box w5 w2.heap.size #[.string av, .int .i64 ay, .int .i64 ac, .bool an, .int .i64 af] 24) := Box.call B4.out hb5
  clear hb5 p0 p1 p2 p3 p4 r0 r1 r2 lt1 lt2 S4 A4 B4
  obtain ⟨p0, p1, p2, p3, p4⟩ := S5.out.box.five
  obtain ⟨r0, r1, r2⟩ := S5.out.step.three
  have lt1 := S5.out.box.1
  have lt2 := S5.out.step.1
  go_wp2_with fail
  refine (H17.out _).mono ?_
  rintro e w6 ⟨rfl, hb6⟩
  have S6 : Hid (FT w w6 s t y c f z k dn) := (S5.out.call (below_new _ _)).call hb6
  have A6 : Hid (Box w6 w1.heap.size #[.string av, .int .i64 ay, .int .i64 ac, .bool an, .int .i64 af] 24) := Box.call (Box.past A5.out _) hb6
  have B6 : Hid (Box w6 w2.heap.size #[.string av, .int .i64 ay, .int .i64 ac, .bool an, .int .i64 af] 24) := Box.call (Box.past B5.out _) hb6
  have C6 : Hid (Box w6 w5.heap.size #[.string cv, .int .i64 cy, .int .i64 cc, .bool cn, .int .i64 cf] 24) := (Box.new w5 _ _).call hb6
  clear hb6 p0 p1 p2 p3 p4 r0 r1 r2 lt1 lt2 S5 A5 B5
  obtain ⟨p0, p1, p2, p3, p4⟩ := S6.out.box.five
  obtain ⟨r0, r1, r2⟩ := S6.out.step.three
  have lt1 := S6.out.box.1
  have lt2 := S6.out.step.1
  have G7 : Hid (GS w (w6.alloc (.cells #[.string cv, .int .i64 cy, .int .i64 cc, .bool cn, .int .i64 cf] 24)) w1.heap.size w2.heap.size w5.heap.size w6.heap.size s y c f dn ⟨av, ay, ac, an, af⟩ ⟨cv, cy, cc, cn, cf⟩) :=
    ⟨S6.out.below.alloc S6.out.below.size _, S6.out.box.past _, Box.past A6.out _, Box.past B6.out _, Box.past C6.out _, Box.new w6 _ _⟩
  obtain ⟨A, hA⟩ : ∃ A, A = w1.heap.size := ⟨_, rfl⟩
  obtain ⟨B, hB⟩ : ∃ A, A = w2.heap.size := ⟨_, rfl⟩
  obtain ⟨C, hC⟩ : ∃ A, A = w5.heap.size := ⟨_, rfl⟩
  obtain ⟨E, hE⟩ : ∃ A, A = w6.heap.size := ⟨_, rfl⟩
  obtain ⟨w7, hw7⟩ : ∃ W, W = w6.alloc (.cells #[.string cv, .int .i64 cy, .int .i64 cc, .bool cn, .int .i64 cf] 24) := ⟨_, rfl⟩
  clear p0 p1 p2 p3 p4 r0 r1 r2 lt1 lt2 S6 A6 B6 C6 H9 H15 H14 H16 H11 H17
  go_wp2_with fail
  rw [← hw7, ← hA, ← hB, ← hC, ← hE] at G7 ⊢
  clear hw7 hA hB hC hE
  obtain ⟨d0, d1, d2, d3, d4⟩ := G7.out.box.five
  obtain ⟨a0, a1, a2, a3, a4⟩ := G7.out.ba.five
  obtain ⟨b0, b1, b2, b3, b4⟩ := G7.out.bb.five
  obtain ⟨c0, c1, c2, c3, c4⟩ := G7.out.bc.five
  obtain ⟨e0, e1, e2, e3, e4⟩ := G7.out.be.five
  go_region_held3 (fun W' => W'.cell? ⟨w.heap.size, 0, none⟩ = some (.string s) ∧ W'.cell? ⟨w.heap.size, 1, none⟩ = some (.int .i64 y) ∧ W'.cell? ⟨w.heap.size, 2, none⟩ = some (.int .i64 c) ∧ W'.cell? ⟨w.heap.size, 3, none⟩ = some (.bool dn) ∧ W'.cell? ⟨w.heap.size, 4, none⟩ = some (.int .i64 f) ∧ W'.cell? ⟨A, 0, none⟩ = some (.string av) ∧ W'.cell? ⟨A, 1, none⟩ = some (.int .i64 ay) ∧ W'.cell? ⟨A, 2, none⟩ = some (.int .i64 ac) ∧ W'.cell? ⟨A, 3, none⟩ = some (.bool an) ∧ W'.cell? ⟨A, 4, none⟩ = some (.int .i64 af) ∧ W'.cell? ⟨B, 0, none⟩ = some (.string av) ∧ W'.cell? ⟨B, 1, none⟩ = some (.int .i64 ay) ∧ W'.cell? ⟨B, 2, none⟩ = some (.int .i64 ac) ∧ W'.cell? ⟨B, 3, none⟩ = some (.bool an) ∧ W'.cell? ⟨B, 4, none⟩ = some (.int .i64 af) ∧ W'.cell? ⟨C, 0, none⟩ = some (.string cv) ∧ W'.cell? ⟨C, 1, none⟩ = some (.int .i64 cy) ∧ W'.cell? ⟨C, 2, none⟩ = some (.int .i64 cc) ∧ W'.cell? ⟨C, 3, none⟩ = some (.bool cn) ∧ W'.cell? ⟨C, 4, none⟩ = some (.int .i64 cf) ∧ W'.cell? ⟨E, 0, none⟩ = some (.string cv) ∧ W'.cell? ⟨E, 1, none⟩ = some (.int .i64 cy) ∧ W'.cell? ⟨E, 2, none⟩ = some (.int .i64 cc) ∧ W'.cell? ⟨E, 3, none⟩ = some (.bool cn) ∧ W'.cell? ⟨E, 4, none⟩ = some (.int .i64 cf)) (go_keep) (first
    | (go_at_call 8; refine (lives8 _).mono ?_; rintro e w8 ⟨rfl, hb8⟩
       have G7 : Hid (GS w w8 A B C E s y c f dn ⟨av, ay, ac, an, af⟩ ⟨cv, cy, cc, cn, cf⟩) := G7.out.call (by first | exact hb8 | exact (Below.refl _ _).drew.trans hb8)
       clear hb8
       obtain ⟨d0, d1, d2, d3, d4⟩ := G7.out.box.five
       obtain ⟨a0, a1, a2, a3, a4⟩ := G7.out.ba.five
       obtain ⟨b0, b1, b2, b3, b4⟩ := G7.out.bb.five
       obtain ⟨c0, c1, c2, c3, c4⟩ := G7.out.bc.five
       obtain ⟨e0, e1, e2, e3, e4⟩ := G7.out.be.five)
    | (go_at_call 13; refine (H13.out _).mono ?_; rintro e w8 ⟨rfl, hb8⟩
       have G7 : Hid (GS w w8 A B C E s y c f dn ⟨av, ay, ac, an, af⟩ ⟨cv, cy, cc, cn, cf⟩) := G7.out.call (by first | exact hb8 | exact (Below.refl _ _).drew.trans hb8)
       clear hb8
       obtain ⟨d0, d1, d2, d3, d4⟩ := G7.out.box.five
       obtain ⟨a0, a1, a2, a3, a4⟩ := G7.out.ba.five
       obtain ⟨b0, b1, b2, b3, b4⟩ := G7.out.bb.five
       obtain ⟨c0, c1, c2, c3, c4⟩ := G7.out.bc.five
       obtain ⟨e0, e1, e2, e3, e4⟩ := G7.out.be.five)
    | (go_at_call 18; refine (H18.out _).mono ?_; rintro e w8 ⟨rfl, hb8⟩
       have G7 : Hid (GS w w8 A B C E s y c f dn ⟨av, ay, ac, an, af⟩ ⟨cv, cy, cc, cn, cf⟩) := G7.out.call (by first | exact hb8 | exact (Below.refl _ _).drew.trans hb8)
       clear hb8
       obtain ⟨d0, d1, d2, d3, d4⟩ := G7.out.box.five
       obtain ⟨a0, a1, a2, a3, a4⟩ := G7.out.ba.five
       obtain ⟨b0, b1, b2, b3, b4⟩ := G7.out.bb.five
       obtain ⟨c0, c1, c2, c3, c4⟩ := G7.out.bc.five
       obtain ⟨e0, e1, e2, e3, e4⟩ := G7.out.be.five))
  go_wp2
  go_ret
  exact ⟨rfl, G7.out.below⟩
end Go.Proofs.Ytbdjmedhoaillaa
