/- What a change comes to, and run, walked. -/
import Derived.Test.YtbdjmedhoaillaaKinds
namespace Go.Proofs.Ytbdjmedhoaillaa
open Go.RowKit
/-- a disk -/
structure Dk where
  s : ByteArray
  y : Int
  c : Int
  dn : Bool
  f : Int
/-- a fuse behind a change that was done -/
def fuse (f : Int) : Int := if 0 < f then f - 1 else f
/-- a change of a disk that is right -/
def runM (d : Dk) (k : Int) (t : ByteArray) (z : Int) : Dk × Int :=
  if k = 1 then
    if d.dn then (d, 12) else if d.c - d.s.size < t.size then (d, 8)
    else if d.f = 0 then (⟨d.s ++ t, d.y, d.c, true, d.f⟩, 12) else (⟨d.s ++ t, d.y, d.c, false, fuse d.f⟩, 0)
  else if k = 2 then
    if d.dn then (d, 12) else if d.f = 0 then (⟨d.s, d.y, d.c, true, d.f⟩, 12) else (⟨d.s, d.s.size, d.c, false, fuse d.f⟩, 0)
  else if k = 3 then
    if d.dn then (d, 12) else if z < 0 ∨ d.s.size < z then (d, 2)
    else if d.f = 0 then (⟨d.s, d.y, d.c, true, d.f⟩, 12) else (⟨d.s.extract 0 z.toNat, z, d.c, false, fuse d.f⟩, 0)
  else (d, 5)
theorem box2 (w : World) (C : Array Value) (D : Array Value) (t u : TypeId) : Box ((w.alloc (.cells C t)).alloc (.cells D u)) w.heap.size C t ∧ Box ((w.alloc (.cells C t)).alloc (.cells D u)) (w.heap.size + 1) D u := by
  refine ⟨(Box.new w C t).past _, ?_⟩
  have := Box.new (w.alloc (.cells C t)) D u
  simpa using this
theorem below2 (w : World) (a b : Obj) : Below w.heap.size w ((w.alloc a).alloc b) := ((Below.refl _ _).alloc (Nat.le_refl _) _).alloc (by simp) _
theorem info24 : (Try.prog.info? 24).map (·.size) = some 5 := by kernel_rfl
theorem results_box2 {fn : Func} {p u : Tmp} (h : fn.results = #[.cell p 24, .tmp u]) (tmps : Array Value) (W : World) (g : Nat) (v0 v1 v2 v3 v4 x : Value)
    (hp : tmps.getD p undef = .pointer (some ⟨g, 0, none⟩)) (hx : tmps.getD u undef = x) (hg : Box W g #[v0, v1, v2, v3, v4] 24) : (results fn tmps).run Try.prog W = .ok (.tuple #[.agg #[v0, v1, v2, v3, v4], x]) W := by
  have hp' : tmps[p]?.getD undef = .pointer (some ⟨g, 0, none⟩) := by simpa using hp
  have hx' : tmps[u]?.getD undef = x := by simpa using hx
  simp [results, h, hp', hx', asAddr, run_loadVar_row W g 24 24 _ (0, 0) _ hg.2 Try.underlying24 rfl info24]
theorem Box.set {W : World} {b : Nat} {C : Array Value} {t : TypeId} (h : Box W b C t) (i : Nat) (v : Value) : Box (W.setCell ⟨b, i, none⟩ v) b (C.setIfInBounds i v) t :=
  ⟨by simp; exact h.1, heap_setCell_same W b i _ t v h.2⟩
theorem fin5 {w W : World} {b : Nat} {u0 u1 u2 u3 u4 : Value} {t : TypeId} (h : Box W b #[u0, u1, u2, u3, u4] t) (hB : Below w.heap.size w W) (hb : w.heap.size ≤ b) (v0 v1 v2 v3 v4 : Value) :
    Box (((((W.setCell ⟨b, 0, none⟩ v0).setCell ⟨b, 1, none⟩ v1).setCell ⟨b, 2, none⟩ v2).setCell ⟨b, 3, none⟩ v3).setCell ⟨b, 4, none⟩ v4) b #[v0, v1, v2, v3, v4] t ∧ Below w.heap.size w (((((W.setCell ⟨b, 0, none⟩ v0).setCell ⟨b, 1, none⟩ v1).setCell ⟨b, 2, none⟩ v2).setCell ⟨b, 3, none⟩ v3).setCell ⟨b, 4, none⟩ v4) :=
  ⟨((((h.set 0 v0).set 1 v1).set 2 v2).set 3 v3).set 4 v4, ((((hB.setCell hb _).setCell hb _).setCell hb _).setCell hb _).setCell hb _⟩
theorem fin5a {w W : World} {b : Nat} {u0 u1 u2 u3 u4 : Value} {t : TypeId} (h : Box W b #[u0, u1, u2, u3, u4] t) (hB : Below w.heap.size w W) (hb : w.heap.size ≤ b) (v0 v1 v2 v3 v4 : Value) (o : Obj) :
    Box ((((((W.setCell ⟨b, 0, none⟩ v0).setCell ⟨b, 1, none⟩ v1).setCell ⟨b, 2, none⟩ v2).setCell ⟨b, 3, none⟩ v3).setCell ⟨b, 4, none⟩ v4).alloc o) b #[v0, v1, v2, v3, v4] t ∧ Below w.heap.size w ((((((W.setCell ⟨b, 0, none⟩ v0).setCell ⟨b, 1, none⟩ v1).setCell ⟨b, 2, none⟩ v2).setCell ⟨b, 3, none⟩ v3).setCell ⟨b, 4, none⟩ v4).alloc o) :=
  have F := fin5 h hB hb v0 v1 v2 v3 v4
  ⟨F.1.past o, F.2.alloc F.2.size o⟩
/-- run's own variables: the change, the answer -/
structure RS (w W : World) (s t : ByteArray) (y c f z k : Int) (dn : Bool) : Prop where
  below : Below w.heap.size w W
  box : Box W w.heap.size #[.string s, .int .i64 y, .int .i64 c, .bool dn, .int .i64 f, .int .u8 k, .string t, .int .i64 z] 44
  res : Box W (w.heap.size + 1) #[.string ⟨#[]⟩, .int .i64 0, .int .i64 0, .bool false, .int .i64 0] 24
theorem RS.call {w W W' : World} {s t : ByteArray} {y c f z k : Int} {dn : Bool} (h : RS w W s t y c f z k dn) (hb : Below W.heap.size W W') : RS w W' s t y c f z k dn :=
  ⟨h.below.trans (hb.mono h.below.size), h.box.call hb, h.res.call hb⟩
theorem RS.new (w : World) (s t : ByteArray) (y c f z k : Int) (dn : Bool) : RS w ((w.alloc (.cells #[.string s, .int .i64 y, .int .i64 c, .bool dn, .int .i64 f, .int .u8 k, .string t, .int .i64 z] 44)).alloc (.cells #[.string ⟨#[]⟩, .int .i64 0, .int .i64 0, .bool false, .int .i64 0] 24)) s t y c f z k dn :=
  ⟨below2 w _ _, (box2 w _ _ _ _).1, (box2 w _ _ _ _).2⟩
set_option maxHeartbeats 2000000 in
theorem run19_else (s t : ByteArray) (y c f z k : Int) (dn : Bool) (w : World) (h0 : 0 ≤ k) (h1 : k < 256) (h2 : k ≠ 1) (h3 : k ≠ 2) (h4 : k ≠ 3) :
    Calls Try.prog 19 #[.agg #[.string s, .int .i64 y, .int .i64 c, .bool dn, .int .i64 f, .int .u8 k, .string t, .int .i64 z]] w fun e w' => e = .returned (.tuple #[.agg #[.string s, .int .i64 y, .int .i64 c, .bool dn, .int .i64 f], .int .i64 5]) ∧ Below w.heap.size w w' := by
  have HN : Hid (∀ {W : World} {B : Nat} {C : Value}, Kinds W B C → (Instr.lookup 50 (.map (some B)) (.int .u8 k) true).run Try.prog W = .ok (.tuple #[.nilFunc, .bool false]) W) := fun h => look_no h k h0 h1 h2 h3 h4
  have S1 : Hid _ := RS.new w s t y c f z k dn
  obtain ⟨w1, hw1⟩ : ∃ w1, w1 = (w.alloc (.cells #[.string s, .int .i64 y, .int .i64 c, .bool dn, .int .i64 f, .int .u8 k, .string t, .int .i64 z] 44)).alloc (.cells #[.string ⟨#[]⟩, .int .i64 0, .int .i64 0, .bool false, .int .i64 0] 24) := ⟨_, rfl⟩
  rw [← hw1] at S1
  have HW1 : Hid (w1 = _) := hw1
  obtain ⟨a0, a1, a2, a3, a4, a5, a6, a7⟩ := S1.out.box.eight
  clear hw1 h2 h3 h4
  go_enter Try.func19, Try.ntmps19
  go_wp2
  rw [← HW1.out]
  go_cut [4, 5] from 8 to 17 (fun s4 s5 wx => s4 = .nilFunc ∧ s5 = .bool false ∧ RS w wx s t y c f z k dn)
  case first =>
    go_region_with (
      (go_at_call 23; refine (kinds23 s t y c f z k dn _).mono ?_; rintro e w3 ⟨B, rfl, hb3, hk3⟩
       have S3 : Hid (RS w w3 s t y c f z k dn) := S1.out.call ((Below.refl _ w1).drew.trans hb3)
       have L3 := HN.out hk3
       have c53 := S3.out.box.eight.2.2.2.2.2.1
       clear hb3 hk3))
    all_goals
      go_wp2_with fail
      go_meet
      exact ⟨rfl, rfl, S3.out⟩
  case rest =>
    obtain ⟨rfl, rfl, hS⟩ := hcut
    clear S1 HW1 HN a0 a1 a2 a3 a4 a5 a6 a7
    obtain ⟨p0, p1, p2, p3, p4, p5, p6, p7⟩ := hS.box.eight
    obtain ⟨q0, q1, q2, q3, q4⟩ := hS.res.five
    have fz := hS.res.free
    have lt2 := hS.res.1
    have HS : Hid _ := hS
    clear hS
    go_wp2
    refine bodyPost_ret (v := .tuple #[.agg #[.string s, .int .i64 y, .int .i64 c, .bool dn, .int .i64 f], .int .i64 5]) (by simp [results, Try.results19, go_sem, q0, q1, q2, q3, q4]) rfl ⟨rfl, ?_⟩
    exact ((((HS.out.below.setCell (by simp) _).setCell (by simp) _).setCell (by simp) _).setCell (by simp) _).setCell (by simp) _
end Go.Proofs.Ytbdjmedhoaillaa
