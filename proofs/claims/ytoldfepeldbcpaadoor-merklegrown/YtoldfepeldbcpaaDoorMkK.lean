/- The Once of a tree: its digests are made at the first asking, and stay. -/
import Derived.Test.YtoldfepeldbcpaaDoorMkJ
namespace Go.Proofs.YtoldfepeldbcpaaDoor
open Go.RowKit
attribute [local go_sem ↓] Go.wp_at_zero Go.wp_at_succ
theorem bload_c (a : Addr) (x : Int) (w : World) (h : w.cell? a = some (.int .u32 x)) :
    Calls Tryd.prog 56 #[.pointer (some a)] w fun e w' => e = .returned (.bool (x != 0)) ∧ w = w' := by
  have hl := run_call_load (P := Tryd.prog) Tryd.func67 (by kernel_rfl) (by kernel_rfl) (by kernel_rfl) .u32 (by kernel_rfl) h
  go_enter Tryd.func56, Tryd.ntmps56
  go_wp2
  go_ret
  exact ⟨rfl, rfl⟩
set_option maxHeartbeats 4000000 in
set_option maxRecDepth 100000 in
theorem dosl_c (b pl n : Nat) (g : Nat) (l : List (List UInt8)) (hl : l.length = n) (hn : n ≤ 1024) (hx : ∀ x ∈ l, x.length ≤ 140737488355328) (w : World) (_ : 0 < b) (hK : HasK w) (hT : TreeAt w b n 0 0 (.slice (some ⟨g, 0, none⟩) n n) (.pointer none)) (hp : w.cell? ⟨pl, 0, none⟩ = some (.pointer (some ⟨b, 0, none⟩))) (hpb : pl ≠ b) (hpl : pl < w.heap.size) (hgb : g ≠ b) (hS : Sl w w.heap.size (.slice (some ⟨g, 0, none⟩) n n) l) :
    Calls Tryd.prog 57 #[.pointer (some ⟨b, 1, none⟩), .func (.func 37) #[] #[.pointer (some ⟨pl, 0, none⟩)]] w fun e w' => e = .returned (.tuple #[]) ∧ ∃ p, TreeAt w' b n 1 0 (.slice none 0 0) (.pointer (some ⟨p, 0, none⟩)) ∧ Pt w' p l ∧ Gr b w w' := by
  obtain ⟨d0, d1, d2, d3, d4, d5⟩ := hT.cells
  have fz := hT.free
  have T1 : Hid (TreeAt (w.setCell ⟨b, 2, none⟩ (.int .i32 1)) b n 0 1 (.slice (some ⟨g, 0, none⟩) n n) (.pointer none)) := hT.state 1
  have G1 : Hid (Gr b w (w.setCell ⟨b, 2, none⟩ (.int .i32 1))) := Gr.set b 2 w _
  have S1 : Hid (Sl (w.setCell ⟨b, 2, none⟩ (.int .i32 1)) w.heap.size (.slice (some ⟨g, 0, none⟩) n n) l) := by
    show RowOf _ _ _ _ _
    rcases hS with h | ⟨b', o', c', h1, h2, h3⟩
    · exact .inl h
    · injection h1 with e1 e2 e3
      injection e1 with e1
      injection e1 with e4 e5
      subst e4 e5
      exact .inr ⟨g, 0, _, by rw [← e2], h2, fun k x hk => (World.cell?_setCell_other _ _ _ _ (fun h => hgb (by have := congrArg Addr.block h; simpa using this.symm))).trans (h3 k x hk)⟩
  have CF : Hid (Calls Tryd.prog 37 #[.pointer (some ⟨pl, 0, none⟩)] (w.setCell ⟨b, 2, none⟩ (.int .i32 1)) fun e w' => e = .returned (.tuple #[]) ∧ ∃ p, TreeAt w' b n 0 1 (.slice none 0 0) (.pointer (some ⟨p, 0, none⟩)) ∧ Pt w' p l ∧ Gr b (w.setCell ⟨b, 2, none⟩ (.int .i32 1)) w') := by
    refine fill_c b pl n 0 1 g l hl hn hx _ (hK.gr hT.cells.1 G1.out) T1.out ?_ hpb (by simpa using hpl) (by simpa using S1.out)
    exact (World.cell?_setCell_other _ _ _ _ (fun h => hpb (by have := congrArg Addr.block h; simpa using this.symm))).trans hp
  have hnot : ∀ (x : Bool) (w : World), (Op.unary .not (.bool x)).run Tryd.prog w = .ok (.bool (!x)) w := fun _ _ => rfl
  clear hx hS hK S1 d0 d1 d3 d4 d5 hp hl
  go_enter_defers Tryd.func57, Tryd.ntmps57
  go_wp2_with (go_at_call 68; refine (lock_free ⟨b, 2, none⟩ _ (by go_simp) (by go_simp)).mono ?_; rintro e w' ⟨rfl, rfl⟩)
  refine (bload_c ⟨b, 1, none⟩ 0 _ T1.out.cells.2.1).mono ?_
  rintro e w' ⟨rfl, rfl⟩
  go_wp2_with fail
  refine CF.out.mono ?_
  rintro e w2 ⟨rfl, p, hT2, hP2, hG2⟩
  have T2 : Hid (TreeAt w2 b n 0 1 (.slice none 0 0) (.pointer (some ⟨p, 0, none⟩))) := hT2
  have P2 : Hid (Pt w2 p l) := hP2
  have G2 : Hid (Gr b w w2) := G1.out.trans hG2
  clear hT2 hP2 hG2
  go_wp2
  refine leaves_cons (f := 70) (args := #[.pointer (some ⟨b, 1, none⟩), .bool true]) (by simp) (by simp [go_sem]) ?_
  refine (store_deferred ⟨b, 1, none⟩ (.int .u32 0) .returning _ T2.out.cells.2.1 (T2.out.free 1)).mono ?_
  rintro e u' w'' ⟨rfl, rfl, rfl⟩
  have T3 : TreeAt (w2.drew.setCell ⟨b, 1, none⟩ (.int .u32 1)) b n 1 1 (.slice none 0 0) (.pointer (some ⟨p, 0, none⟩)) := T2.out.drew.done 1
  refine leaves_cons (f := 69) (args := #[.pointer (some ⟨b, 2, none⟩)]) (by simp [settle]) (by simp [go_sem]) ?_
  refine (unlock_deferred ⟨b, 2, none⟩ _ _ T3.cells.2.2.1 (T3.free 2)).mono ?_
  rintro e u' w'' ⟨rfl, rfl, rfl⟩
  have T4 := T3.state 0
  have G4 : Gr b w ((w2.drew.setCell ⟨b, 1, none⟩ (.int .u32 1)).setCell ⟨b, 2, none⟩ (.int .i32 0)) := ((G2.out.trans (Gr.drew b w2)).trans (Gr.set b 1 _ _)).trans (Gr.set b 2 _ _)
  have P4 : Pt ((w2.drew.setCell ⟨b, 1, none⟩ (.int .u32 1)).setCell ⟨b, 2, none⟩ (.int .i32 0)) p l := (P2.out.drew.gr T2.out.drew (Gr.set b 1 _ _)).gr T3 (Gr.set b 2 _ _)
  simp [Leaves, settle, results, Tryd.results57]
  exact ⟨p, T4, P4, G4⟩
set_option maxHeartbeats 4000000 in
set_option maxRecDepth 100000 in
theorem do_first (b pl n : Nat) (g : Nat) (l : List (List UInt8)) (hl : l.length = n) (hn : n ≤ 1024) (hx : ∀ x ∈ l, x.length ≤ 140737488355328) (w : World) (hb0 : 0 < b) (hK : HasK w) (hT : TreeAt w b n 0 0 (.slice (some ⟨g, 0, none⟩) n n) (.pointer none)) (hp : w.cell? ⟨pl, 0, none⟩ = some (.pointer (some ⟨b, 0, none⟩))) (hpb : pl ≠ b) (hpl : pl < w.heap.size) (hgb : g ≠ b) (hS : Sl w w.heap.size (.slice (some ⟨g, 0, none⟩) n n) l) :
    Calls Tryd.prog 36 #[.pointer (some ⟨b, 1, none⟩), .func (.func 37) #[] #[.pointer (some ⟨pl, 0, none⟩)]] w fun e w' => e = .returned (.tuple #[]) ∧ ∃ p, TreeAt w' b n 1 0 (.slice none 0 0) (.pointer (some ⟨p, 0, none⟩)) ∧ Pt w' p l ∧ Gr b w w' := by
  have CD : Hid (Calls Tryd.prog 57 #[.pointer (some ⟨b, 1, none⟩), .func (.func 37) #[] #[.pointer (some ⟨pl, 0, none⟩)]] w fun e w' => e = .returned (.tuple #[]) ∧ ∃ p, TreeAt w' b n 1 0 (.slice none 0 0) (.pointer (some ⟨p, 0, none⟩)) ∧ Pt w' p l ∧ Gr b w w') := dosl_c b pl n g l hl hn hx w hb0 hK hT hp hpb hpl hgb hS
  have CL : Hid (Calls Tryd.prog 56 #[.pointer (some ⟨b, 1, none⟩)] w fun e w' => e = .returned (.bool false) ∧ w = w') := bload_c ⟨b, 1, none⟩ 0 w hT.cells.2.1
  clear hx hS hK hT hl hp
  go_enter Tryd.func36, Tryd.ntmps36
  go_wp2_with fail
  refine CL.out.mono ?_
  rintro e w' ⟨rfl, rfl⟩
  go_wp2_with fail
  refine CD.out.mono ?_
  rintro e w2 ⟨rfl, p, hT2, hP2, hG2⟩
  have T2 : Hid (TreeAt w2 b n 1 0 (.slice none 0 0) (.pointer (some ⟨p, 0, none⟩)) ∧ Pt w2 p l ∧ Gr b w w2) := ⟨hT2, hP2, hG2⟩
  clear hT2 hP2 hG2
  go_wp2
  go_end0
  exact ⟨rfl, p, T2.out⟩
theorem do_done (b : Nat) (fv : Value) (w : World) (h : w.cell? ⟨b, 1, none⟩ = some (.int .u32 1)) :
    Calls Tryd.prog 36 #[.pointer (some ⟨b, 1, none⟩), fv] w fun e w' => e = .returned (.tuple #[]) ∧ w = w' := by
  have CL : Hid (Calls Tryd.prog 56 #[.pointer (some ⟨b, 1, none⟩)] w fun e w' => e = .returned (.bool true) ∧ w = w') := bload_c ⟨b, 1, none⟩ 1 w h
  go_enter Tryd.func36, Tryd.ntmps36
  go_wp2_with fail
  refine CL.out.mono ?_
  rintro e w' ⟨rfl, rfl⟩
  go_wp2
  go_end0
  exact ⟨rfl, rfl⟩
/-- a tree of texts, its digests made or not -/
def Tr (W : World) (b : Nat) (l : List (List UInt8)) : Prop := 0 < b ∧ ((∃ g, g ≠ b ∧ TreeAt W b l.length 0 0 (.slice (some ⟨g, 0, none⟩) l.length l.length) (.pointer none) ∧ W.ownsRow 0 9 1 (.slice (some ⟨g, 0, none⟩) l.length l.length) l.length (scs l)) ∨ ∃ p, TreeAt W b l.length 1 0 (.slice none 0 0) (.pointer (some ⟨p, 0, none⟩)) ∧ Pt W p l)
set_option maxHeartbeats 4000000 in
set_option maxRecDepth 100000 in
theorem digests_c (b : Nat) (l : List (List UInt8)) (hn : l.length ≤ 1024) (hx : ∀ x ∈ l, x.length ≤ 140737488355328) (w : World) (hK : HasK w) (hT : Tr w b l) :
    Calls Tryd.prog 19 #[.pointer (some ⟨b, 0, none⟩)] w fun e w' => ∃ p, e = .returned (.pointer (some ⟨p, 0, none⟩)) ∧ Pt w' p l ∧ Tr w' b l ∧ Gr b w w' := by
  obtain ⟨hb0, hT⟩ := hT
  have hmf : ∀ (fn : Fn) (first cap : Array Value) (w : World), (Instr.makeFunc fn first cap).run Tryd.prog w = .ok (.func fn first cap) w := fun _ _ _ _ => rfl
  obtain ⟨n, hnl⟩ : ∃ n, n = l.length := ⟨_, rfl⟩
  have HN : Hid (n = l.length) := hnl
  rw [← hnl] at hT hn
  have hB1 : Below w.heap.size w (w.alloc (.cells #[.pointer (some ⟨b, 0, none⟩)] 24)) := (Below.refl _ _).alloc (Nat.le_refl _) _
  rcases hT with ⟨g, hgb, hT, hO⟩ | ⟨p, hT, hP⟩
  · have hbl := hT.lt
    have CD : Hid (Calls Tryd.prog 36 #[.pointer (some ⟨b, 1, none⟩), .func (.func 37) #[] #[.pointer (some ⟨w.heap.size, 0, none⟩)]] (w.alloc (.cells #[.pointer (some ⟨b, 0, none⟩)] 24)) fun e w' => e = .returned (.tuple #[]) ∧ ∃ p, TreeAt w' b n 1 0 (.slice none 0 0) (.pointer (some ⟨p, 0, none⟩)) ∧ Pt w' p l ∧ Gr b (w.alloc (.cells #[.pointer (some ⟨b, 0, none⟩)] 24)) w') := by
      refine do_first b w.heap.size n g l hnl.symm hn hx _ hb0 (hK.below hK.1 hB1) (hT.call hB1) (by simp) (by omega) (by simp) hgb ?_
      have := own_sl (l := l) (by rw [← hnl]; exact hO.alloc (.cells #[.pointer (some ⟨b, 0, none⟩)] 24))
      exact this
    clear hx hK hO hT hnl
    go_enter Tryd.func19, Tryd.ntmps19
    go_wp2_with fail
    refine CD.out.mono ?_
    rintro e w2 ⟨rfl, p, hT2, hP2, hG2⟩
    have T2 : Hid (TreeAt w2 b n 1 0 (.slice none 0 0) (.pointer (some ⟨p, 0, none⟩))) := hT2
    have P2 : Hid (Pt w2 p l) := hP2
    have G2 : Hid (Gr b w w2) := (Gr.of hB1).trans hG2
    have cp : w2.cell? ⟨w.heap.size, 0, none⟩ = some (.pointer (some ⟨b, 0, none⟩)) := by
      refine (World.cell?_of_block (a := ⟨w.heap.size, 0, none⟩) (hG2.block w.heap.size (by simp) (fun e => by injection e; omega))).trans (by simp)
    have c5 := hT2.cells.2.2.2.2.2
    clear hT2 hP2 hG2 CD hB1
    go_wp2
    go_ret
    exact ⟨p, rfl, P2.out, ⟨hb0, .inr ⟨p, by rw [← HN.out]; exact T2.out, P2.out⟩⟩, G2.out⟩
  · have hbl := hT.lt
    have T1 : Hid (TreeAt (w.alloc (.cells #[.pointer (some ⟨b, 0, none⟩)] 24)) b n 1 0 (.slice none 0 0) (.pointer (some ⟨p, 0, none⟩))) := hT.call hB1
    have CD : Hid (Calls Tryd.prog 36 #[.pointer (some ⟨b, 1, none⟩), .func (.func 37) #[] #[.pointer (some ⟨w.heap.size, 0, none⟩)]] (w.alloc (.cells #[.pointer (some ⟨b, 0, none⟩)] 24)) fun e w' => e = .returned (.tuple #[]) ∧ w.alloc (.cells #[.pointer (some ⟨b, 0, none⟩)] 24) = w') := do_done b _ _ T1.out.cells.2.1
    have HP : Hid (Pt w p l) := hP
    have c5 := T1.out.cells.2.2.2.2.2
    have HB1 : Hid (Below w.heap.size w (w.alloc (.cells #[.pointer (some ⟨b, 0, none⟩)] 24))) := hB1
    clear hx hK hT hP hnl hB1
    go_enter Tryd.func19, Tryd.ntmps19
    go_wp2_with fail
    refine CD.out.mono ?_
    rintro e w2 ⟨rfl, rfl⟩
    go_wp2
    go_ret
    exact ⟨p, rfl, HP.out.call HB1.out, ⟨hb0, .inr ⟨p, by rw [← HN.out]; exact T1.out, HP.out.call HB1.out⟩⟩, Gr.of HB1.out⟩
end Go.Proofs.YtoldfepeldbcpaaDoor
