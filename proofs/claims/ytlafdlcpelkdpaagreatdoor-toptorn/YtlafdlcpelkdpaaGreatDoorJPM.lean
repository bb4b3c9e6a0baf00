/- Several texts, joined: MkK, MkL, MkN -/
import Derived.Test.YtlafdlcpelkdpaaGreatDoorMkJM
/- The Once of a tree: its digests are made at the first asking, and stay. -/
namespace Go.Proofs.YtlafdlcpelkdpaaGreatDoor
open Go.RowKit
attribute [local go_sem ↓] Go.wp_at_zero Go.wp_at_succ
theorem bload_c (a : Addr) (x : Int) (w : World) (h : w.cell? a = some (.int .u32 x)) :
    Calls Tryz.prog 107 #[.pointer (some a)] w fun e w' => e = .returned (.bool (x != 0)) ∧ w = w' := by
  have hl := run_call_load (P := Tryz.prog) Tryz.func112 (by kernel_rfl) (by kernel_rfl) (by kernel_rfl) .u32 (by kernel_rfl) h
  go_enter Tryz.func107, Tryz.ntmps107
  go_wp2
  go_ret
  exact ⟨rfl, rfl⟩
set_option maxHeartbeats 4000000 in
set_option maxRecDepth 100000 in
theorem dosl_c (b pl n : Nat) (g : Nat) (l : List (List UInt8)) (hl : l.length = n) (hn : n ≤ 1024) (hx : ∀ x ∈ l, x.length ≤ 140737488355328) (w : World) (_ : 0 < b) (hK : HasK w) (hT : TreeAt w b n 0 0 (.slice (some ⟨g, 0, none⟩) n n) (.pointer none)) (hp : w.cell? ⟨pl, 0, none⟩ = some (.pointer (some ⟨b, 0, none⟩))) (hpb : pl ≠ b) (hpl : pl < w.heap.size) (hgb : g ≠ b) (hS : Sl w w.heap.size (.slice (some ⟨g, 0, none⟩) n n) l) :
    Calls Tryz.prog 108 #[.pointer (some ⟨b, 1, none⟩), .func (.func 98) #[] #[.pointer (some ⟨pl, 0, none⟩)]] w fun e w' => e = .returned (.tuple #[]) ∧ ∃ p, TreeAt w' b n 1 0 (.slice none 0 0) (.pointer (some ⟨p, 0, none⟩)) ∧ Pt w' p l ∧ Gr b w w' := by
  obtain ⟨d0, d1, d2, d3, d4, d5⟩ := hT.cells
  have fz := hT.free
  have T1 : Hid (TreeAt (w.setCell ⟨b, 2, none⟩ (.int .i32 1)) b n 0 1 (.slice (some ⟨g, 0, none⟩) n n) (.pointer none)) := hT.state 1
  have G1 : Hid (Gr b w (w.setCell ⟨b, 2, none⟩ (.int .i32 1))) := Gr.set b 2 w _
  have S1 : Hid (Sl (w.setCell ⟨b, 2, none⟩ (.int .i32 1)) w.heap.size (.slice (some ⟨g, 0, none⟩) n n) l) := by
    show RowOf _ _ _ _ _
    rcases hS with h | ⟨b', o', c', h1, h2, h3⟩
    · exact .inl h
    · injection h1 with e1 e2 e3
      injection e1 with e1
      injection e1 with e4 e5
      subst e4 e5
      exact .inr ⟨g, 0, _, by rw [← e2], h2, fun k x hk => (World.cell?_setCell_other _ _ _ _ (fun h => hgb (by have := congrArg Addr.block h; simpa using this.symm))).trans (h3 k x hk)⟩
  have CF : Hid (Calls Tryz.prog 98 #[.pointer (some ⟨pl, 0, none⟩)] (w.setCell ⟨b, 2, none⟩ (.int .i32 1)) fun e w' => e = .returned (.tuple #[]) ∧ ∃ p, TreeAt w' b n 0 1 (.slice none 0 0) (.pointer (some ⟨p, 0, none⟩)) ∧ Pt w' p l ∧ Gr b (w.setCell ⟨b, 2, none⟩ (.int .i32 1)) w') := by
    refine fill_c b pl n 0 1 g l hl hn hx _ (hK.gr hT.cells.1 G1.out) T1.out ?_ hpb (by simpa using hpl) (by simpa using S1.out)
    exact (World.cell?_setCell_other _ _ _ _ (fun h => hpb (by have := congrArg Addr.block h; simpa using this.symm))).trans hp
  have hnot : ∀ (x : Bool) (w : World), (Op.unary .not (.bool x)).run Tryz.prog w = .ok (.bool (!x)) w := fun _ _ => rfl
  clear hx hS hK S1 d0 d1 d3 d4 d5 hp hl
  go_enter_defers Tryz.func108, Tryz.ntmps108
  go_wp2_with (go_at_call 113; refine (lock_free ⟨b, 2, none⟩ _ (by go_simp) (by go_simp)).mono ?_; rintro e w' ⟨rfl, rfl⟩)
  refine (bload_c ⟨b, 1, none⟩ 0 _ T1.out.cells.2.1).mono ?_
  rintro e w' ⟨rfl, rfl⟩
  go_wp2_with fail
  refine CF.out.mono ?_
  rintro e w2 ⟨rfl, p, hT2, hP2, hG2⟩
  have T2 : Hid (TreeAt w2 b n 0 1 (.slice none 0 0) (.pointer (some ⟨p, 0, none⟩))) := hT2
  have P2 : Hid (Pt w2 p l) := hP2
  have G2 : Hid (Gr b w w2) := G1.out.trans hG2
  clear hT2 hP2 hG2
  go_wp2
  refine leaves_cons (f := 115) (args := #[.pointer (some ⟨b, 1, none⟩), .bool true]) (by simp) (by simp [go_sem]) ?_
  refine (store_deferred ⟨b, 1, none⟩ (.int .u32 0) .returning _ T2.out.cells.2.1 (T2.out.free 1)).mono ?_
  rintro e u' w'' ⟨rfl, rfl, rfl⟩
  have T3 : TreeAt (w2.drew.setCell ⟨b, 1, none⟩ (.int .u32 1)) b n 1 1 (.slice none 0 0) (.pointer (some ⟨p, 0, none⟩)) := T2.out.drew.done 1
  refine leaves_cons (f := 114) (args := #[.pointer (some ⟨b, 2, none⟩)]) (by simp [settle]) (by simp [go_sem]) ?_
  refine (unlock_deferred ⟨b, 2, none⟩ _ _ T3.cells.2.2.1 (T3.free 2)).mono ?_
  rintro e u' w'' ⟨rfl, rfl, rfl⟩
  have T4 := T3.state 0
  have G4 : Gr b w ((w2.drew.setCell ⟨b, 1, none⟩ (.int .u32 1)).setCell ⟨b, 2, none⟩ (.int .i32 0)) := ((G2.out.trans (Gr.drew b w2)).trans (Gr.set b 1 _ _)).trans (Gr.set b 2 _ _)
  have P4 : Pt ((w2.drew.setCell ⟨b, 1, none⟩ (.int .u32 1)).setCell ⟨b, 2, none⟩ (.int .i32 0)) p l := (P2.out.drew.gr T2.out.drew (Gr.set b 1 _ _)).gr T3 (Gr.set b 2 _ _)
  simp [Leaves, settle, results, Tryz.results108]
  exact ⟨p, T4, P4, G4⟩
set_option maxHeartbeats 4000000 in
set_option maxRecDepth 100000 in
theorem do_first (b pl n : Nat) (g : Nat) (l : List (List UInt8)) (hl : l.length = n) (hn : n ≤ 1024) (hx : ∀ x ∈ l, x.length ≤ 140737488355328) (w : World) (hb0 : 0 < b) (hK : HasK w) (hT : TreeAt w b n 0 0 (.slice (some ⟨g, 0, none⟩) n n) (.pointer none)) (hp : w.cell? ⟨pl, 0, none⟩ = some (.pointer (some ⟨b, 0, none⟩))) (hpb : pl ≠ b) (hpl : pl < w.heap.size) (hgb : g ≠ b) (hS : Sl w w.heap.size (.slice (some ⟨g, 0, none⟩) n n) l) :
    Calls Tryz.prog 97 #[.pointer (some ⟨b, 1, none⟩), .func (.func 98) #[] #[.pointer (some ⟨pl, 0, none⟩)]] w fun e w' => e = .returned (.tuple #[]) ∧ ∃ p, TreeAt w' b n 1 0 (.slice none 0 0) (.pointer (some ⟨p, 0, none⟩)) ∧ Pt w' p l ∧ Gr b w w' := by
  have CD : Hid (Calls Tryz.prog 108 #[.pointer (some ⟨b, 1, none⟩), .func (.func 98) #[] #[.pointer (some ⟨pl, 0, none⟩)]] w fun e w' => e = .returned (.tuple #[]) ∧ ∃ p, TreeAt w' b n 1 0 (.slice none 0 0) (.pointer (some ⟨p, 0, none⟩)) ∧ Pt w' p l ∧ Gr b w w') := dosl_c b pl n g l hl hn hx w hb0 hK hT hp hpb hpl hgb hS
  have CL : Hid (Calls Tryz.prog 107 #[.pointer (some ⟨b, 1, none⟩)] w fun e w' => e = .returned (.bool false) ∧ w = w') := bload_c ⟨b, 1, none⟩ 0 w hT.cells.2.1
  clear hx hS hK hT hl hp
  go_enter Tryz.func97, Tryz.ntmps97
  go_wp2_with fail
  refine CL.out.mono ?_
  rintro e w' ⟨rfl, rfl⟩
  go_wp2_with fail
  refine CD.out.mono ?_
  rintro e w2 ⟨rfl, p, hT2, hP2, hG2⟩
  have T2 : Hid (TreeAt w2 b n 1 0 (.slice none 0 0) (.pointer (some ⟨p, 0, none⟩)) ∧ Pt w2 p l ∧ Gr b w w2) := ⟨hT2, hP2, hG2⟩
  clear hT2 hP2 hG2
  go_wp2
  go_end0
  exact ⟨rfl, p, T2.out⟩
theorem do_done (b : Nat) (fv : Value) (w : World) (h : w.cell? ⟨b, 1, none⟩ = some (.int .u32 1)) :
    Calls Tryz.prog 97 #[.pointer (some ⟨b, 1, none⟩), fv] w fun e w' => e = .returned (.tuple #[]) ∧ w = w' := by
  have CL : Hid (Calls Tryz.prog 107 #[.pointer (some ⟨b, 1, none⟩)] w fun e w' => e = .returned (.bool true) ∧ w = w') := bload_c ⟨b, 1, none⟩ 1 w h
  go_enter Tryz.func97, Tryz.ntmps97
  go_wp2_with fail
  refine CL.out.mono ?_
  rintro e w' ⟨rfl, rfl⟩
  go_wp2
  go_end0
  exact ⟨rfl, rfl⟩
/-- a tree of texts, its digests made or not -/
def Tr (W : World) (b : Nat) (l : List (List UInt8)) : Prop := 0 < b ∧ ((∃ g, g ≠ b ∧ TreeAt W b l.length 0 0 (.slice (some ⟨g, 0, none⟩) l.length l.length) (.pointer none) ∧ W.ownsRow 0 9 1 (.slice (some ⟨g, 0, none⟩) l.length l.length) l.length (scs l)) ∨ ∃ p, TreeAt W b l.length 1 0 (.slice none 0 0) (.pointer (some ⟨p, 0, none⟩)) ∧ Pt W p l)
set_option maxHeartbeats 4000000 in
set_option maxRecDepth 100000 in
theorem digests_c (b : Nat) (l : List (List UInt8)) (hn : l.length ≤ 1024) (hx : ∀ x ∈ l, x.length ≤ 140737488355328) (w : World) (hK : HasK w) (hT : Tr w b l) :
    Calls Tryz.prog 74 #[.pointer (some ⟨b, 0, none⟩)] w fun e w' => ∃ p, e = .returned (.pointer (some ⟨p, 0, none⟩)) ∧ Pt w' p l ∧ Tr w' b l ∧ Gr b w w' := by
  obtain ⟨hb0, hT⟩ := hT
  have hmf : ∀ (fn : Fn) (first cap : Array Value) (w : World), (Instr.makeFunc fn first cap).run Tryz.prog w = .ok (.func fn first cap) w := fun _ _ _ _ => rfl
  obtain ⟨n, hnl⟩ : ∃ n, n = l.length := ⟨_, rfl⟩
  have HN : Hid (n = l.length) := hnl
  rw [← hnl] at hT hn
  have hB1 : Below w.heap.size w (w.alloc (.cells #[.pointer (some ⟨b, 0, none⟩)] 112)) := (Below.refl _ _).alloc (Nat.le_refl _) _
  rcases hT with ⟨g, hgb, hT, hO⟩ | ⟨p, hT, hP⟩
  · have hbl := hT.lt
    have CD : Hid (Calls Tryz.prog 97 #[.pointer (some ⟨b, 1, none⟩), .func (.func 98) #[] #[.pointer (some ⟨w.heap.size, 0, none⟩)]] (w.alloc (.cells #[.pointer (some ⟨b, 0, none⟩)] 112)) fun e w' => e = .returned (.tuple #[]) ∧ ∃ p, TreeAt w' b n 1 0 (.slice none 0 0) (.pointer (some ⟨p, 0, none⟩)) ∧ Pt w' p l ∧ Gr b (w.alloc (.cells #[.pointer (some ⟨b, 0, none⟩)] 112)) w') := by
      refine do_first b w.heap.size n g l hnl.symm hn hx _ hb0 (hK.below hK.1 hB1) (hT.call hB1) (by simp) (by omega) (by simp) hgb ?_
      have := own_sl (l := l) (by rw [← hnl]; exact hO.alloc (.cells #[.pointer (some ⟨b, 0, none⟩)] 112))
      exact this
    clear hx hK hO hT hnl
    go_enter Tryz.func74, Tryz.ntmps74
    go_wp2_with fail
    refine CD.out.mono ?_
    rintro e w2 ⟨rfl, p, hT2, hP2, hG2⟩
    have T2 : Hid (TreeAt w2 b n 1 0 (.slice none 0 0) (.pointer (some ⟨p, 0, none⟩))) := hT2
    have P2 : Hid (Pt w2 p l) := hP2
    have G2 : Hid (Gr b w w2) := (Gr.of hB1).trans hG2
    have cp : w2.cell? ⟨w.heap.size, 0, none⟩ = some (.pointer (some ⟨b, 0, none⟩)) := by
      refine (World.cell?_of_block (a := ⟨w.heap.size, 0, none⟩) (hG2.block w.heap.size (by simp) (fun e => by injection e; omega))).trans (by simp)
    have c5 := hT2.cells.2.2.2.2.2
    clear hT2 hP2 hG2 CD hB1
    go_wp2
    go_ret
    exact ⟨p, rfl, P2.out, ⟨hb0, .inr ⟨p, by rw [← HN.out]; exact T2.out, P2.out⟩⟩, G2.out⟩
  · have hbl := hT.lt
    have T1 : Hid (TreeAt (w.alloc (.cells #[.pointer (some ⟨b, 0, none⟩)] 112)) b n 1 0 (.slice none 0 0) (.pointer (some ⟨p, 0, none⟩))) := hT.call hB1
    have CD : Hid (Calls Tryz.prog 97 #[.pointer (some ⟨b, 1, none⟩), .func (.func 98) #[] #[.pointer (some ⟨w.heap.size, 0, none⟩)]] (w.alloc (.cells #[.pointer (some ⟨b, 0, none⟩)] 112)) fun e w' => e = .returned (.tuple #[]) ∧ w.alloc (.cells #[.pointer (some ⟨b, 0, none⟩)] 112) = w') := do_done b _ _ T1.out.cells.2.1
    have HP : Hid (Pt w p l) := hP
    have c5 := T1.out.cells.2.2.2.2.2
    have HB1 : Hid (Below w.heap.size w (w.alloc (.cells #[.pointer (some ⟨b, 0, none⟩)] 112))) := hB1
    clear hx hK hT hP hnl hB1
    go_enter Tryz.func74, Tryz.ntmps74
    go_wp2_with fail
    refine CD.out.mono ?_
    rintro e w2 ⟨rfl, rfl⟩
    go_wp2
    go_ret
    exact ⟨p, rfl, HP.out.call HB1.out, ⟨hb0, .inr ⟨p, by rw [← HN.out]; exact T1.out, HP.out.call HB1.out⟩⟩, Gr.of HB1.out⟩
end Go.Proofs.YtlafdlcpelkdpaaGreatDoor
/- The parts to which turns lead, and what they leave aside; a tree's root and paths. -/
namespace Go.Proofs.YtlafdlcpelkdpaaGreatDoor
open Go.RowKit
attribute [local go_sem ↓] Go.wp_at_zero Go.wp_at_succ
namespace Mk
theorem fits_take {n : Nat} {w : List Bool} (h : fits n (true :: w)) : 2 ≤ n ∧ fits (half n) w := h
theorem fits_drop {n : Nat} {w : List Bool} (h : fits n (false :: w)) : 2 ≤ n ∧ fits (n - half n) w := h
end Mk
/-- how far the way down is gone -/
def Down (w : World) (l : List (List UInt8)) (way : List Bool) (k pk : Nat) (don : List (List UInt8)) : Prop :=
  ∃ lk, Pt w pk lk ∧ Mk.sub l way = Mk.sub lk (way.drop k) ∧ Mk.fits lk.length (way.drop k) ∧ Mk.aside l way = don ++ Mk.aside lk (way.drop k)
theorem Down.step {w : World} {l : List (List UInt8)} {way : List Bool} {k pk : Nat} {don : List (List UInt8)} (h : Down w l way k pk don) {b : Bool} (hb : way[k]? = some b) :
    ∃ q r x, w.cell? ⟨pk, 1, none⟩ = some (.pointer (some ⟨q, 0, none⟩)) ∧ w.cell? ⟨pk, 2, none⟩ = some (.pointer (some ⟨r, 0, none⟩)) ∧ q < w.heap.size ∧ r < w.heap.size ∧ pk < w.heap.size ∧ w.cell? ⟨if b then r else q, 0, none⟩ = some (.string (bs x)) ∧ Down w l way (k + 1) (if b then q else r) (don ++ [x]) := by
  obtain ⟨lk, hP, h1, h2, h3⟩ := h
  have hd : way.drop k = b :: way.drop (k + 1) := by
    obtain ⟨hk, e⟩ := List.getElem?_eq_some_iff.1 hb
    rw [List.drop_eq_getElem_cons hk, e]
  rw [hd] at h1 h2 h3
  cases b with
  | true =>
    obtain ⟨g1, g2⟩ := Mk.fits_take h2
    obtain ⟨q, r, c1, c2, p1, p2⟩ := hP.two g1
    refine ⟨q, r, _, c1, c2, p1.lt, p2.lt, hP.lt, p2.root, ⟨_, p1, h1, ?_, ?_⟩⟩
    · rw [Mk.take_half g1]; exact g2
    · rw [h3]; simp [Mk.aside]
  | false =>
    obtain ⟨g1, g2⟩ := Mk.fits_drop h2
    obtain ⟨q, r, c1, c2, p1, p2⟩ := hP.two g1
    refine ⟨q, r, _, c1, c2, p1.lt, p2.lt, hP.lt, p1.root, ⟨_, p2, h1, ?_, ?_⟩⟩
    · rw [List.length_drop]; exact g2
    · rw [h3]; simp [Mk.aside]
end Go.Proofs.YtlafdlcpelkdpaaGreatDoor
/- A tree's root and its paths. -/
namespace Go.Proofs.YtlafdlcpelkdpaaGreatDoor
open Go.RowKit
attribute [local go_sem ↓] Go.wp_at_zero Go.wp_at_succ
theorem Tr.cells {W : World} {b : Nat} {l : List (List UInt8)} (h : Tr W b l) : W.cell? ⟨b, 0, none⟩ = some (.int .i64 (l.length : Int)) ∧ b < W.heap.size ∧ 0 < b := by
  rcases h with ⟨h0, ⟨g, _, h, _⟩ | ⟨p, h, _⟩⟩
  · exact ⟨h.cells.1, h.lt, h0⟩
  · exact ⟨h.cells.1, h.lt, h0⟩
/-- a tree stays where nothing that was there has turned -/
theorem Tr.call {W W' : World} {b : Nat} {l : List (List UInt8)} (h : Tr W b l) (hb : Below W.heap.size W W') : Tr W' b l := by
  rcases h with ⟨h0, ⟨g, h1, h2, h3⟩ | ⟨p, h1, h2⟩⟩
  · exact ⟨h0, .inl ⟨g, h1, h2.call hb, own_stays h3 hb⟩⟩
  · exact ⟨h0, .inr ⟨p, h1.call hb, h2.call hb⟩⟩
/-- a tree stays where another tree's block turns -/
theorem Tr.gr {W W' : World} {b b2 : Nat} {l l2 : List (List UInt8)} (h : Tr W b l) (h2 : Tr W b2 l2) (hne : b ≠ b2) (hg : Gr b2 W W') : Tr W' b l := by
  have key : ∀ (k : Nat) C t, t ≠ 147 ∨ k = b → W.heap[k]? = some (.cells C t (0, 0)) → W'.heap[k]? = some (.cells C t (0, 0)) := by
    intro k C t ht e
    refine (hg.block k (Array.getElem?_eq_some_iff.1 e).1 (fun q => ?_)).trans e
    injection q with q
    subst q
    rcases ht with ht | ht
    · rcases h2 with ⟨_, ⟨g, _, h2, _⟩ | ⟨p, h2, _⟩⟩
      · rw [h2] at e; simp at e; exact ht e.2.symm
      · rw [h2] at e; simp at e; exact ht e.2.symm
    · exact hne ht.symm
  rcases h with ⟨h0, ⟨g, h1, h3, h4⟩ | ⟨p, h1, h3⟩⟩
  · refine ⟨h0, .inl ⟨g, h1, key b _ _ (.inr rfl) h3, h4.1, ?_⟩⟩
    rcases h4.2 with h5 | ⟨g', cap, cur, h5, h6, h7, h8⟩
    · exact .inl h5
    · exact .inr ⟨g', cap, cur, h5, h6, key g' _ _ (.inl (by decide)) h7, h8⟩
  · exact ⟨h0, .inr ⟨p, key b _ _ (.inr rfl) h1, h3.stays fun k C e => key k C _ (.inl (by decide)) e⟩⟩
theorem TrN.tr {W : World} {b : Nat} {l : List (List UInt8)} (h : TrN W b l) (hb : 0 < b) : Tr W b l := by
  obtain ⟨g, h1, h2⟩ := h
  refine ⟨hb, .inl ⟨g, ?_, h1, h2⟩⟩
  intro e
  subst e
  rcases h2.2 with ⟨h, _⟩ | ⟨g', cap, cur, h3, _, h4, _⟩
  · cases h
  · injection h3 with h3
    injection h3 with h3
    injection h3 with h3
    subst h3
    rw [h1] at h4
    simp at h4
set_option maxHeartbeats 2000000 in
theorem root_c (b : Nat) (l : List (List UInt8)) (hn : l.length ≤ 1024) (hx : ∀ x ∈ l, x.length ≤ 140737488355328) (w : World) (hK : HasK w) (hT : Tr w b l) :
    Calls Tryz.prog 56 #[.pointer (some ⟨b, 0, none⟩)] w fun e w' => e = .returned (.string (bs (Mk.root l))) ∧ Tr w' b l ∧ Gr b w w' := by
  have CD : Hid (Calls Tryz.prog 74 #[.pointer (some ⟨b, 0, none⟩)] w fun e w' => ∃ p, e = .returned (.pointer (some ⟨p, 0, none⟩)) ∧ Pt w' p l ∧ Tr w' b l ∧ Gr b w w') := digests_c b l hn hx w hK hT
  obtain ⟨r, hr⟩ : ∃ r : ByteArray, r = bs (Mk.root l) := ⟨_, rfl⟩
  have hrs : r.size ≤ 281474976710656 := by rw [hr, bs_size, Mk.root_length]; omega
  have HR : Hid (r = bs (Mk.root l)) := hr
  rw [← hr]
  clear hx hK hT hr
  go_enter Tryz.func56, Tryz.ntmps56
  go_wp2_with fail
  refine CD.out.mono ?_
  rintro e w1 ⟨p, rfl, hP, hT, hG⟩
  have c0 : w1.cell? ⟨p, 0, none⟩ = some (.string r) := by rw [HR.out]; exact hP.root
  have T1 : Hid (Tr w1 b l ∧ Gr b w w1) := ⟨hT, hG⟩
  clear hP hT hG
  go_wp2_with fail
  refine (sclone_c r hrs _).mono ?_
  rintro e w2 ⟨rfl, hb⟩
  have T2 : Hid (Tr w2 b l ∧ Gr b w w2) := ⟨T1.out.1.call hb, T1.out.2.trans (Gr.of hb)⟩
  clear hb
  go_wp2
  go_ret
  exact ⟨rfl, T2.out⟩
theorem root_nil (w : World) : Calls Tryz.prog 56 #[.pointer none] w fun e w' => e = .returned (.string ⟨#[]⟩) ∧ w = w' := by
  go_enter Tryz.func56, Tryz.ntmps56
  go_wp2
  go_ret
  exact ⟨rfl, rfl⟩
end Go.Proofs.YtlafdlcpelkdpaaGreatDoor
