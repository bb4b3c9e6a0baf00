/- Several texts, joined: MkK, MkL, MkN -/
import Derived.Test.YtcoaipcgpfpfiaaGreatDoorMkJM
/- The Once of a tree: its digests are made at the first asking, and stay. -/
namespace Go.Proofs.YtcoaipcgpfpfiaaGreatDoor
open Go.RowKit
attribute [local go_sem ↓] Go.wp_at_zero Go.wp_at_succ
theorem bload_c (a : Addr) (x : Int) (w : World) (h : w.cell? a = some (.int .u32 x)) :
    Calls Tryz.prog 71 #[.pointer (some a)] w fun e w' => e = .returned (.bool (x != 0)) ∧ w = w' := by
  have hl := run_call_load (P := Tryz.prog) Tryz.func82 (by kernel_rfl) (by kernel_rfl) (by kernel_rfl) .u32 (by kernel_rfl) h
  go_enter Tryz.func71, Tryz.ntmps71
  go_wp2
  go_ret
  exact ⟨rfl, rfl⟩
set_option maxHeartbeats 4000000 in
set_option maxRecDepth 100000 in
theorem dosl_c (b pl n : Nat) (g : Nat) (l : List (List UInt8)) (hl : l.length = n) (hn : n ≤ 1024) (hx : ∀ x ∈ l, x.length ≤ 140737488355328) (w : World) (hb0 : 0 < b) (hK : HasK w) (hT : TreeAt w b n 0 0 (.slice (some ⟨g, 0, none⟩) n n) (.pointer none)) (hp : w.cell? ⟨pl, 0, none⟩ = some (.pointer (some ⟨b, 0, none⟩))) (hpb : pl ≠ b) (hpl : pl < w.heap.size) (hgb : g ≠ b) (hS : Sl w w.heap.size (.slice (some ⟨g, 0, none⟩) n n) l) :
    Calls Tryz.prog 72 #[.pointer (some ⟨b, 1, none⟩), .func (.func 42) #[] #[.pointer (some ⟨pl, 0, none⟩)]] w fun e w' => e = .returned (.tuple #[]) ∧ ∃ p, TreeAt w' b n 1 0 (.slice none 0 0) (.pointer (some ⟨p, 0, none⟩)) ∧ Pt w' p l ∧ Gr b w w' := by
  obtain ⟨d0, d1, d2, d3, d4, d5⟩ := hT.cells
  have fz := hT.free
  have T1 : Hid (TreeAt (w.setCell ⟨b, 2, none⟩ (.int .i32 1)) b n 0 1 (.slice (some ⟨g, 0, none⟩) n n) (.pointer none)) := hT.state 1
  have G1 : Hid (Gr b w (w.setCell ⟨b, 2, none⟩ (.int .i32 1))) := Gr.set b 2 w _
  have S1 : Hid (Sl (w.setCell ⟨b, 2, none⟩ (.int .i32 1)) w.heap.size (.slice (some ⟨g, 0, none⟩) n n) l) := by
    show RowOf _ _ _ _ _
    rcases hS with h | ⟨b', o', c', h1, h2, h3⟩
    · exact .inl h
    · injection h1 with e1 e2 e3
      injection e1 with e1
      injection e1 with e4 e5
      subst e4 e5
      exact .inr ⟨g, 0, _, by rw [← e2], h2, fun k x hk => (World.cell?_setCell_other _ _ _ _ (fun h => hgb (by have := congrArg Addr.block h; simpa using this.symm))).trans (h3 k x hk)⟩
  have CF : Hid (Calls Tryz.prog 42 #[.pointer (some ⟨pl, 0, none⟩)] (w.setCell ⟨b, 2, none⟩ (.int .i32 1)) fun e w' => e = .returned (.tuple #[]) ∧ ∃ p, TreeAt w' b n 0 1 (.slice none 0 0) (.pointer (some ⟨p, 0, none⟩)) ∧ Pt w' p l ∧ Gr b (w.setCell ⟨b, 2, none⟩ (.int .i32 1)) w') := by
    refine fill_c b pl n 0 1 g l hl hn hx _ (hK.gr hb0 G1.out) T1.out ?_ hpb (by simpa using hpl) (by simpa using S1.out)
    exact (World.cell?_setCell_other _ _ _ _ (fun h => hpb (by have := congrArg Addr.block h; simpa using this.symm))).trans hp
  have hnot : ∀ (x : Bool) (w : World), (Op.unary .not (.bool x)).run Tryz.prog w = .ok (.bool (!x)) w := fun _ _ => rfl
  clear hx hS hK S1 d0 d1 d3 d4 d5 hp hl
  go_enter_defers Tryz.func72, Tryz.ntmps72
  go_wp2_with (go_at_call 83; refine (lock_free ⟨b, 2, none⟩ _ (by go_simp) (by go_simp)).mono ?_; rintro e w' ⟨rfl, rfl⟩)
  refine (bload_c ⟨b, 1, none⟩ 0 _ T1.out.cells.2.1).mono ?_
  rintro e w' ⟨rfl, rfl⟩
  go_wp2_with fail
  refine CF.out.mono ?_
  rintro e w2 ⟨rfl, p, hT2, hP2, hG2⟩
  have T2 : Hid (TreeAt w2 b n 0 1 (.slice none 0 0) (.pointer (some ⟨p, 0, none⟩))) := hT2
  have P2 : Hid (Pt w2 p l) := hP2
  have G2 : Hid (Gr b w w2) := G1.out.trans hG2
  clear hT2 hP2 hG2
  go_wp2
  refine leaves_cons (f := 85) (args := #[.pointer (some ⟨b, 1, none⟩), .bool true]) (by simp) (by simp [go_sem]) ?_
  refine (store_deferred ⟨b, 1, none⟩ (.int .u32 0) .returning _ T2.out.cells.2.1 (T2.out.free 1)).mono ?_
  rintro e u' w'' ⟨rfl, rfl, rfl⟩
  have T3 : TreeAt (w2.drew.setCell ⟨b, 1, none⟩ (.int .u32 1)) b n 1 1 (.slice none 0 0) (.pointer (some ⟨p, 0, none⟩)) := T2.out.drew.done 1
  refine leaves_cons (f := 84) (args := #[.pointer (some ⟨b, 2, none⟩)]) (by simp [settle]) (by simp [go_sem]) ?_
  refine (unlock_deferred ⟨b, 2, none⟩ _ _ T3.cells.2.2.1 (T3.free 2)).mono ?_
  rintro e u' w'' ⟨rfl, rfl, rfl⟩
  have T4 := T3.state 0
  have G4 : Gr b w ((w2.drew.setCell ⟨b, 1, none⟩ (.int .u32 1)).setCell ⟨b, 2, none⟩ (.int .i32 0)) := ((G2.out.trans (Gr.drew b w2)).trans (Gr.set b 1 _ _)).trans (Gr.set b 2 _ _)
  have P4 : Pt ((w2.drew.setCell ⟨b, 1, none⟩ (.int .u32 1)).setCell ⟨b, 2, none⟩ (.int .i32 0)) p l := (P2.out.drew.gr T2.out.drew (Gr.set b 1 _ _)).gr T3 (Gr.set b 2 _ _)
  simp [Leaves, settle, results, Tryz.results72]
  exact ⟨p, T4, P4, G4⟩
set_option maxHeartbeats 4000000 in
set_option maxRecDepth 100000 in
theorem do_first (b pl n : Nat) (g : Nat) (l : List (List UInt8)) (hl : l.length = n) (hn : n ≤ 1024) (hx : ∀ x ∈ l, x.length ≤ 140737488355328) (w : World) (hb0 : 0 < b) (hK : HasK w) (hT : TreeAt w b n 0 0 (.slice (some ⟨g, 0, none⟩) n n) (.pointer none)) (hp : w.cell? ⟨pl, 0, none⟩ = some (.pointer (some ⟨b, 0, none⟩))) (hpb : pl ≠ b) (hpl : pl < w.heap.size) (hgb : g ≠ b) (hS : Sl w w.heap.size (.slice (some ⟨g, 0, none⟩) n n) l) :
    Calls Tryz.prog 41 #[.pointer (some ⟨b, 1, none⟩), .func (.func 42) #[] #[.pointer (some ⟨pl, 0, none⟩)]] w fun e w' => e = .returned (.tuple #[]) ∧ ∃ p, TreeAt w' b n 1 0 (.slice none 0 0) (.pointer (some ⟨p, 0, none⟩)) ∧ Pt w' p l ∧ Gr b w w' := by
  have CD : Hid (Calls Tryz.prog 72 #[.pointer (some ⟨b, 1, none⟩), .func (.func 42) #[] #[.pointer (some ⟨pl, 0, none⟩)]] w fun e w' => e = .returned (.tuple #[]) ∧ ∃ p, TreeAt w' b n 1 0 (.slice none 0 0) (.pointer (some ⟨p, 0, none⟩)) ∧ Pt w' p l ∧ Gr b w w') := dosl_c b pl n g l hl hn hx w hb0 hK hT hp hpb hpl hgb hS
  have CL : Hid (Calls Tryz.prog 71 #[.pointer (some ⟨b, 1, none⟩)] w fun e w' => e = .returned (.bool false) ∧ w = w') := bload_c ⟨b, 1, none⟩ 0 w hT.cells.2.1
  clear hx hS hK hT hl hp
  go_enter Tryz.func41, Tryz.ntmps41
  go_wp2_with fail
  refine CL.out.mono ?_
  rintro e w' ⟨rfl, rfl⟩
  go_wp2_with fail
  refine CD.out.mono ?_
  rintro e w2 ⟨rfl, p, hT2, hP2, hG2⟩
  have T2 : Hid (TreeAt w2 b n 1 0 (.slice none 0 0) (.pointer (some ⟨p, 0, none⟩)) ∧ Pt w2 p l ∧ Gr b w w2) := ⟨hT2, hP2, hG2⟩
  clear hT2 hP2 hG2
  go_wp2
  go_end0
  exact ⟨rfl, p, T2.out⟩
theorem do_done (b : Nat) (fv : Value) (w : World) (h : w.cell? ⟨b, 1, none⟩ = some (.int .u32 1)) :
    Calls Tryz.prog 41 #[.pointer (some ⟨b, 1, none⟩), fv] w fun e w' => e = .returned (.tuple #[]) ∧ w = w' := by
  have CL : Hid (Calls Tryz.prog 71 #[.pointer (some ⟨b, 1, none⟩)] w fun e w' => e = .returned (.bool true) ∧ w = w') := bload_c ⟨b, 1, none⟩ 1 w h
  go_enter Tryz.func41, Tryz.ntmps41
  go_wp2_with fail
  refine CL.out.mono ?_
  rintro e w' ⟨rfl, rfl⟩
  go_wp2
  go_end0
  exact ⟨rfl, rfl⟩
/-- a tree of texts, its digests made or not -/
def Tr (W : World) (b : Nat) (l : List (List UInt8)) : Prop := 0 < b ∧ ((∃ g, g ≠ b ∧ TreeAt W b l.length 0 0 (.slice (some ⟨g, 0, none⟩) l.length l.length) (.pointer none) ∧ W.ownsRow 0 9 1 (.slice (some ⟨g, 0, none⟩) l.length l.length) l.length (scs l)) ∨ ∃ p, TreeAt W b l.length 1 0 (.slice none 0 0) (.pointer (some ⟨p, 0, none⟩)) ∧ Pt W p l)
set_option maxHeartbeats 4000000 in
set_option maxRecDepth 100000 in
theorem digests_c (b : Nat) (l : List (List UInt8)) (hn : l.length ≤ 1024) (hx : ∀ x ∈ l, x.length ≤ 140737488355328) (w : World) (hK : HasK w) (hT : Tr w b l) :
    Calls Tryz.prog 19 #[.pointer (some ⟨b, 0, none⟩)] w fun e w' => ∃ p, e = .returned (.pointer (some ⟨p, 0, none⟩)) ∧ Pt w' p l ∧ Tr w' b l ∧ Gr b w w' := by
  obtain ⟨hb0, hT⟩ := hT
  have hmf : ∀ (fn : Fn) (first cap : Array Value) (w : World), (Instr.makeFunc fn first cap).run Tryz.prog w = .ok (.func fn first cap) w := fun _ _ _ _ => rfl
  obtain ⟨n, hnl⟩ : ∃ n, n = l.length := ⟨_, rfl⟩
  have HN : Hid (n = l.length) := hnl
  rw [← hnl] at hT hn
  have hB1 : Below w.heap.size w (w.alloc (.cells #[.pointer (some ⟨b, 0, none⟩)] 32)) := (Below.refl _ _).alloc (Nat.le_refl _) _
  rcases hT with ⟨g, hgb, hT, hO⟩ | ⟨p, hT, hP⟩
  · have hbl := hT.lt
    have CD : Hid (Calls Tryz.prog 41 #[.pointer (some ⟨b, 1, none⟩), .func (.func 42) #[] #[.pointer (some ⟨w.heap.size, 0, none⟩)]] (w.alloc (.cells #[.pointer (some ⟨b, 0, none⟩)] 32)) fun e w' => e = .returned (.tuple #[]) ∧ ∃ p, TreeAt w' b n 1 0 (.slice none 0 0) (.pointer (some ⟨p, 0, none⟩)) ∧ Pt w' p l ∧ Gr b (w.alloc (.cells #[.pointer (some ⟨b, 0, none⟩)] 32)) w') := by
      refine do_first b w.heap.size n g l hnl.symm hn hx _ hb0 (hK.below hK.1 hB1) (hT.call hB1) (by simp) (by omega) (by simp) hgb ?_
      have := own_sl (l := l) (by rw [← hnl]; exact hO.alloc (.cells #[.pointer (some ⟨b, 0, none⟩)] 32))
      exact this
    clear hx hK hO hT hnl
    go_enter Tryz.func19, Tryz.ntmps19
    go_wp2_with fail
    refine CD.out.mono ?_
    rintro e w2 ⟨rfl, p, hT2, hP2, hG2⟩
    have T2 : Hid (TreeAt w2 b n 1 0 (.slice none 0 0) (.pointer (some ⟨p, 0, none⟩))) := hT2
    have P2 : Hid (Pt w2 p l) := hP2
    have G2 : Hid (Gr b w w2) := (Gr.of hB1).trans hG2
    have cp : w2.cell? ⟨w.heap.size, 0, none⟩ = some (.pointer (some ⟨b, 0, none⟩)) := by
      refine (World.cell?_of_block (a := ⟨w.heap.size, 0, none⟩) (hG2.block w.heap.size (by simp) (fun e => by injection e; omega))).trans (by simp)
    have c5 := hT2.cells.2.2.2.2.2
    clear hT2 hP2 hG2 CD hB1
    go_wp2
    go_ret
    exact ⟨p, rfl, P2.out, ⟨hb0, .inr ⟨p, by rw [← HN.out]; exact T2.out, P2.out⟩⟩, G2.out⟩
  · have hbl := hT.lt
    have T1 : Hid (TreeAt (w.alloc (.cells #[.pointer (some ⟨b, 0, none⟩)] 32)) b n 1 0 (.slice none 0 0) (.pointer (some ⟨p, 0, none⟩))) := hT.call hB1
    have CD : Hid (Calls Tryz.prog 41 #[.pointer (some ⟨b, 1, none⟩), .func (.func 42) #[] #[.pointer (some ⟨w.heap.size, 0, none⟩)]] (w.alloc (.cells #[.pointer (some ⟨b, 0, none⟩)] 32)) fun e w' => e = .returned (.tuple #[]) ∧ w.alloc (.cells #[.pointer (some ⟨b, 0, none⟩)] 32) = w') := do_done b _ _ T1.out.cells.2.1
    have HP : Hid (Pt w p l) := hP
    have c5 := T1.out.cells.2.2.2.2.2
    have HB1 : Hid (Below w.heap.size w (w.alloc (.cells #[.pointer (some ⟨b, 0, none⟩)] 32))) := hB1
    clear hx hK hT hP hnl hB1
    go_enter Tryz.func19, Tryz.ntmps19
    go_wp2_with fail
    refine CD.out.mono ?_
    rintro e w2 ⟨rfl, rfl⟩
    go_wp2
    go_ret
    exact ⟨p, rfl, HP.out.call HB1.out, ⟨hb0, .inr ⟨p, by rw [← HN.out]; exact T1.out, HP.out.call HB1.out⟩⟩, Gr.of HB1.out⟩
end Go.Proofs.YtcoaipcgpfpfiaaGreatDoor
/- The parts to which turns lead, and what they leave aside; a tree's root and paths. -/
namespace Go.Proofs.YtcoaipcgpfpfiaaGreatDoor
open Go.RowKit
attribute [local go_sem ↓] Go.wp_at_zero Go.wp_at_succ
namespace Mk
theorem fits_take {n : Nat} {w : List Bool} (h : fits n (true :: w)) : 2 ≤ n ∧ fits (half n) w := h
theorem fits_drop {n : Nat} {w : List Bool} (h : fits n (false :: w)) : 2 ≤ n ∧ fits (n - half n) w := h
end Mk
/-- how far the way down is gone -/
def Down (w : World) (l : List (List UInt8)) (way : List Bool) (k pk : Nat) (don : List (List UInt8)) : Prop :=
  ∃ lk, Pt w pk lk ∧ Mk.sub l way = Mk.sub lk (way.drop k) ∧ Mk.fits lk.length (way.drop k) ∧ Mk.aside l way = don ++ Mk.aside lk (way.drop k)
theorem Down.step {w : World} {l : List (List UInt8)} {way : List Bool} {k pk : Nat} {don : List (List UInt8)} (h : Down w l way k pk don) {b : Bool} (hb : way[k]? = some b) :
    ∃ q r x, w.cell? ⟨pk, 1, none⟩ = some (.pointer (some ⟨q, 0, none⟩)) ∧ w.cell? ⟨pk, 2, none⟩ = some (.pointer (some ⟨r, 0, none⟩)) ∧ q < w.heap.size ∧ r < w.heap.size ∧ pk < w.heap.size ∧ w.cell? ⟨if b then r else q, 0, none⟩ = some (.string (bs x)) ∧ Down w l way (k + 1) (if b then q else r) (don ++ [x]) := by
  obtain ⟨lk, hP, h1, h2, h3⟩ := h
  have hd : way.drop k = b :: way.drop (k + 1) := by
    obtain ⟨hk, e⟩ := List.getElem?_eq_some_iff.1 hb
    rw [List.drop_eq_getElem_cons hk, e]
  rw [hd] at h1 h2 h3
  cases b with
  | true =>
    obtain ⟨g1, g2⟩ := Mk.fits_take h2
    obtain ⟨q, r, c1, c2, p1, p2⟩ := hP.two g1
    refine ⟨q, r, _, c1, c2, p1.lt, p2.lt, hP.lt, p2.root, ⟨_, p1, h1, ?_, ?_⟩⟩
    · rw [Mk.take_half g1]; exact g2
    · rw [h3]; simp [Mk.aside]
  | false =>
    obtain ⟨g1, g2⟩ := Mk.fits_drop h2
    obtain ⟨q, r, c1, c2, p1, p2⟩ := hP.two g1
    refine ⟨q, r, _, c1, c2, p1.lt, p2.lt, hP.lt, p1.root, ⟨_, p2, h1, ?_, ?_⟩⟩
    · rw [List.length_drop]; exact g2
    · rw [h3]; simp [Mk.aside]
set_option maxHeartbeats 4000000 in
set_option maxRecDepth 10000 in
theorem beside_c (p : Nat) (l : List (List UInt8)) (way : List Bool) (hw : way.length ≤ 1024) (hf : Mk.fits l.length way) (wa : Option Addr) (wn wc : Nat) (H : Nat) (w : World) (hH : H ≤ w.heap.size) (hP : Pt w p l) (hB : Bl w H (.slice wa wn wc) way) :
    Calls Tryz.prog 20 #[.pointer (some ⟨p, 0, none⟩), .slice wa wn wc] w fun e w' => ∃ q rv, e = .returned (.tuple #[.pointer (some ⟨q, 0, none⟩), rv]) ∧ Pt w' q (Mk.sub l way) ∧ w'.ownsRow w.heap.size 9 1 rv way.length (scs (Mk.aside l way).reverse) ∧ Below w.heap.size w w' := by
  obtain ⟨i0, hi, hz0, hz1, hz2⟩ := info_parts info9
  have HN : Hid (wn = way.length) := hB.len
  have hwn : wn ≤ 1024 := by have := HN.out; omega
  have HB : Hid (Bl w H (.slice wa wn wc) way) := hB
  have HD0 : Hid (Down w l way 0 p []) := ⟨l, hP, rfl, hf, rfl⟩
  have CR : Hid (∀ v W (z : List (List UInt8)), z.length ≤ 1024 → W.ownsRow w.heap.size 9 1 v z.length (scs z) → Calls Tryz.prog 47 #[v] W fun e w' => e = .returned (.tuple #[]) ∧ w'.ownsRow w.heap.size 9 1 v z.length (scs z.reverse) ∧ Below w.heap.size W w') := fun v W z hz hW => revs_c _ v z W (by omega) hW
  clear hB hP hf
  go_enter Tryz.func20, Tryz.ntmps20
  go_wp2
  go_loopw [0, 6, 11] (fun pv rv i wr => ∃ (k pk : Nat) (don : List (List UInt8)), k ≤ wn ∧ i = .int .i64 (k : Int) ∧ pv = .pointer (some ⟨pk, 0, none⟩) ∧ Hid (Down w l way k pk don) ∧ don.length = k ∧ wr.ownsRow w.heap.size 9 1 rv k (scs don) ∧ Below w.heap.size w wr) (fun _ _ i _ => wn - (intOf i).toNat)
  case atStart => exact ⟨0, p, [], Nat.zero_le _, rfl, rfl, HD0, rfl, ⟨rfl, .inl ⟨rfl, rfl⟩⟩, Below.refl _ _⟩
  case round =>
    obtain ⟨k, pk, don, hk, rfl, rfl, hD, hdl, hown, hnx⟩ := hrel
    clear HD0
    by_cases hlt : k < wn
    · obtain ⟨bb, bo, rfl, -, hbH, hbc⟩ := HB.out.at (by have := HN.out; omega)
      obtain ⟨b, hb⟩ : ∃ b, way[k]? = some b := ⟨_, List.getElem?_eq_getElem (by have := HN.out; omega)⟩
      obtain ⟨q, r, x, c1, c2, lq, lr, lp, cx, hD'⟩ := hD.out.step hb
      obtain ⟨s, hs⟩ : ∃ s : ByteArray, s = bs x := ⟨_, rfl⟩
      rw [← hs] at cx
      have hcb : wr.cell? ⟨bb, bo + k, none⟩ = some (.bool b) := (hnx.cell (p := ⟨bb, bo + k, none⟩) (by show bb < _; omega)).trans (hbc k b hb)
      have e1 : wr.cell? ⟨pk, 1, none⟩ = some (.pointer (some ⟨q, 0, none⟩)) := (hnx.cell (p := ⟨pk, 1, none⟩) lp).trans c1
      have e2 : wr.cell? ⟨pk, 2, none⟩ = some (.pointer (some ⟨r, 0, none⟩)) := (hnx.cell (p := ⟨pk, 2, none⟩) lp).trans c2
      have HBS : Hid (∀ k, u6.ownBlock = some k → w.heap.size ≤ k) := own_le hown
      have HO : Hid (wr.ownsRow w.heap.size 9 1 u6 k (scs don)) := hown
      have HDL : Hid (don.length = k) := hdl
      have hsz := hnx.size
      have HNS : Hid (scs (don ++ [x]) = scs don ++ [.string s]) := by show _ = _; rw [hs]; simp [scs, encS]
      have k0 : (0 : Int) ≤ (k : Int) := by omega
      have k1 : (k : Int) < (wn : Int) := by omega
      have p1 := lp
      cases b with
      | true =>
        have e3 : wr.cell? ⟨r, 0, none⟩ = some (.string s) := (hnx.cell (p := ⟨r, 0, none⟩) lr).trans cx
        have HDD : Hid (Down w l way (k + 1) q (don ++ [x])) := hD'
        have lpr : pk < wr.heap.size := Nat.lt_of_lt_of_le lp hsz
        clear hown hD hD' hbc hb c1 c2 cx hs hdl
        go_wp2_with (first | (at_builtin; refine wpList_append_own _ rfl _ _ 24 rfl w.heap.size 9 i0 (.string ⟨#[]⟩) 1 16 Tryz.underlying24 hi hz0 hz1 hz2 rfl (by decide) _ _ _ rfl (HO.out.alloc _) ⟨wr.heap.size, 0, none⟩ 1 1 [.string s] rfl rfl (cell_new _ _ _) ?c2 ?c3 ?c4 ?c5 ?_))
        case c2 => intro u hu; simp at hu; subst hu; rfl
        case c3 => unfold maxLen; omega
        case c4 => omega
        case c5 => simp; omega
        · intro v' w1 hown' hgrow _
          have R1 : Hid (w1.ownsRow w.heap.size 9 1 v' (k + 1) (scs (don ++ [x]))) := by
            show World.ownsRow _ _ _ _ _ _ _
            rw [HNS.out]; exact hown'
          have R2 : Hid (Below w.heap.size w w1) := (hnx.alloc (by omega) _).grown hgrow (by simp; omega) HBS.out
          have f1 : w1.cell? ⟨pk, 1, none⟩ = some (.pointer (some ⟨q, 0, none⟩)) := ((R2.out.cell (p := ⟨pk, 1, none⟩) lp).trans (hnx.cell (p := ⟨pk, 1, none⟩) lp).symm).trans e1
          clear hown' hgrow hnx e1 e2 e3
          go_wp2
          go_roundw
          case rel => exact ⟨k + 1, q, don ++ [x], by omega, by go_num, rfl, HDD, by rw [List.length_append, HDL.out]; rfl, R1.out, R2.out⟩
          case measure => simp [intOf]; omega
      | false =>
        have e3 : wr.cell? ⟨q, 0, none⟩ = some (.string s) := (hnx.cell (p := ⟨q, 0, none⟩) lq).trans cx
        have HDD : Hid (Down w l way (k + 1) r (don ++ [x])) := hD'
        have lpr : pk < wr.heap.size := Nat.lt_of_lt_of_le lp hsz
        clear hown hD hD' hbc hb c1 c2 cx hs hdl
        go_wp2_with (first | (at_builtin; refine wpList_append_own _ rfl _ _ 24 rfl w.heap.size 9 i0 (.string ⟨#[]⟩) 1 16 Tryz.underlying24 hi hz0 hz1 hz2 rfl (by decide) _ _ _ rfl (HO.out.alloc _) ⟨wr.heap.size, 0, none⟩ 1 1 [.string s] rfl rfl (cell_new _ _ _) ?c2 ?c3 ?c4 ?c5 ?_))
        case c2 => intro u hu; simp at hu; subst hu; rfl
        case c3 => unfold maxLen; omega
        case c4 => omega
        case c5 => simp; omega
        · intro v' w1 hown' hgrow _
          have R1 : Hid (w1.ownsRow w.heap.size 9 1 v' (k + 1) (scs (don ++ [x]))) := by
            show World.ownsRow _ _ _ _ _ _ _
            rw [HNS.out]; exact hown'
          have R2 : Hid (Below w.heap.size w w1) := (hnx.alloc (by omega) _).grown hgrow (by simp; omega) HBS.out
          have f2 : w1.cell? ⟨pk, 2, none⟩ = some (.pointer (some ⟨r, 0, none⟩)) := ((R2.out.cell (p := ⟨pk, 2, none⟩) lp).trans (hnx.cell (p := ⟨pk, 2, none⟩) lp).symm).trans e2
          clear hown' hgrow hnx e1 e2 e3
          go_wp2
          go_roundw
          case rel => exact ⟨k + 1, r, don ++ [x], by omega, by go_num, rfl, HDD, by rw [List.length_append, HDL.out]; rfl, R1.out, R2.out⟩
          case measure => simp [intOf]; omega
    · have hkn : k = wn := by omega
      subst hkn
      obtain ⟨lk, hP, h1, h2, h3⟩ := hD.out
      have hdr : way.drop k = [] := List.drop_eq_nil_of_le (by have := HN.out; omega)
      rw [hdr] at h1 h3
      have HP : Hid (Pt w pk (Mk.sub l way)) := by show Pt _ _ _; rw [h1]; exact hP
      have HA : Hid (Mk.aside l way = don) := by show _ = _; rw [h3]; simp [Mk.aside]
      have HO : Hid (wr.ownsRow w.heap.size 9 1 u6 don.length (scs don)) := by show World.ownsRow _ _ _ _ _ _ _; rw [hdl]; exact hown
      have HDL : Hid (don.length = k) := hdl
      have HNX : Hid (Below w.heap.size w wr) := hnx
      have hd24 : don.length ≤ 1024 := by omega
      clear hD hP h1 h2 h3 hdr hown hnx hdl
      go_wp2_with fail
      refine (CR.out u6 wr don hd24 HO.out).mono ?_
      rintro e w2 ⟨rfl, ho2, hb2⟩
      have HO2 : Hid (w2.ownsRow w.heap.size 9 1 u6 don.length (scs don.reverse)) := ho2
      have HB2 : Hid (Below w.heap.size w w2) := HNX.out.trans hb2
      clear ho2 hb2
      go_wp2
      go_ret2
      refine ⟨pk, u6, rfl, HP.out.call HB2.out, ?_, HB2.out⟩
      rw [HA.out, ← HN.out, ← HDL.out]
      exact HO2.out
end Go.Proofs.YtcoaipcgpfpfiaaGreatDoor
/- A tree's root and its paths. -/
namespace Go.Proofs.YtcoaipcgpfpfiaaGreatDoor
open Go.RowKit
attribute [local go_sem ↓] Go.wp_at_zero Go.wp_at_succ
theorem Tr.cells {W : World} {b : Nat} {l : List (List UInt8)} (h : Tr W b l) : W.cell? ⟨b, 0, none⟩ = some (.int .i64 (l.length : Int)) ∧ b < W.heap.size ∧ 0 < b := by
  rcases h with ⟨h0, ⟨g, _, h, _⟩ | ⟨p, h, _⟩⟩
  · exact ⟨h.cells.1, h.lt, h0⟩
  · exact ⟨h.cells.1, h.lt, h0⟩
/-- a tree stays where nothing that was there has turned -/
theorem Tr.call {W W' : World} {b : Nat} {l : List (List UInt8)} (h : Tr W b l) (hb : Below W.heap.size W W') : Tr W' b l := by
  rcases h with ⟨h0, ⟨g, h1, h2, h3⟩ | ⟨p, h1, h2⟩⟩
  · exact ⟨h0, .inl ⟨g, h1, h2.call hb, own_stays h3 hb⟩⟩
  · exact ⟨h0, .inr ⟨p, h1.call hb, h2.call hb⟩⟩
/-- a tree stays where another tree's block turns -/
theorem Tr.gr {W W' : World} {b b2 : Nat} {l l2 : List (List UInt8)} (h : Tr W b l) (h2 : Tr W b2 l2) (hne : b ≠ b2) (hg : Gr b2 W W') : Tr W' b l := by
  have key : ∀ (k : Nat) C t, t ≠ 65 ∨ k = b → W.heap[k]? = some (.cells C t (0, 0)) → W'.heap[k]? = some (.cells C t (0, 0)) := by
    intro k C t ht e
    refine (hg.block k (Array.getElem?_eq_some_iff.1 e).1 (fun q => ?_)).trans e
    injection q with q
    subst q
    rcases ht with ht | ht
    · rcases h2 with ⟨_, ⟨g, _, h2, _⟩ | ⟨p, h2, _⟩⟩
      · rw [h2] at e; simp at e; exact ht e.2.symm
      · rw [h2] at e; simp at e; exact ht e.2.symm
    · exact hne ht.symm
  rcases h with ⟨h0, ⟨g, h1, h3, h4⟩ | ⟨p, h1, h3⟩⟩
  · refine ⟨h0, .inl ⟨g, h1, key b _ _ (.inr rfl) h3, h4.1, ?_⟩⟩
    rcases h4.2 with h5 | ⟨g', cap, cur, h5, h6, h7, h8⟩
    · exact .inl h5
    · exact .inr ⟨g', cap, cur, h5, h6, key g' _ _ (.inl (by decide)) h7, h8⟩
  · exact ⟨h0, .inr ⟨p, key b _ _ (.inr rfl) h1, h3.stays fun k C e => key k C _ (.inl (by decide)) e⟩⟩
theorem TrN.tr {W : World} {b : Nat} {l : List (List UInt8)} (h : TrN W b l) (hb : 0 < b) : Tr W b l := by
  obtain ⟨g, h1, h2⟩ := h
  refine ⟨hb, .inl ⟨g, ?_, h1, h2⟩⟩
  intro e
  subst e
  rcases h2.2 with ⟨h, _⟩ | ⟨g', cap, cur, h3, _, h4, _⟩
  · cases h
  · injection h3 with h3
    injection h3 with h3
    injection h3 with h3
    subst h3
    rw [h1] at h4
    simp at h4
set_option maxHeartbeats 2000000 in
theorem root_c (b : Nat) (l : List (List UInt8)) (hn : l.length ≤ 1024) (hx : ∀ x ∈ l, x.length ≤ 140737488355328) (w : World) (hK : HasK w) (hT : Tr w b l) :
    Calls Tryz.prog 11 #[.pointer (some ⟨b, 0, none⟩)] w fun e w' => e = .returned (.string (bs (Mk.root l))) ∧ Tr w' b l ∧ Gr b w w' := by
  have CD : Hid (Calls Tryz.prog 19 #[.pointer (some ⟨b, 0, none⟩)] w fun e w' => ∃ p, e = .returned (.pointer (some ⟨p, 0, none⟩)) ∧ Pt w' p l ∧ Tr w' b l ∧ Gr b w w') := digests_c b l hn hx w hK hT
  obtain ⟨r, hr⟩ : ∃ r : ByteArray, r = bs (Mk.root l) := ⟨_, rfl⟩
  have hrs : r.size ≤ 281474976710656 := by rw [hr, bs_size, Mk.root_length]; omega
  have HR : Hid (r = bs (Mk.root l)) := hr
  rw [← hr]
  clear hx hK hT hr
  go_enter Tryz.func11, Tryz.ntmps11
  go_wp2_with fail
  refine CD.out.mono ?_
  rintro e w1 ⟨p, rfl, hP, hT, hG⟩
  have c0 : w1.cell? ⟨p, 0, none⟩ = some (.string r) := by rw [HR.out]; exact hP.root
  have T1 : Hid (Tr w1 b l ∧ Gr b w w1) := ⟨hT, hG⟩
  clear hP hT hG
  go_wp2_with fail
  refine (sclone_c r hrs _).mono ?_
  rintro e w2 ⟨rfl, hb⟩
  have T2 : Hid (Tr w2 b l ∧ Gr b w w2) := ⟨T1.out.1.call hb, T1.out.2.trans (Gr.of hb)⟩
  clear hb
  go_wp2
  go_ret
  exact ⟨rfl, T2.out⟩
theorem root_nil (w : World) : Calls Tryz.prog 11 #[.pointer none] w fun e w' => e = .returned (.string ⟨#[]⟩) ∧ w = w' := by
  go_enter Tryz.func11, Tryz.ntmps11
  go_wp2
  go_ret
  exact ⟨rfl, rfl⟩
theorem path_nil (i : Int) (w : World) : Calls Tryz.prog 7 #[.pointer none, .int .i64 i] w fun e w' => e = .returned (.tuple #[.slice none 0 0, .int .i64 1]) ∧ w = w' := by
  go_enter Tryz.func7, Tryz.ntmps7
  go_wp2
  go_ret2
  exact ⟨rfl, rfl⟩
set_option maxHeartbeats 2000000 in
theorem path_out (b n : Nat) (i : Int) (w : World) (h : w.cell? ⟨b, 0, none⟩ = some (.int .i64 (n : Int))) (hi : i < 0 ∨ (n : Int) ≤ i) :
    Calls Tryz.prog 7 #[.pointer (some ⟨b, 0, none⟩), .int .i64 i] w fun e w' => e = .returned (.tuple #[.slice none 0 0, .int .i64 2]) ∧ w = w' := by
  rcases hi with hi | hi
  · go_enter Tryz.func7, Tryz.ntmps7
    go_wp2
    go_ret2
    exact ⟨rfl, rfl⟩
  · by_cases h0 : i < 0
    · go_enter Tryz.func7, Tryz.ntmps7
      go_wp2
      go_ret2
      exact ⟨rfl, rfl⟩
    · go_enter Tryz.func7, Tryz.ntmps7
      go_wp2
      go_ret2
      exact ⟨rfl, rfl⟩
set_option maxHeartbeats 8000000 in
set_option maxRecDepth 10000 in
theorem path_in (b : Nat) (l : List (List UInt8)) (hn : l.length ≤ 1024) (hx : ∀ x ∈ l, x.length ≤ 140737488355328) (i : Nat) (hi : i < l.length) (w : World) (hK : HasK w) (hT : Tr w b l) :
    Calls Tryz.prog 7 #[.pointer (some ⟨b, 0, none⟩), .int .i64 (i : Int)] w fun e w' => ∃ g m, e = .returned (.tuple #[.slice (some ⟨g, 0, none⟩) m m, .int .i64 0]) ∧ w'.ownsRow w.heap.size 9 1 (.slice (some ⟨g, 0, none⟩) m m) m (scs (Mk.path l i)) ∧ Tr w' b l ∧ Gr b w w' := by
  obtain ⟨c0, lb, b0⟩ := hT.cells
  obtain ⟨n, hnl⟩ : ∃ n, n = l.length := ⟨_, rfl⟩
  rw [← hnl] at c0 hn hi
  have HN : Hid (n = l.length) := hnl
  obtain ⟨way, hway⟩ : ∃ way, way = Mk.tw Mk.e1 (i + 1) n := ⟨_, rfl⟩
  have hlen : way.length ≤ 10 := by rw [hway]; exact Mk.tw_len _ 10 _ _ (by omega)
  have HF : Hid (Mk.fits l.length way) := by show Mk.fits _ _; rw [hway, ← HN.out]; exact Mk.fits_tw _ _ _
  have HPA : Hid (Mk.path l i = (Mk.aside l way).reverse) := by show _ = _; rw [Mk.path, hway, ← HN.out]
  have CD : Hid (∀ W, Below w.heap.size w W → Calls Tryz.prog 19 #[.pointer (some ⟨b, 0, none⟩)] W fun e w' => ∃ p, e = .returned (.pointer (some ⟨p, 0, none⟩)) ∧ Pt w' p l ∧ Tr w' b l ∧ Gr b W w') := fun W hW => digests_c b l (by rw [← hnl]; exact hn) hx W (hK.below hK.1 hW) (hT.call hW)
  have CT : Hid (∀ W, Calls Tryz.prog 21 #[.int .i64 (i : Int), .int .i64 (n : Int)] W fun e w' => ∃ v, e = .returned v ∧ w'.ownsRow W.heap.size 4 1 v way.length (bcs way) ∧ Below W.heap.size W w') := fun W => by
    rw [hway]; exact toText_c i n hi hn W
  have q1 : ¬ (i : Int) < 0 := by omega
  have q2 : ¬ (n : Int) ≤ (i : Int) := by omega
  have q3 : (i : Int) < (n : Int) := by omega
  obtain ⟨m, hm⟩ : ∃ m, m = way.length := ⟨_, rfl⟩
  have HM : Hid (m = way.length) := hm
  rw [← hm] at hlen CT
  clear hx hK hT hnl hway hm
  go_enter Tryz.func7, Tryz.ntmps7
  have CB : Hid (∀ W p wa wn wc, Pt W p l → Bl W W.heap.size (.slice wa wn wc) way → Calls Tryz.prog 20 #[.pointer (some ⟨p, 0, none⟩), .slice wa wn wc] W fun e w' => ∃ q ra rc, e = .returned (.tuple #[.pointer (some ⟨q, 0, none⟩), .slice ra m rc]) ∧ Sl w' w'.heap.size (.slice ra m rc) (Mk.path l i) ∧ Below W.heap.size W w') := fun W p wa wn wc hP hB => by
    refine (beside_c p l way (by rw [← HM.out]; omega) HF.out wa wn wc W.heap.size W (Nat.le_refl _) hP hB).mono ?_
    rintro e w' ⟨q, rv, rfl, _, ho, hb⟩
    rw [← HPA.out] at ho
    have hlp : (Mk.path l i).length = way.length := by rw [HPA.out, List.length_reverse, Mk.aside_length]
    have hs := own_sl (l := Mk.path l i) (by rw [hlp]; exact ho)
    obtain ⟨ra, rc, rfl⟩ := hs.form
    rw [hlp, ← HM.out] at hs ⊢
    exact ⟨q, ra, rc, rfl, hs, hb⟩
  have CC : Hid (∀ W ra rc, Sl W W.heap.size (.slice ra m rc) (Mk.path l i) → Calls Tryz.prog 18 #[.slice ra m rc] W fun e w' => ∃ g, e = .returned (.slice (some ⟨g, 0, none⟩) m m) ∧ w'.ownsRow W.heap.size 9 1 (.slice (some ⟨g, 0, none⟩) m m) m (scs (Mk.path l i)) ∧ Below W.heap.size W w') := fun W ra rc hS => by
    have hlp : (Mk.path l i).length = m := by rw [HPA.out, List.length_reverse, Mk.aside_length, HM.out]
    exact clones_c ra rc m W.heap.size (Mk.path l i) (by omega) (fun x hx => by rw [HPA.out] at hx; have := Mk.aside_32 way l x (by simpa using hx); omega) W (Nat.le_refl _) hS
  go_wp2
  go_region_law (first
    | (go_simp; go_at_call 19; refine (CD.out _ ?_).mono ?_; (first | exact Below.refl _ _ | exact (Below.refl _ _).drew); rintro e w1 ⟨p, rfl, hP1, hT1, hG1⟩
       have T1 : Hid (Tr w1 b l ∧ Gr b w w1 ∧ Pt w1 p l) := ⟨hT1, (by first | exact (Gr.drew _ _).trans hG1 | exact hG1), hP1⟩
       have c1 : w1.cell? ⟨b, 0, none⟩ = some (.int .i64 (n : Int)) := (by rw [HN.out]; exact hT1.cells.1)
       clear hP1 hT1 hG1)
    | (go_simp; go_at_call 21; refine (CT.out _).mono ?_; rintro e w2 ⟨v, rfl, ho2, hb2⟩
       have B2 : Hid (Below w1.heap.size w1 w2) := (by first | exact (Below.refl _ _).drew.trans hb2 | exact hb2)
       have L2 : Hid (Bl w2 w2.heap.size v way) := own_bl (base := w1.heap.size) (by rw [← HM.out]; exact ho2)
       obtain ⟨wa, wc, hv⟩ := L2.out.form
       subst hv
       clear ho2 hb2)
    | (go_simp; go_at_call 20; refine (CB.out _ _ _ _ _ ?_ ?_).mono ?_; (first | exact T1.out.2.2.call B2.out | exact (T1.out.2.2.call B2.out).drew); (first | exact L2.out | exact L2.out.drew); rintro e w3 ⟨q, ra, rc, rfl, hs3, hb3⟩
       have B3 : Hid (Below w2.heap.size w2 w3) := (by first | exact (Below.refl _ _).drew.trans hb3 | exact hb3)
       have S3 : Hid (Sl w3 w3.heap.size (.slice ra m rc) (Mk.path l i)) := hs3
       clear hs3 hb3))
  all_goals
    have T3 : Hid (Tr w3 b l ∧ Gr b w w3) := ⟨(T1.out.1.call B2.out).call B3.out, (T1.out.2.1.trans (Gr.of B2.out)).trans (Gr.of B3.out)⟩
    clear T1 B2 B3 CD CT CB L2
    go_wp2_with fail
    refine (CC.out _ _ _ (by first | exact S3.out | exact S3.out.drew)).mono ?_
    rintro e w4 ⟨g, rfl, ho4, hb4⟩
    have T4 : Hid (Tr w4 b l ∧ Gr b w w4) := (by first | exact ⟨T3.out.1.call hb4, T3.out.2.trans (Gr.of hb4)⟩ | exact ⟨(T3.out.1.call (Below.drew (Below.refl _ _))).call hb4, (T3.out.2.trans (Gr.drew _ _)).trans (Gr.of hb4)⟩)
    have O4 : Hid (w4.ownsRow w.heap.size 9 1 (.slice (some ⟨g, 0, none⟩) m m) m (scs (Mk.path l i))) := own_mono ho4 (by first | exact T3.out.2.size | (show _ ≤ w3.heap.size; exact T3.out.2.size))
    clear ho4 hb4
    go_wp2
    go_ret2
    exact ⟨g, m, rfl, O4.out, T4.out⟩
end Go.Proofs.YtcoaipcgpfpfiaaGreatDoor
