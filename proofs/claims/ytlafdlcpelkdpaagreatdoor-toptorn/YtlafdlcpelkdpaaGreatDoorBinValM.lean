/- The writer's value, walked: what it holds behind a value. -/
import Derived.Test.YtlafdlcpelkdpaaGreatDoorJDM
import Derived.Test.YtlafdlcpelkdpaaGreatDoorJAM
namespace Go.Proofs.YtlafdlcpelkdpaaGreatDoor
open Go.RowKit
open Vl (V)
namespace Bn
theorem fitL_mem : ∀ (l : List V) (x : V), fitL l → x ∈ l → fit x
  | y :: r, x, h, hx => by
    rw [fitL] at h
    rcases List.mem_cons.1 hx with rfl | hx
    · exact h.1
    · exact fitL_mem r x h.2 hx
theorem fitF_mem : ∀ (l : List (ByteArray × V)) (m : ByteArray) (x : V), fitF l → (m, x) ∈ l → m.size ≤ 65536 ∧ fit x
  | (p, y) :: r, m, x, h, hx => by
    rw [fitF] at h
    rcases List.mem_cons.1 hx with e | hx
    · cases e; exact h.1
    · exact fitF_mem r m x h.2 hx
theorem runs_wrL (step : Nat → List UInt8 → List UInt8) (l : List V) (hs : ∀ j x o, l[j]? = some x → step j o = wr x o) : ∀ (m j : Nat) (o : List UInt8), m + j = l.length → runs step m j o = wrL (l.drop j) o
  | 0, j, o, h => by rw [runs, List.drop_of_length_le (by omega), wrL]
  | m + 1, j, o, h => by
    have hj : j < l.length := by omega
    rw [List.drop_eq_getElem_cons hj, runs, wrL, runs_wrL step l hs m (j + 1) _ (by omega), hs j _ o (List.getElem?_eq_getElem hj)]
theorem runs_wrF (step : Nat → List UInt8 → List UInt8) (l : List (ByteArray × V)) (hs : ∀ j m x o, l[j]? = some (m, x) → step j o = wr x (o ++ text m)) : ∀ (k j : Nat) (o : List UInt8), k + j = l.length → runs step k j o = wrF (l.drop j) o
  | 0, j, o, h => by rw [runs, List.drop_of_length_le (by omega), wrF]
  | k + 1, j, o, h => by
    have hj : j < l.length := by omega
    rw [List.drop_eq_getElem_cons hj, runs, wrF, runs_wrF step l hs k (j + 1) _ (by omega), hs j _ _ o (List.getElem?_eq_getElem hj)]
    rfl
/-- what a part of a list makes of what is held -/
def stepL (l : List V) (j : Nat) (o : List UInt8) : List UInt8 := match l[j]? with | some x => wr x o | none => o
def stepF (l : List (ByteArray × V)) (j : Nat) (o : List UInt8) : List UInt8 := match l[j]? with | some (m, x) => wr x (o ++ text m) | none => o
end Bn
/-- the two boxes -/
structure Boxes (W : World) (g B : Nat) (v v0 v1 v2 v3 v4 v5 : Value) : Prop where
  lt : B + 1 < W.heap.size
  ptr : W.heap[B]? = some (.cells #[.pointer (some ⟨g, 0, none⟩)] 157 (0, 0))
  val : W.heap[B + 1]? = some (.cells #[v0, v1, v2, v3, v4, v5] 53 (0, 0))
  ne : v.ownBlock ≠ some B ∧ v.ownBlock ≠ some (B + 1)
theorem Boxes.wrote {W W' : World} {g B : Nat} {v v' v0 v1 v2 v3 v4 v5 : Value} (h : Boxes W g B v v0 v1 v2 v3 v4 v5) (hg : g < B) (hw : Wrote g v v' W W') : Boxes W' g B v' v0 v1 v2 v3 v4 v5 :=
  ⟨Nat.lt_of_lt_of_le h.lt hw.size, (hw.block B (by have := h.lt; omega) (by omega) h.ne.1).trans h.ptr, (hw.block (B + 1) h.lt (by omega) h.ne.2).trans h.val,
    hw.keeps (by have := h.lt; omega) h.ne.1, hw.keeps h.lt h.ne.2⟩
set_option maxHeartbeats 4000000 in
set_option maxRecDepth 10000 in
theorem value42 : ∀ (N : Nat) (t : V), Vl.count t ≤ N → Bn.fit t → ∀ (g H : Nat) (o : List UInt8) (v : Value) (w : World) (tv : Value), o.length ≤ 100000 → H ≤ g → Out g o v w → Rep w H t tv →
    Calls Tryz.prog 68 #[.pointer (some ⟨g, 0, none⟩), tv] w fun e w' => e = .returned (.tuple #[]) ∧ ∃ v', Out g (Bn.wr t o) v' w' ∧ Wrote g v v' w w' := by
  intro N
  induction N with
  | zero => intro t ht; obtain ⟨k, b, n, s, l, f⟩ := t; rw [Vl.count] at ht; omega
  | succ N ih =>
    rintro ⟨k, b, n, s, l, f⟩ ht hfit g H o v w tv ho hH hout hr
    rw [Rep] at hr
    obtain ⟨ao, lc, fo, fc, rfl, h2, h3, h4, h5, h6, h7, h8⟩ := hr
    have hfit' := hfit
    rw [Bn.fit] at hfit
    obtain ⟨g0, g1, g2, g3, g4, g5, ⟨g6, g6'⟩, g7, g8, g9, g10, g11⟩ := hfit
    have C67 : Hid (∀ (x : UInt8) W, Below w.heap.size w W → Calls Tryz.prog 85 #[.pointer (some ⟨g, 0, none⟩), .int .u8 (x.toNat : Int)] W fun e w' => e = .returned (.tuple #[]) ∧ ∃ v', Out g (o ++ [x]) v' w' ∧ Wrote g v v' W w') := fun x W hW => first67 g o (by omega) x v W (hout.call hW)
    have C68 : Hid (∀ W, Below w.heap.size w W → Calls Tryz.prog 86 #[.pointer (some ⟨g, 0, none⟩), .bool b] W fun e w' => e = .returned (.tuple #[]) ∧ ∃ v', Out g (o ++ [Bn.truth b]) v' w' ∧ Wrote g v v' W w') := fun W hW => truth68 g o (by omega) b v W (hout.call hW)
    have C70 : Hid (∀ W, Calls Tryz.prog 88 #[.int .i64 n] W fun e w' => e = .returned (.int .u64 (Bn.fold n : Int)) ∧ w' = W) := fun W => folded70 n g6 g6' W
    have C69 : Hid (∀ (x : UInt8) (v1 : Value) W, Out g (o ++ [x]) v1 W → Calls Tryz.prog 87 #[.pointer (some ⟨g, 0, none⟩), .int .u64 (Bn.fold n : Int)] W fun e w' => e = .returned (.tuple #[]) ∧ ∃ v', Out g ((o ++ [x]) ++ Bn.num (Bn.fold n)) v' w' ∧ Wrote g v1 v' W w') := fun x v1 W hW => number69 g (o ++ [x]) (by rw [List.length_append]; simp; omega) (Bn.fold n) (Bn.fold_lt n g6 g6') v1 W hW
    have C71 : Hid (∀ (x : UInt8) (v1 : Value) W, Out g (o ++ [x]) v1 W → Calls Tryz.prog 89 #[.pointer (some ⟨g, 0, none⟩), .string s] W fun e w' => e = .returned (.tuple #[]) ∧ ∃ v', Out g ((o ++ [x]) ++ Bn.text s) v' w' ∧ Wrote g v1 v' W w') := fun x v1 W hW => text71 g (o ++ [x]) (by rw [List.length_append]; simp; omega) s (by omega) v1 W hW
    obtain ⟨B, hB⟩ : ∃ B, B = w.heap.size := ⟨_, rfl⟩
    have HGB : g < B := by rw [hB]; exact hout.lt
    obtain ⟨w2, hw2⟩ : ∃ w2, w2 = (w.alloc (.cells #[.pointer (some ⟨g, 0, none⟩)] 157)).alloc (.cells #[.int .u8 (k : Int), .bool b, .int .i64 n, .string s, .slice ao l.length lc, .slice fo f.length fc] 53) := ⟨_, rfl⟩
    have hb2 : Below w.heap.size w w2 := by rw [hw2]; exact (below_new _ _).trans ((below_new _ _).mono (by simp))
    have HB2 : Hid (Below w.heap.size w w2) := hb2
    have HO2 : Hid (Out g o v w2) := hout.call hb2
    have HBX : Hid (Boxes w2 g B v (.int .u8 (k : Int)) (.bool b) (.int .i64 n) (.string s) (.slice ao l.length lc) (.slice fo f.length fc)) := by
      have hlt : ∀ q, v.ownBlock = some q → q < w.heap.size := fun q hq => (hout.own.lt q hq).2
      refine ⟨by rw [hw2, hB]; simp, ?_, ?_, fun e => ?_, fun e => ?_⟩
      · rw [hw2, hB, Below.heap_alloc _ _ _ (by simp)]; exact heap_alloc_new w _
      · rw [hw2, hB]
        have := heap_alloc_new (w.alloc (.cells #[.pointer (some ⟨g, 0, none⟩)] 157)) (.cells #[.int .u8 (k : Int), .bool b, .int .i64 n, .string s, .slice ao l.length lc, .slice fo f.length fc] 53)
        simpa using this
      · have := hlt _ e; omega
      · have := hlt _ e; omega
    have CL : Hid (k = 5 → ∀ v1 W, Out g (o ++ [6]) v1 W → Wrote g v v1 w2 W → Calls Tryz.prog 90 #[.pointer (some ⟨g, 0, none⟩), .int .i64 (l.length : Int), .func (.func 91) #[] #[.pointer (some ⟨B, 0, none⟩), .pointer (some ⟨B + 1, 0, none⟩)]] W fun e w' => e = .returned (.tuple #[]) ∧ ∃ v', Out g (Bn.wrL l ((o ++ [6]) ++ Bn.num l.length)) v' w' ∧ Wrote g v1 v' W w') := by
      intro _ v1 W hO hW
      have bx := HBX.out.wrote HGB hW
      have hbW : Below g w W := (hb2.mono (Nat.le_of_lt hout.lt)).trans (hW.below HO2.out)
      refine (parts72L g B (o ++ [6]) (by rw [List.length_append]; simp; omega) l.length g8 (Bn.stepL l) v1 W hO (fun j o1 v2 W2 hj ho1 hO2 hW2 => ?_)).mono (fun e w' ⟨e1, v', e2, e3⟩ => ⟨e1, v', ?_, e3⟩)
      · obtain ⟨x, hx⟩ : ∃ x, l[j]? = some x := ⟨_, List.getElem?_eq_getElem hj⟩
        obtain ⟨ga, oa, rfl, hga, hra⟩ := h7 (by omega)
        have bx2 := bx.wrote HGB hW2
        have hbW2 : Below H w W2 := (hbW.trans (hW2.below hO)).mono hH
        have est : Bn.stepL l j o1 = Bn.wr x o1 := by rw [Bn.stepL, hx]
        rw [est]
        refine part73 g B l j x hx g8 H ga oa lc k b n s fo f.length fc o1 v2 W2 bx2.ptr bx2.val (repL_stays hbW2 (Nat.le_refl _) hga l oa hra) (fun xv W' hxr hW' => ?_)
        refine (ih x (by have := Vl.count_partL (k := k) (b := b) (n := n) (s := s) (f := f) hx; omega) (Bn.fitL_mem l x g10 (List.mem_of_getElem? hx)) g H o1 v2 W' xv (by omega) hH (hO2.call hW') (rep_stays (hW'.mono (by have := hO2.lt; omega)) (Nat.le_refl _) x xv hxr)).mono (fun e w' ⟨h1, v', h2, h3⟩ => ⟨h1, v', h2, h3.after hW'⟩)
      · rw [Bn.runs_wrL (Bn.stepL l) l (fun j x o hx => by rw [Bn.stepL, hx]) l.length 0 _ (by omega), List.drop_zero] at e2
        exact e2
    have CF : Hid (k = 6 → ∀ v1 W, Out g (o ++ [7]) v1 W → Wrote g v v1 w2 W → Calls Tryz.prog 90 #[.pointer (some ⟨g, 0, none⟩), .int .i64 (f.length : Int), .func (.func 92) #[] #[.pointer (some ⟨B, 0, none⟩), .pointer (some ⟨B + 1, 0, none⟩)]] W fun e w' => e = .returned (.tuple #[]) ∧ ∃ v', Out g (Bn.wrF f ((o ++ [7]) ++ Bn.num f.length)) v' w' ∧ Wrote g v1 v' W w') := by
      intro _ v1 W hO hW
      have bx := HBX.out.wrote HGB hW
      have hbW : Below g w W := (hb2.mono (Nat.le_of_lt hout.lt)).trans (hW.below HO2.out)
      refine (parts72F g B (o ++ [7]) (by rw [List.length_append]; simp; omega) f.length g9 (Bn.stepF f) v1 W hO (fun j o1 v2 W2 hj ho1 hO2 hW2 => ?_)).mono (fun e w' ⟨e1, v', e2, e3⟩ => ⟨e1, v', ?_, e3⟩)
      · obtain ⟨⟨m, x⟩, hx⟩ : ∃ x, f[j]? = some x := ⟨_, List.getElem?_eq_getElem hj⟩
        obtain ⟨ga, oa, rfl, hga, hra⟩ := h8 (by omega)
        have bx2 := bx.wrote HGB hW2
        have hbW2 : Below H w W2 := (hbW.trans (hW2.below hO)).mono hH
        have est : Bn.stepF f j o1 = Bn.wr x (o1 ++ Bn.text m) := by rw [Bn.stepF, hx]
        obtain ⟨hm1, hm2⟩ := Bn.fitF_mem f m x g11 (List.mem_of_getElem? hx)
        rw [est]
        refine part74 g B f j m x hx g9 H ga oa fc k b n s ao l.length lc o1 ho1 hm1 v2 W2 hO2 HGB bx2.lt bx2.ne bx2.ptr bx2.val hH hga (repF_stays hbW2 (Nat.le_refl _) hga f oa hra) (fun xv v3 W3 W' hxr hO3 hW3 hW' => ?_)
        refine (ih x (by have := Vl.count_partF (k := k) (b := b) (n := n) (s := s) (l := l) hx; omega) hm2 g H (o1 ++ Bn.text m) v3 W' xv ?_ hH (hO3.call hW') (rep_stays (hW'.mono (by have := hO3.lt; omega)) (Nat.le_refl _) x xv hxr)).mono (fun e w' ⟨h1, v', h2, h3⟩ => ⟨h1, v', h2, hW3.trans (h3.after hW')⟩)
        have := Bn.num_len10 (m := m.size) (by omega)
        rw [List.length_append, Bn.text, List.length_append, ← Lib.size_eq]
        omega
      · rw [Bn.runs_wrF (Bn.stepF f) f (fun j m x o hx => by rw [Bn.stepF, hx]) f.length 0 _ (by omega), List.drop_zero] at e2
        exact e2
    obtain ⟨nl, hnl⟩ : ∃ nl, nl = l.length := ⟨_, rfl⟩
    obtain ⟨nf, hnf⟩ : ∃ nf, nf = f.length := ⟨_, rfl⟩
    rw [← hnl, ← hnf] at hw2 HBX ⊢
    rw [← hnl] at CL
    rw [← hnf] at CF
    have E0 : Hid (k = 0 → Bn.wr ⟨k, b, n, s, l, f⟩ o = o ++ [0]) := by intro e; subst e; rw [Bn.wr]; rfl
    have E1 : Hid (k = 1 → Bn.wr ⟨k, b, n, s, l, f⟩ o = o ++ [Bn.truth b]) := by intro e; subst e; rw [Bn.wr]; rfl
    have E2 : Hid (k = 2 → Bn.wr ⟨k, b, n, s, l, f⟩ o = (o ++ [3]) ++ Bn.num (Bn.fold n)) := by intro e; subst e; rw [Bn.wr]; rfl
    have E3 : Hid (k = 3 → Bn.wr ⟨k, b, n, s, l, f⟩ o = (o ++ [4]) ++ Bn.text s) := by intro e; subst e; rw [Bn.wr]; rfl
    have E4 : Hid (k = 4 → Bn.wr ⟨k, b, n, s, l, f⟩ o = (o ++ [5]) ++ Bn.text s) := by intro e; subst e; rw [Bn.wr]; rfl
    have E5 : Hid (k = 5 → Bn.wr ⟨k, b, n, s, l, f⟩ o = Bn.wrL l ((o ++ [6]) ++ Bn.num nl)) := by intro e; subst e; rw [Bn.wr, hnl]; rfl
    have E6 : Hid (k = 6 → Bn.wr ⟨k, b, n, s, l, f⟩ o = Bn.wrF f ((o ++ [7]) ++ Bn.num nf)) := by intro e; subst e; rw [Bn.wr, hnf]; rfl
    rw [hB] at HBX CL CF HGB
    have HN : Hid (nl ≤ 64 ∧ nf ≤ 64) := ⟨by omega, by omega⟩
    have hk6 : k ≤ 6 := g0
    clear h7 h8 ih hfit' g0 g1 g2 g3 g4 g5 g6 g6' g7 g8 g9 g10 g11 hout ht ho hH h5 h6 h4 hb2 hB hnl hnf
    obtain ⟨wo, hwo⟩ : ∃ wo, wo = Bn.wr ⟨k, b, n, s, l, f⟩ o := ⟨_, rfl⟩
    rw [← hwo] at E0 E1 E2 E3 E4 E5 E6 ⊢
    clear hwo
    go_enter Tryz.func68, Tryz.ntmps68
    go_upto_region 1 with fail
    rw [← hw2]
    clear hw2
    obtain ⟨B, hB⟩ : ∃ B, B = w.heap.size := ⟨_, rfl⟩
    rw [← hB] at HBX CL CF HGB ⊢
    clear hB
    have p0 := block_cells HBX.out.ptr 0 _ rfl
    have v0 := block_cells HBX.out.val 0 _ rfl
    have v1 := block_cells HBX.out.val 1 _ rfl
    rcases Bn.seven hk6 with rfl | rfl | rfl | rfl | rfl | rfl | rfl
    · go_wp2_with (first
        | (go_at_call 85; refine (C67.out 0 _ HB2.out).mono ?_; rintro e w3 ⟨rfl, v3, h1, h2⟩
           have R1 : Hid (Out g (o ++ [0]) v3 w3) := h1
           have R2 : Hid (Wrote g v v3 w2 w3) := h2
           clear h1 h2))
      go_end0
      exact ⟨rfl, v3, by rw [E0.out (by first | rfl | trivial)]; exact R1.out, R2.out.after HB2.out⟩
    · go_wp2_with (first
        | (go_at_call 86; refine (C68.out _ HB2.out).mono ?_; rintro e w3 ⟨rfl, v3, h1, h2⟩
           have R1 : Hid (Out g (o ++ [Bn.truth b]) v3 w3) := h1
           have R2 : Hid (Wrote g v v3 w2 w3) := h2
           clear h1 h2))
      go_end0
      exact ⟨rfl, v3, by rw [E1.out (by first | rfl | trivial)]; exact R1.out, R2.out.after HB2.out⟩
    · go_wp2_with (first
        | (go_at_call 85; refine (C67.out 3 _ HB2.out).mono ?_; rintro e w3 ⟨rfl, v3, h1, h2⟩
           have R1 : Hid (Out g (o ++ [3]) v3 w3) := h1
           have R2 : Hid (Wrote g v v3 w2 w3) := h2
           have BX : Hid (Boxes w3 g B v3 (.int .u8 2) (.bool b) (.int .i64 n) (.string s) (.slice ao nl lc) (.slice fo nf fc)) := HBX.out.wrote HGB h2
           have p0 := block_cells BX.out.ptr 0 _ rfl
           have v2 := block_cells BX.out.val 2 _ rfl
           clear h1 h2))
      go_region_law (first
        | (go_simp; go_at_call 88; refine (C70.out _).mono ?_; rintro e w4 ⟨rfl, rfl⟩)
        | (go_simp; go_at_call 87; refine (C69.out 3 v3 _ (by first | exact R1.out | exact R1.out.call (Below.refl _ _).drew)).mono ?_; rintro e w5 ⟨rfl, v5, h1, h2⟩
           have R3 : Hid (Out g ((o ++ [3]) ++ Bn.num (Bn.fold n)) v5 w5) := h1
           have R4 : Hid (Wrote g v v5 w2 w5) := (by first | exact R2.out.trans h2 | exact R2.out.trans (h2.after (Below.refl _ _).drew))
           clear h1 h2))
      all_goals
        go_end0
        exact ⟨rfl, v5, by rw [E2.out (by first | rfl | trivial)]; exact R3.out, R4.out.after HB2.out⟩
    · go_wp2_with (first
        | (go_at_call 85; refine (C67.out 4 _ HB2.out).mono ?_; rintro e w3 ⟨rfl, v3, h1, h2⟩
           have R1 : Hid (Out g (o ++ [4]) v3 w3) := h1
           have R2 : Hid (Wrote g v v3 w2 w3) := h2
           have BX : Hid (Boxes w3 g B v3 (.int .u8 3) (.bool b) (.int .i64 n) (.string s) (.slice ao nl lc) (.slice fo nf fc)) := HBX.out.wrote HGB h2
           have p0 := block_cells BX.out.ptr 0 _ rfl
           have v3' := block_cells BX.out.val 3 _ rfl
           clear h1 h2)
        | (go_at_call 89; refine (C71.out 4 _ _ R1.out).mono ?_; rintro e w4 ⟨rfl, v4, h1, h2⟩
           have R3 : Hid (Out g ((o ++ [4]) ++ Bn.text s) v4 w4) := h1
           have R4 : Hid (Wrote g v v4 w2 w4) := R2.out.trans h2
           clear h1 h2))
      go_end0
      exact ⟨rfl, v4, by rw [E3.out (by first | rfl | trivial)]; exact R3.out, R4.out.after HB2.out⟩
    · go_wp2_with (first
        | (go_at_call 85; refine (C67.out 5 _ HB2.out).mono ?_; rintro e w3 ⟨rfl, v3, h1, h2⟩
           have R1 : Hid (Out g (o ++ [5]) v3 w3) := h1
           have R2 : Hid (Wrote g v v3 w2 w3) := h2
           have BX : Hid (Boxes w3 g B v3 (.int .u8 4) (.bool b) (.int .i64 n) (.string s) (.slice ao nl lc) (.slice fo nf fc)) := HBX.out.wrote HGB h2
           have p0 := block_cells BX.out.ptr 0 _ rfl
           have v3' := block_cells BX.out.val 3 _ rfl
           clear h1 h2)
        | (go_at_call 89; refine (C71.out 5 _ _ R1.out).mono ?_; rintro e w4 ⟨rfl, v4, h1, h2⟩
           have R3 : Hid (Out g ((o ++ [5]) ++ Bn.text s) v4 w4) := h1
           have R4 : Hid (Wrote g v v4 w2 w4) := R2.out.trans h2
           clear h1 h2))
      go_end0
      exact ⟨rfl, v4, by rw [E4.out (by first | rfl | trivial)]; exact R3.out, R4.out.after HB2.out⟩
    · go_wp2_with (first
        | (go_at_call 85; refine (C67.out 6 _ HB2.out).mono ?_; rintro e w3 ⟨rfl, v3, h1, h2⟩
           have R1 : Hid (Out g (o ++ [6]) v3 w3) := h1
           have R2 : Hid (Wrote g v v3 w2 w3) := h2
           have BX : Hid (Boxes w3 g B v3 (.int .u8 5) (.bool b) (.int .i64 n) (.string s) (.slice ao nl lc) (.slice fo nf fc)) := HBX.out.wrote HGB h2
           have p0 := block_cells BX.out.ptr 0 _ rfl
           have v3' := block_cells BX.out.val 4 _ rfl
           clear h1 h2)
        | (go_at_call 90; refine (CL.out (by first | rfl | trivial) _ _ R1.out R2.out).mono ?_; rintro e w4 ⟨rfl, v4, h1, h2⟩
           have R3 : Hid (Out g (Bn.wrL l ((o ++ [6]) ++ Bn.num nl)) v4 w4) := h1
           have R4 : Hid (Wrote g v v4 w2 w4) := R2.out.trans h2
           clear h1 h2))
      go_end0
      exact ⟨rfl, v4, by rw [E5.out (by first | rfl | trivial)]; exact R3.out, R4.out.after HB2.out⟩
    · go_wp2_with (first
        | (go_at_call 85; refine (C67.out 7 _ HB2.out).mono ?_; rintro e w3 ⟨rfl, v3, h1, h2⟩
           have R1 : Hid (Out g (o ++ [7]) v3 w3) := h1
           have R2 : Hid (Wrote g v v3 w2 w3) := h2
           have BX : Hid (Boxes w3 g B v3 (.int .u8 6) (.bool b) (.int .i64 n) (.string s) (.slice ao nl lc) (.slice fo nf fc)) := HBX.out.wrote HGB h2
           have p0 := block_cells BX.out.ptr 0 _ rfl
           have v3' := block_cells BX.out.val 5 _ rfl
           clear h1 h2)
        | (go_at_call 90; refine (CF.out (by first | rfl | trivial) _ _ R1.out R2.out).mono ?_; rintro e w4 ⟨rfl, v4, h1, h2⟩
           have R3 : Hid (Out g (Bn.wrF f ((o ++ [7]) ++ Bn.num nf)) v4 w4) := h1
           have R4 : Hid (Wrote g v v4 w2 w4) := R2.out.trans h2
           clear h1 h2))
      go_end0
      exact ⟨rfl, v4, by rw [E6.out (by first | rfl | trivial)]; exact R3.out, R4.out.after HB2.out⟩
end Go.Proofs.YtlafdlcpelkdpaaGreatDoor
