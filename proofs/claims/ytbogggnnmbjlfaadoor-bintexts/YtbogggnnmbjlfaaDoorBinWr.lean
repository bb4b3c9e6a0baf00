/- The writer's number and text, walked. -/
import Derived.Test.YtbogggnnmbjlfaaDoorBinS
import Derived.Test.YtbogggnnmbjlfaaDoorBinRM
import Derived.Deep.RegionLawGrows
import Derived.Deep.Cut
namespace Go.Proofs.YtbogggnnmbjlfaaDoor
open Go.RowKit
theorem own_below {w w' : World} {base n : Nat} {v : Value} {xs : List Value} (h : w.ownsRow base 5 1 v n xs) (b : Below w.heap.size w w') : w'.ownsRow base 5 1 v n xs := by
  refine ⟨h.1, ?_⟩
  rcases h.2 with h2 | ⟨g, cap, cur, hv, hg, hh, r⟩
  · exact Or.inl h2
  · have hlt : g < w.heap.size := (h.lt g (by rw [hv]; rfl)).2
    exact Or.inr ⟨g, cap, cur, hv, hg, (b.block g hlt).trans hh, r⟩
/-- behind an append and the store of its answer -/
theorem Out.put {g : Nat} {l m : List UInt8} {v v' : Value} {w w1 w' : World} (h : Out g l v w) (b : Below w.heap.size w w1) (hg : w1.grownBy w' v.ownBlock)
    (ho : w'.ownsRow (g + 1) 5 1 v' (l.length + m.length) (Lib.byteCells l ++ Lib.byteCells m)) (hat : v'.ownBlock = v.ownBlock ∨ v'.ownBlock = some w1.heap.size) :
    Out g (l ++ m) v' (w'.setCell ⟨g, 0, none⟩ v') ∧ Wrote g v v' w (w'.setCell ⟨g, 0, none⟩ v') ∧ w'.cell? ⟨g, 0, none⟩ = some v ∧ w'.frozen? ⟨g, 0, none⟩ = false := by
  have hlt := h.lt
  have hs1 := b.size
  have hs2 := hg.size
  have hne : v.ownBlock ≠ some g := fun e => by have := (h.own.lt g e).1; omega
  have hgg : v'.ownBlock ≠ some g := by
    rcases hat with e | e
    · rw [e]; exact hne
    · rw [e]; intro e2; cases e2; omega
  have hb : w'.heap[g]? = w.heap[g]? := (hg.block g (by omega) (fun e => hne e.symm)).trans (b.block g hlt)
  have hc : w'.cell? ⟨g, 0, none⟩ = some v := (World.cell?_of_block (w := w) hb).trans h.cell
  have hf : w'.frozen? ⟨g, 0, none⟩ = false := (World.frozen?_of_block (w := w) hb).trans h.free
  refine ⟨⟨by simp [World.setCell]; omega, ?_, ?_, ?_⟩, ⟨?_, ?_, ?_, ?_, ?_, ?_⟩, hc, hf⟩
  · exact World.cell?_setCell_same _ _ _ hc
  · rw [World.frozen?_setCell]; exact hf
  · have e : Lib.byteCells (l ++ m) = Lib.byteCells l ++ Lib.byteCells m := by simp [Lib.byteCells]
    rw [e, List.length_append]
    exact ownsRow_setCell_other ho hgg _
  · exact hg.os.trans b.os
  · exact hg.tape.trans b.tape
  · exact hg.output.trans b.output
  · simp [World.setCell]; omega
  · intro k hk hkg hkv
    rw [Below.heap_setCell _ _ _ _ hkg, hg.block k (by omega) (fun e => hkv e.symm), b.block k hk]
  · rcases hat with e | e
    · exact Or.inl e
    · exact Or.inr ⟨_, e, hs1⟩
theorem own_slice {w : World} {base n : Nat} {v : Value} {xs : List Value} (h : w.ownsRow base 5 1 v n xs) : ∃ a k c, v = .slice a k c := by
  rcases h.2 with ⟨rfl, _⟩ | ⟨g, cap, cur, hv, _⟩
  · exact ⟨_, _, _, rfl⟩
  · exact ⟨_, _, _, hv⟩
theorem str_bytes (s : ByteArray) : Lib.strCells s = Lib.byteCells s.data.toList := rfl
set_option maxHeartbeats 2000000 in
set_option maxRecDepth 10000 in
theorem number69 (g : Nat) (l : List UInt8) (hl : l.length ≤ 4294967296) (n : Nat) (hn : n < 18446744073709551616) (v : Value) (w : World) (h : Out g l v w) :
    Calls Tryd.prog 69 #[.pointer (some ⟨g, 0, none⟩), .int .u64 (n : Int)] w fun e w' => e = .returned (.tuple #[]) ∧ ∃ v', Out g (l ++ Bn.num n) v' w' ∧ Wrote g v v' w w' := by
  obtain ⟨s, hs⟩ : ∃ s : ByteArray, s = ⟨(Bn.num n).toArray⟩ := ⟨_, rfl⟩
  have hss : s.size = (Bn.num n).length := by rw [Lib.size_eq, hs]
  have hsl : Hid (s.data.toList = Bn.num n) := by show _ = _; rw [hs]
  have hlen : (Bn.num n).length ≤ 10 := Bn.num_len10 hn
  have C : Hid (∀ W, Calls Tryd.prog 25 #[.int .u64 (n : Int)] W fun e w' => e = .returned (.string s) ∧ Below W.heap.size W w') := fun W => by rw [hs]; exact number25 n hn W
  have HB63 : Hid (l.length + s.size ≤ maxLen) := by show _ ≤ _; unfold maxLen; omega
  have HB47 : Hid (l.length + s.size ≤ 140737488355328) := by show _ ≤ _; omega
  have H : Hid (Out g l v w) := h
  have hc := h.cell
  have hf := h.free
  have hlt := h.lt
  have HSS : Hid (s.size = (Bn.num n).length) := hss
  clear h hl hn hs hss hlen
  go_enter Tryd.func69, Tryd.ntmps69
  go_wp2
  go_region_law (first
    | (refine step_append_str _ (by rfl) _ _ (by rfl) (g + 1) v l.length (Lib.byteCells l) (by rfl) HO3.out s (by rfl) HB63.out HB47.out HS3.out ?_; intro v' w5 hown hgrow hat
       obtain ⟨a5, k5, c5', rfl⟩ := own_slice hown
       have N := Out.put (m := Bn.num n) H.out HB3.out hgrow (by rw [← HSS.out, ← hsl.out, ← str_bytes]; exact hown) hat
       obtain ⟨n1, n2, c5, f5⟩ := N
       have N1 : Hid (Out g (l ++ Bn.num n) (.slice a5 k5 c5') (w5.setCell ⟨g, 0, none⟩ (.slice a5 k5 c5'))) := n1
       have N2 : Hid (Wrote g v (.slice a5 k5 c5') w (w5.setCell ⟨g, 0, none⟩ (.slice a5 k5 c5'))) := n2
       clear n1 n2 hown hgrow hat)
    | (go_simp; go_at_call 25; refine (C.out _).mono ?_; rintro e w3 ⟨rfl, hb3⟩
       have HB3 : Hid (Below w.heap.size w w3) := (by first | exact (Below.refl _ _).drew.trans hb3 | exact hb3)
       have HO3 : Hid (w3.ownsRow (g + 1) 5 1 v l.length (Lib.byteCells l)) := own_below H.out.own HB3.out
       have HS3 : Hid (g + 1 ≤ w3.heap.size) := by have := HB3.out.size; show _ ≤ _; omega
       have c3 := (HB3.out.cell (p := ⟨g, 0, none⟩) hlt).trans hc
       have f3 := (HB3.out.frozen (p := ⟨g, 0, none⟩) hlt).trans hf
       clear hb3))
  all_goals
    go_end0
    exact ⟨rfl, _, N1.out, N2.out⟩
/-- a text's bytes -/
def Bn.text (s : ByteArray) : List UInt8 := Bn.num s.size ++ s.data.toList
set_option maxHeartbeats 2000000 in
set_option maxRecDepth 10000 in
theorem text71 (g : Nat) (l : List UInt8) (hl : l.length ≤ 4294960000) (s : ByteArray) (hs : s.size ≤ 140737488351232 - 4294967296) (v : Value) (w : World) (h : Out g l v w) :
    Calls Tryd.prog 71 #[.pointer (some ⟨g, 0, none⟩), .string s] w fun e w' => e = .returned (.tuple #[]) ∧ ∃ v', Out g (l ++ Bn.text s) v' w' ∧ Wrote g v v' w w' := by
  obtain ⟨n, hn⟩ : ∃ n, n = s.size := ⟨_, rfl⟩
  have hlen : (Bn.num n).length ≤ 10 := Bn.num_len10 (by omega)
  have C : Hid (Calls Tryd.prog 69 #[.pointer (some ⟨g, 0, none⟩), .int .u64 (n : Int)] w fun e w' => e = .returned (.tuple #[]) ∧ ∃ v', Out g (l ++ Bn.num n) v' w' ∧ Wrote g v v' w w') := number69 g l (by omega) n (by omega) v w h
  have HB63 : Hid ((l ++ Bn.num n).length + s.size ≤ maxLen) := by show _ ≤ _; unfold maxLen; rw [List.length_append]; omega
  have HB47 : Hid ((l ++ Bn.num n).length + s.size ≤ 140737488355328) := by show _ ≤ _; rw [List.length_append]; omega
  have HT : Hid (l ++ Bn.text s = (l ++ Bn.num n) ++ s.data.toList) := by show _ = _; rw [Bn.text, hn, List.append_assoc]
  have hc := h.cell
  have hlt := h.lt
  have e1 : (s.size : Int) = (n : Int) := by omega
  have q1 : (n : Int) < 18446744073709551616 := by omega
  clear h hl hs hlen hn
  go_enter Tryd.func71, Tryd.ntmps71
  go_wp2_with (first
    | (go_at_call 69; refine C.out.mono ?_; rintro e w1 ⟨rfl, v1, h1, h2⟩
       have H1 : Hid (Out g (l ++ Bn.num n) v1 w1) := h1
       have H2 : Hid (Wrote g v v1 w w1) := h2
       obtain ⟨a1, k1, p1, rfl⟩ := own_slice h1.own
       have c1 := h1.cell
       have f1 := h1.free
       have lt1 := h1.lt
       clear h1 h2 hc hlt)
    | (at_builtin; refine wpList_append_str _ rfl _ _ rfl (g + 1) _ _ _ rfl H1.out.own s rfl HB63.out HB47.out (by have := H1.out.lt; omega) ?_; intro v' w5 hown hgrow hat
       obtain ⟨a5, k5, c5', rfl⟩ := own_slice hown
       have N := Out.put (m := s.data.toList) H1.out (Below.refl _ _) hgrow (by rw [← Lib.size_eq, ← str_bytes]; exact hown) hat
       obtain ⟨n1, n2, c5, f5⟩ := N
       have N1 : Hid (Out g ((l ++ Bn.num n) ++ s.data.toList) (.slice a5 k5 c5') (w5.setCell ⟨g, 0, none⟩ (.slice a5 k5 c5'))) := n1
       have N2 : Hid (Wrote g v (.slice a5 k5 c5') w (w5.setCell ⟨g, 0, none⟩ (.slice a5 k5 c5'))) := H2.out.trans n2
       clear n1 n2 hown hgrow hat c1 f1))
  go_end0
  exact ⟨rfl, _, by rw [HT.out]; exact N1.out, N2.out⟩
end Go.Proofs.YtbogggnnmbjlfaaDoor
