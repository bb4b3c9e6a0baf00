/- A tree as it is read; what a loop over it leaves alone; the closure that is ranged over. -/
import Derived.Test.YtkigenldiinioabGreatDoorSqO
import Derived.Test.YtkigenldiinioabGreatDoorBtIM
import Derived.Shelf.Abstract
import Derived.Shelf.RegionOpen
import Derived.WalkKit
import Derived.OwnWalkIn
import Derived.TacticsInMore
import Derived.LoopNIn
import Derived.LoopIn
namespace Go.Proofs.YtkigenldiinioabGreatDoor
open Go.RowKit Go.Shelf
open Vl (V)
attribute [local go_sem ↓] Go.wp_at_zero Go.wp_at_succ
/-- the types of rows and variables that a loop over a tree may have of its own -/
def Bt.bad : List Nat := [84, 60, 22, 43]
/-- what a round leaves alone: all that lay below a border, and whatever cells are of no such type -/
structure Kq (H : Nat) (W W' : World) : Prop where
  below : Below H W W'
  cells : ∀ (g : Nat) (cs : Array Value) (t : TypeId) (fr : Nat × Nat), W.heap[g]? = some (Obj.cells cs t fr) → t ∉ Bt.bad → W'.heap[g]? = W.heap[g]?
theorem Kq.refl (H : Nat) (W : World) : Kq H W W := ⟨Below.refl _ _, fun _ _ _ _ _ _ => rfl⟩
theorem Kq.trans {H : Nat} {A B C : World} (h : Kq H A B) (k : Kq H B C) : Kq H A C :=
  ⟨h.below.trans k.below, fun g cs t fr h0 ht => (k.cells g cs t fr ((h.cells g cs t fr h0 ht).trans h0) ht).trans (h.cells g cs t fr h0 ht)⟩
theorem Kq.of_below {H : Nat} {W W' : World} (h : Below W.heap.size W W') (hH : H ≤ W.heap.size) : Kq H W W' := ⟨h.mono hH, fun _ _ _ _ h0 _ => h.block _ (lt_of_row h0)⟩
theorem Kq.turn {H B : Nat} {W0 W W' : World} {row : Option Nat} (h : Kq H W0 W) (hH : H ≤ W0.heap.size) (hB : H ≤ B) (hg : W.grownBy W' row) (hr : ∀ r, row = some r → B ≤ r ∧ ∃ o : Obj, W.heap[r]? = some o ∧ o.isCells = false) : Kq H W0 W' := by
  refine ⟨h.below.grown hg (Nat.le_trans hH h.below.size) (fun k e => Nat.le_trans hB (hr k e).1), fun g cs t fr h0 ht => ?_⟩
  have h1 := (h.cells g cs t fr h0 ht).trans h0
  refine (hg.block g (lt_of_row h1) fun e => ?_).trans (h1.trans h0.symm)
  obtain ⟨_, o, h2, h3⟩ := hr g e.symm
  rw [h1] at h2
  injection h2 with h2
  subst h2
  cases h3
theorem Kq.own {β : Type} {H B : Nat} {W0 : World} (hH : H ≤ W0.heap.size) (hB : H ≤ B) : OwnFrom B (fun (_ : β) W => Kq H W0 W) := fun _ _ _ _ hs hg hr => hs.turn hH hB hg hr
theorem Kq.put {H : Nat} {w : World} (hH : H ≤ w.heap.size) (W : World) (l : Nat) (o o' : Obj) (hl : w.heap.size ≤ l) (h : W.heap[l]? = some o) (ho : o.isCells = false) (_ : o.isWalk = false) : Kq H W (W.putObj l o') :=
  (Kq.refl H W).turn (B := w.heap.size) (by have := lt_of_row h; omega) hH (grownBy_putObj' W l o') (fun r e => by cases e; exact ⟨hl, o, h, ho⟩)
theorem Kq.box {H : Nat} {W W' : World} (h : Kq H W W') {g : Nat} {cs : Array Value} {t : TypeId} {fr : Nat × Nat} (h0 : W.heap[g]? = some (.cells cs t fr)) (ht : t ∉ Bt.bad) : W'.heap[g]? = some (.cells cs t fr) := (h.cells g cs t fr h0 ht).trans h0
/-- a tree that can be read -/
def RT (W : World) (H : Nat) (key : Nat → V) : Bt.T → Prop
  | .nil => True
  | .node g r es a b c d => (g < H ∧ r < H ∧ (∃ cap, W.heap[g]? = some (.cells #[.slice (some ⟨r, 0, none⟩) es.length cap, Bt.ptr (Bt.top a), Bt.ptr (Bt.top b), Bt.ptr (Bt.top c), Bt.ptr (Bt.top d), .int .i64 ((Bt.flat (.node g r es a b c d)).length : Int)] 87 (0, 0))) ∧ (∀ j e, es[j]? = some e → W.cell? ⟨r, 0 + j, none⟩ = some (.pointer (some ⟨e, 0, none⟩))) ∧ ∀ e ∈ es, EK W H (key e) e) ∧ RT W H key a ∧ RT W H key b ∧ RT W H key c ∧ RT W H key d
theorem RT.stays {W W' : World} {H : Nat} {key : Nat → V} (hb : Below H W W') : ∀ {t : Bt.T}, RT W H key t → RT W' H key t
  | .nil, _ => trivial
  | .node g r es a b c d, h => by
    obtain ⟨⟨h1, h2, ⟨cap, h3⟩, h4, h5⟩, ha, hbb, hc, hd⟩ := h
    exact ⟨⟨h1, h2, ⟨cap, (hb.block _ h1).trans h3⟩, fun j e he => (hb.cell (p := ⟨r, 0 + j, none⟩) h2).trans (h4 j e he), fun e he => (h5 e he).stays hb⟩, RT.stays hb ha, RT.stays hb hbb, RT.stays hb hc, RT.stays hb hd⟩
/-- where no depth is asked all numbers of frames are one -/
theorem round_any {m m' : Nat} {P : Program} {l l' : Nat} {f : FuncId} {tmps : Array Value} {assign body : Code} {w : World} {R : Ending → World → Prop}
    (h : RoundIn Fence.wide m P l f tmps assign body w R) : RoundIn (Fence.wide.inRound l') m' P l f tmps assign body w R := ⟨h.1, fun c cs _ => h.2 c cs (fun d hd => by cases hd)⟩
theorem round_wide {m m' : Nat} {P : Program} {l : Nat} {f : FuncId} {tmps : Array Value} {assign body : Code} {w : World} {R : Ending → World → Prop}
    (h : RoundIn Fence.wide m P l f tmps assign body w R) : RoundIn Fence.wide m' P l f tmps assign body w R := ⟨h.1, fun c cs _ => h.2 c cs (fun d hd => by cases hd)⟩
/-- the marks of loops, given back one by one -/
def Bt.marks (Ds : List Nat) : List Deferred := Ds.map fun D => { target := .collected D, args := #[] }
theorem leaves_marks {F : Fence} {n : Nat} {P : Program} {fn : Func} {tmps : Array Value} {R : Ending → World → Prop} {β : Type} {J : β → World → Prop} {s : β} {B : Nat} (hJ : OwnFrom B J) (hf : fn.results = #[]) (hR : ∀ w, J s w → R (.returned (.tuple #[])) w) :
    ∀ (Ds : List Nat) (w : World), Ds.Nodup → (∀ D ∈ Ds, B ≤ D ∧ w.heap[D]? = some (.deferred (some []))) → J s w → LeavesInM F n P fn tmps R (Bt.marks Ds) .returning w
  | [], w, _, _, h => ⟨_, results_none hf tmps P w, hR w h⟩
  | D :: r, w, hn, hD, h => by
    obtain ⟨h1, h2⟩ := hD D (by simp)
    obtain ⟨n1, n2⟩ := List.nodup_cons.1 hn
    refine ⟨by simp, .inl ⟨D, _, rfl, run_takeDeferred h2, leaves_marks hJ hf hR r _ n2 (fun E hE => ?_) (hJ.putObj _ h h1 h2 rfl)⟩⟩
    obtain ⟨k1, k2⟩ := hD E (by simp [hE])
    exact ⟨k1, (World.putObj_heap_other (fun e => n1 (by rw [← e]; exact hE))).trans k2⟩
set_option maxHeartbeats 1000000 in
theorem within_c (p lv hv : Value) (w : World) (l0 l1 l2 l3 l4 l5 l6 l7 h0 h1 h2 h3 h4 h5 h6 h7 : Value) (hl : lv = .agg #[l0, l1, l2, l3, l4, l5, l6, l7]) (hh : hv = .agg #[h0, h1, h2, h3, h4, h5, h6, h7]) (o : Option Addr) (hp : p = .pointer o) :
    Calls Tryz.prog 20 #[p, lv, hv] w fun e w' => e = .returned (.func (.func 42) #[] #[.pointer (some ⟨w.heap.size, 0, none⟩), .pointer (some ⟨w.heap.size + 1, 0, none⟩), .pointer (some ⟨w.heap.size + 2, 0, none⟩)]) ∧
      w' = ((w.alloc (.cells #[p] 56)).alloc (.cells #[l0, l1, l2, l3, l4, l5, l6, l7] 36)).alloc (.cells #[h0, h1, h2, h3, h4, h5, h6, h7] 36) := by
  subst hl hh hp
  go_enter Tryz.func20, Tryz.ntmps20
  go_wp2
  go_ret
  exact ⟨rfl, rfl⟩
end Go.Proofs.YtkigenldiinioabGreatDoor
