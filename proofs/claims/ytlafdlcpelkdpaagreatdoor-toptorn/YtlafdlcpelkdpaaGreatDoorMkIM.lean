/- The digests are made once: sync.Once, by one goroutine. -/
import Derived.Test.YtlafdlcpelkdpaaGreatDoorMkHM
import Derived.Defers
import Derived.Laws.Pointers
import Derived.Laws.LoneSync
import Derived.RegionCalls
namespace Go.Proofs.YtlafdlcpelkdpaaGreatDoor
open Go.RowKit
theorem race_disable (w : World) : (callFunc 122 #[]).run Tryz.prog w = .ok (.value (.tuple #[])) w := run_call_mark0 Tryz.func122 (by kernel_rfl) (by kernel_rfl) (by kernel_rfl) .disable (by kernel_rfl) w
theorem race_enable (w : World) : (callFunc 124 #[]).run Tryz.prog w = .ok (.value (.tuple #[])) w := run_call_mark0 Tryz.func124 (by kernel_rfl) (by kernel_rfl) (by kernel_rfl) .enable (by kernel_rfl) w
theorem race_acquire (a : Addr) (w : World) : (callFunc 125 #[.pointer (some a)]).run Tryz.prog w = .ok (.value (.tuple #[])) w := run_call_marked Tryz.func125 (by kernel_rfl) (by kernel_rfl) (by kernel_rfl) .acquire (by kernel_rfl) a w
theorem race_release (a : Addr) (w : World) : (callFunc 127 #[.pointer (some a)]).run Tryz.prog w = .ok (.value (.tuple #[])) w := run_call_marked Tryz.func127 (by kernel_rfl) (by kernel_rfl) (by kernel_rfl) .releaseMerge (by kernel_rfl) a w
/-- the Once's word is stored, as a deferred call -/
theorem store_deferred (a : Addr) (x : Value) (u : FrameMode) (w : World) (hc : w.cell? a = some x) (hz : w.frozen? a = false) :
    CallsD Tryz.prog 115 #[.pointer (some a), .bool true] u w fun e u' w' => u' = u ∧ (e = .returned (.tuple #[]) ∧ w' = w.drew.setCell a (.int .u32 1)) := by
  have hc' : w.drew.cell? a = some x := by go_simp
  have hz' : w.drew.frozen? a = false := by go_simp
  have hst := run_call_store (P := Tryz.prog) Tryz.func120 (by kernel_rfl) (by kernel_rfl) (by kernel_rfl) (by kernel_rfl) (k := .u32) (y := 1) hc' hz'
  go_enter_d Tryz.func115, Tryz.ntmps115
  go_wp2
  go_region_calls
  all_goals (go_end0; exact ⟨rfl, rfl⟩)
set_option maxRecDepth 100000 in
set_option maxHeartbeats 1600000 in
/-- the lock is let go, as a deferred call -/
theorem unlock_deferred (a : Addr) (u : FrameMode) (w : World) (hc : w.cell? a = some (.int .i32 1)) (hz : w.frozen? a = false) :
    CallsD Tryz.prog 114 #[.pointer (some a)] u w fun e u' w' => u' = u ∧ (e = .returned (.tuple #[]) ∧ w' = w.setCell a (.int .i32 0)) := by
  have hd := race_disable
  have he := race_enable
  have hr := race_release
  have hadd := run_call_add (P := Tryz.prog) Tryz.func128 (by kernel_rfl) (by kernel_rfl) (by kernel_rfl) .i32 (by kernel_rfl) (y := -1) (s := 0) hc hz (by simp [go_sem]; rfl)
  have hcv := run_convert_to_unsafe (P := Tryz.prog) (src := 192) (dst := 196) Tryz.underlying192 Tryz.underlying196 (by kernel_rfl) hc
  go_enter_d Tryz.func114, Tryz.ntmps114
  go_wp2
  go_end0
  go_wp2
  go_end0
  exact ⟨rfl, rfl⟩
set_option maxRecDepth 100000 in
set_option maxHeartbeats 1600000 in
/-- the lock is taken -/
theorem lock_free (a : Addr) (w : World) (hc : w.cell? a = some (.int .i32 0)) (hz : w.frozen? a = false) :
    Calls Tryz.prog 113 #[.pointer (some a)] w fun e w' => e = .returned (.tuple #[]) ∧ w' = w.setCell a (.int .i32 1) := by
  have hd := race_disable
  have he := race_enable
  have ha := race_acquire
  have hcas := run_call_cas_hit (P := Tryz.prog) Tryz.func123 (by kernel_rfl) (by kernel_rfl) (by kernel_rfl) .i32 (by kernel_rfl) (y := 1) hc hz
  have hc' : (w.setCell a (.int .i32 1)).cell? a = some (.int .i32 1) := World.cell?_setCell_same w a _ hc
  have hcv := run_convert_to_unsafe (P := Tryz.prog) (src := 192) (dst := 196) Tryz.underlying192 Tryz.underlying196 (by kernel_rfl) hc'
  go_enter Tryz.func113, Tryz.ntmps113
  go_wp2
  first | go_end0 | (simp only [Exit.inBlock, Exit.then]; refine bodyPost_ret (results_none rfl _ _ _) rfl ?_) | refine bodyPost_ret (results_none rfl _ _ _) rfl ?_
  go_wp2
  go_end0
  exact ⟨rfl, rfl⟩
/-- nothing has turned but one block -/
abbrev Gr (b : Nat) (w w' : World) : Prop := w.grownBy w' (some b)
theorem Gr.refl (b : Nat) (w : World) : Gr b w w := ⟨rfl, rfl, rfl, Nat.le_refl _, fun _ _ _ => rfl⟩
theorem Gr.trans {b : Nat} {w w1 w2 : World} (h : Gr b w w1) (k : Gr b w1 w2) : Gr b w w2 :=
  ⟨k.os.trans h.os, k.tape.trans h.tape, k.output.trans h.output, Nat.le_trans h.size k.size, fun i hi hn => (k.block i (Nat.lt_of_lt_of_le hi h.size) hn).trans (h.block i hi hn)⟩
theorem Gr.of {b : Nat} {w w1 : World} (h : Below w.heap.size w w1) : Gr b w w1 := ⟨h.os, h.tape, h.output, h.size, fun i hi _ => h.block i hi⟩
theorem Gr.set (b j : Nat) (w : World) (v : Value) : Gr b w (w.setCell ⟨b, j, none⟩ v) :=
  ⟨rfl, rfl, rfl, by simp, fun i _ hn => heap_setCell_other _ _ _ _ (fun e => hn (by rw [e]))⟩
theorem Gr.drew (b : Nat) (w : World) : Gr b w w.drew := .of (Below.drew (Below.refl _ _))
theorem Gr.below {b B : Nat} {w w1 : World} (h : Gr b w w1) (hB : B ≤ b) (hw : B ≤ w.heap.size) : Below B w w1 := ⟨h.os, h.tape, h.output, h.size, fun i hi => h.block i (by omega) (fun e => by injection e; omega)⟩
/-- a tree's cells -/
def TreeAt (W : World) (b : Nat) (n : Nat) (dn st : Int) (tv wv : Value) : Prop := W.heap[b]? = some (.cells #[.int .i64 (n : Int), .int .u32 dn, .int .i32 st, .int .u32 0, tv, wv] 147 (0, 0))
theorem TreeAt.lt {W : World} {b n : Nat} {dn st : Int} {tv wv : Value} (h : TreeAt W b n dn st tv wv) : b < W.heap.size := (Array.getElem?_eq_some_iff.1 h).1
theorem TreeAt.cells {W : World} {b n : Nat} {dn st : Int} {tv wv : Value} (h : TreeAt W b n dn st tv wv) : W.cell? ⟨b, 0, none⟩ = some (.int .i64 (n : Int)) ∧ W.cell? ⟨b, 1, none⟩ = some (.int .u32 dn) ∧ W.cell? ⟨b, 2, none⟩ = some (.int .i32 st) ∧ W.cell? ⟨b, 3, none⟩ = some (.int .u32 0) ∧ W.cell? ⟨b, 4, none⟩ = some tv ∧ W.cell? ⟨b, 5, none⟩ = some wv := by
  refine ⟨?_, ?_, ?_, ?_, ?_, ?_⟩ <;> (rw [cell_of_row W _ _ _ 147 (0, 0) h]; rfl)
theorem TreeAt.free {W : World} {b n : Nat} {dn st : Int} {tv wv : Value} (h : TreeAt W b n dn st tv wv) : ∀ j, W.frozen? ⟨b, j, none⟩ = false := row_free h
theorem TreeAt.drew {W : World} {b n : Nat} {dn st : Int} {tv wv : Value} (h : TreeAt W b n dn st tv wv) : TreeAt W.drew b n dn st tv wv := h
theorem TreeAt.call {W W' : World} {b n : Nat} {dn st : Int} {tv wv : Value} (h : TreeAt W b n dn st tv wv) (hb : Below W.heap.size W W') : TreeAt W' b n dn st tv wv := (hb.block b h.lt).trans h
theorem TreeAt.done {W : World} {b n : Nat} {dn st : Int} {tv wv : Value} (h : TreeAt W b n dn st tv wv) (x : Int) : TreeAt (W.setCell ⟨b, 1, none⟩ (.int .u32 x)) b n x st tv wv := heap_setCell_same W b 1 _ 147 _ h
theorem TreeAt.state {W : World} {b n : Nat} {dn st : Int} {tv wv : Value} (h : TreeAt W b n dn st tv wv) (x : Int) : TreeAt (W.setCell ⟨b, 2, none⟩ (.int .i32 x)) b n dn x tv wv := heap_setCell_same W b 2 _ 147 _ h
theorem TreeAt.texts {W : World} {b n : Nat} {dn st : Int} {tv wv : Value} (h : TreeAt W b n dn st tv wv) (x : Value) : TreeAt (W.setCell ⟨b, 4, none⟩ x) b n dn st x wv := heap_setCell_same W b 4 _ 147 _ h
theorem TreeAt.whole {W : World} {b n : Nat} {dn st : Int} {tv wv : Value} (h : TreeAt W b n dn st tv wv) (x : Value) : TreeAt (W.setCell ⟨b, 5, none⟩ x) b n dn st tv x := heap_setCell_same W b 5 _ 147 _ h
/-- parts stay where only a tree's block turns -/
theorem Pt.gr {W W' : World} {b n : Nat} {dn st : Int} {tv wv : Value} (ht : TreeAt W b n dn st tv wv) (hg : Gr b W W') {p : Nat} {l : List (List UInt8)} (h : Pt W p l) : Pt W' p l :=
  h.stays fun p C e => (hg.block p (Array.getElem?_eq_some_iff.1 e).1 (fun q => by injection q with q; subst q; rw [ht] at e; simp at e)).trans e
end Go.Proofs.YtlafdlcpelkdpaaGreatDoor
