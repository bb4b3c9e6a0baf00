/- The document's text and sign, walked. -/
import Derived.Test.YtdejnphiejkglaaGreatDoorLxRb
import Derived.Test.YtdejnphiejkglaaGreatDoorLxRu
import Derived.Test.YtdejnphiejkglaaGreatDoorLxP
import Derived.Laws.BytesArg
import Derived.Lib.SmallJoins
namespace Go.Proofs.YtdejnphiejkglaaGreatDoor
open Go.RowKit
/-- bytes that were appended so far -/
structure BO (w W : World) (out : Lx.Bs) (lv : Value) : Prop where
  below : Below w.heap.size w W
  row : W.ownsRow w.heap.size 5 1 lv out.length (Lib.byteCells out)
theorem BO.next {w W W1 : World} {o : Obj} {out : Lx.Bs} {lv lv' : Value} {c : UInt8} (h : BO w W out lv) (hg : (W.alloc o).grownBy W1 lv.ownBlock) (hn : W1.ownsRow w.heap.size 5 1 lv' (out.length + 1) (Lib.byteCells out ++ [.int .u8 (c.toNat : Int)])) : BO w W1 (out ++ [c]) lv' := by
  have hs := h.below.size
  refine ⟨?_, ?_⟩
  · exact (h.below.alloc (by omega) o).grown hg (by simp; omega) (fun k hk => (own_lt h.row k hk).1)
  · rw [List.length_append]
    have e : Lib.byteCells (out ++ [c]) = Lib.byteCells out ++ [.int .u8 (c.toNat : Int)] := by simp [Lib.byteCells]
    rw [e]
    exact hn
/-- as a text -/
theorem BO.text {w W : World} {out : Lx.Bs} {lv : Value} (h : BO w W out lv) : (Go.convert 56 9 lv).run Tryz.prog W = .ok (.string (Lx.bs out)) W := by
  rcases h.row.2 with ⟨e1, h'⟩ | ⟨g, cap, cur, rfl, _⟩
  · have : out = [] := List.eq_nil_of_length_eq_zero h'
    subst this
    rw [e1]
    exact run_convert_bytes_nil (P := Tryz.prog) W 56 5 Tryz.underlying56 Tryz.underlying5 0 0 9 Tryz.underlying9
  · refine run_convert_bytes_back W 56 9 5 ⟨g, 0, none⟩ cap out Tryz.underlying56 Tryz.underlying5 Tryz.underlying9 (fun j hj => ?_)
    have e : (⟨g, 0, none⟩ : Addr).add j = ⟨g, j, none⟩ := by rw [Addr.add_mid]; simp
    rw [e, h.row.cellAt j (by omega)]
    simp [Lib.byteCells, hj]
namespace Lx
theorem quo_other {c : UInt8} (h : c ≠ 39) (r : Bs) : quo (c :: r) = (quo r).map fun x => (c :: x.1, x.2 + 1) := by
  rw [quo.eq_def]
  split
  · rename_i h1; cases h1
  · rename_i h1; cases h1; exact absurd rfl h
  · rename_i h1; cases h1; exact absurd rfl h
  · rename_i h1; cases h1; rfl
/-- what comes of a text's bytes up to a place -/
def Qu (l : Bs) (k : Nat) (out : Bs) : Prop := quo (l.drop 1) = (quo (l.drop k)).map fun x => (out ++ x.1, x.2 + (k - 1))
theorem Qu.start (l : Bs) : Qu l 1 [] := by
  show _ = _
  cases quo (l.drop 1) <;> simp
theorem Qu.other {l out : Bs} {k : Nat} {c : UInt8} (h : Qu l k out) (hk : 1 ≤ k) (hc : l[k]? = some c) (h39 : c ≠ 39) : Qu l (k + 1) (out ++ [c]) := by
  show _ = _
  rw [show quo (l.drop 1) = _ from h, drop_at hc, quo_other h39]
  cases quo (l.drop (k + 1)) with
  | none => rfl
  | some x => simp; omega
theorem Qu.two {l out : Bs} {k : Nat} (h : Qu l k out) (hk : 1 ≤ k) (hc : l[k]? = some 39) (hd : l[k + 1]? = some 39) : Qu l (k + 2) (out ++ [39]) := by
  show _ = _
  rw [show quo (l.drop 1) = _ from h, drop_at hc, drop_at hd, quo]
  cases quo (l.drop (k + 1 + 1)) with
  | none => rfl
  | some x => simp; omega
theorem Qu.fin {l out : Bs} {k : Nat} (h : Qu l k out) (hk : 1 ≤ k) (hc : l[k]? = some 39) (hd : l[k + 1]? ≠ some 39) : quo (l.drop 1) = some (out, k) := by
  rw [show quo (l.drop 1) = _ from h, drop_at hc, quo_end (fun b hb e => hd (by rw [e] at hb; simpa using hb))]
  simp; omega
theorem Qu.none {l out : Bs} {k : Nat} (h : Qu l k out) (hk : l.length ≤ k) : quo (l.drop 1) = none := by
  rw [show quo (l.drop 1) = _ from h, List.drop_of_length_le hk, quo]
  rfl
def textGave : Option (Bs × Nat) → Ending
  | none => .returned (.tuple #[.string ⟨#[]⟩, .int .i64 0])
  | some (t, n) => .returned (.tuple #[.string (bs t), .int .i64 ((n + 1 : Nat) : Int)])
theorem arQ {j m : Nat} (h : j < m) (hm : m ≤ 140737488351232) : wrap64 ((j : Int) + 1) = ((j + 1 : Nat) : Int) ∧ wrap64 (((j + 1 : Nat) : Int) + 1) = ((j + 2 : Nat) : Int) ∧ IntKind.i64.wrap ((j : Int) + 1) = ((j + 1 : Nat) : Int) := by
  refine ⟨by unfold wrap64; omega, by unfold wrap64; omega, by rw [IntKind.wrap_i64]; omega⟩
end Lx
set_option maxHeartbeats 4000000 in
set_option maxRecDepth 100000 in
theorem rtext_c (x : UInt8) (r : Lx.Bs) (hl : (x :: r).length ≤ 16384) (w : World) : Calls Tryz.prog 39 #[.string (Lx.bs (x :: r))] w fun e w' => e = Lx.textGave (Lx.quo r) ∧ Below w.heap.size w w' := by
  obtain ⟨l, hxl⟩ : ∃ l, l = x :: r := ⟨_, rfl⟩
  obtain ⟨s, hs⟩ : ∃ s, s = Lx.bs l := ⟨_, rfl⟩
  obtain ⟨n, hn⟩ : ∃ n : Int, n = (l.length : Int) := ⟨_, rfl⟩
  have hsz : (s.size : Int) = n := by rw [hs, Lx.bs_size, hn]
  have HNL : Hid (n = (l.length : Int)) := hn
  have HIX : Hid (∀ (k : Nat) (b : UInt8), l[k]? = some b → ∀ wx, (Instr.index 9 (.string s) (.int .i64 (k : Int))).run Tryz.prog wx = .ok (.int .u8 (b.toNat : Int)) wx) := fun k b hb wx => by rw [hs]; exact Lx.index_at l (k : Int) k b rfl hb wx
  have HR : Hid (Lx.quo r = Lx.quo (l.drop 1) ∧ 1 ≤ l.length) := ⟨by rw [hxl]; rfl, by rw [hxl]; simp⟩
  rw [← hxl] at hl ⊢
  rw [← hs]
  clear hs hxl hn
  obtain ⟨i0, hi, hz0, hz1, hz2⟩ := Go.info_parts infoByteL
  go_enter Tryz.func39, Tryz.ntmps39
  go_wp2
  go_loopw [4, 5] (fun o i wr => ∃ (k : Nat) (out : Lx.Bs) (lv : Value), lv = o ∧ i = .int .i64 (k : Int) ∧ 1 ≤ k ∧ k ≤ l.length ∧ Lx.Qu l k out ∧ out.length < k ∧ BO w wr out lv) (fun _ i _ => l.length - (intOf i).toNat)
  case atStart => exact ⟨1, [], _, rfl, rfl, Nat.le_refl _, HR.out.2, Lx.Qu.start l, by decide, Below.refl _ _, World.ownsRow_nil _ _ _ _⟩
  case round =>
    obtain ⟨k, out, lv, hlv, rfl, hk1, hk, hQ, hol, hB⟩ := hrel
    subst hlv
    have Q : Hid (Lx.Qu l k out) := hQ
    have B : Hid (BO w wr out lv) := hB
    clear hQ hB
    by_cases hlt : k < l.length
    · have q0 : (k : Int) < n := by rw [HNL.out]; omega
      obtain ⟨a1, a2, a3⟩ := Lx.arQ hlt (by omega)
      obtain ⟨c, hc⟩ : ∃ c, l[k]? = some c := ⟨_, List.getElem?_eq_getElem hlt⟩
      have hix := HIX.out k c hc
      have HC : Hid (l[k]? = some c) := hc
      obtain ⟨m, hm⟩ : ∃ m, m = out.length := ⟨_, rfl⟩
      have HOWN : Hid (wr.ownsRow w.heap.size 5 1 lv m (Lib.byteCells out)) := by rw [hm]; exact B.out.row
      have fit63 : Hid (m + 1 ≤ maxLen) := by show _ ≤ _; unfold maxLen; omega
      have fit47 : Hid ((m + 1) * 1 ≤ 140737488355328) := by show _ ≤ _; omega
      have HSZ2 : Hid (∀ o, w.heap.size ≤ (wr.alloc o).heap.size) := fun o => by have := B.out.below.size; simp; omega
      have HNX : Hid (∀ (b : UInt8) gg cap w5 o, (wr.alloc o).grownBy w5 lv.ownBlock → w5.ownsRow w.heap.size 5 1 (.slice (some ⟨gg, 0, none⟩) (m + 1) cap) (m + 1) (Lib.byteCells out ++ [.int .u8 (b.toNat : Int)]) → BO w w5 (out ++ [b]) (.slice (some ⟨gg, 0, none⟩) (m + 1) cap)) := by
        intro b gg cap w5 o hgr hno
        rw [hm] at hno ⊢
        exact B.out.next hgr hno
      clear hc hm
      by_cases h39 : c = 39
      · have q1 : ((c.toNat : Int) != 39) = false := by rw [h39]; rfl
        rw [h39] at HC
        clear h39
        by_cases hd : l[k + 1]? = some 39
        · have hlt2 : k + 1 < l.length := (List.getElem?_eq_some_iff.1 hd).1
          have q2 : (k : Int) + 1 < n := by rw [HNL.out]; omega
          have hix2 : ∀ wx, (Instr.index 9 (.string s) (.int .i64 ((k : Int) + 1))).run Tryz.prog wx = .ok (.int .u8 39) wx := HIX.out (k + 1) 39 hd
          have HQ2 : Hid (Lx.Qu l (k + 2) (out ++ [39])) := Q.out.two hk1 HC.out hd
          clear hd
          go_upto_region 9 with (first | (at_builtin; refine wpList_append_lies _ rfl _ _ 56 rfl w.heap.size 5 i0 _ 1 1 Tryz.underlying56 hi hz0 hz1 hz2 rfl (by decide) _ _ _ rfl (HOWN.out.alloc _) ⟨wr.heap.size, 0, none⟩ 1 1 [.int .u8 39] rfl rfl (World.news_of_block (heap_alloc_new wr _)) (by intro u hu; simp at hu; subst hu; rfl) (by decide) fit63.out fit47.out (HSZ2.out _) _ rfl ?_; intro gg cap w5 hown5 hgrow hat hglt; have S5 : Hid (BO w w5 (out ++ [39]) (.slice (some ⟨gg, 0, none⟩) (m + 1) cap)) := HNX.out 39 gg cap w5 _ hgrow hown5; clear hown5 hgrow hat hglt))
          go_wp2
          go_roundw
          case rel => exact ⟨k + 2, out ++ [39], _, rfl, by go_num, by omega, by omega, HQ2.out, by simp; omega, S5.out⟩
          case measure => simp [intOf]; omega
        · have HF : Hid (Lx.quo r = some (out, k)) := by show _ = _; rw [HR.out.1]; exact Q.out.fin hk1 HC.out hd
          have htx := B.out.text
          have HB := B.out.below
          by_cases hlt2 : k + 1 < l.length
          · have q2 : (k : Int) + 1 < n := by rw [HNL.out]; omega
            obtain ⟨d, hdd⟩ : ∃ d, l[k + 1]? = some d := ⟨_, List.getElem?_eq_getElem hlt2⟩
            have hix2 : ∀ wx, (Instr.index 9 (.string s) (.int .i64 ((k : Int) + 1))).run Tryz.prog wx = .ok (.int .u8 (d.toNat : Int)) wx := HIX.out (k + 1) d hdd
            have q3 : ((d.toNat : Int) == 39) = false := by
              rw [beq_eq_false_iff_ne]
              intro e
              refine hd ?_
              rw [hdd]
              have : d = 39 := by rw [← UInt8.toNat_inj]; show d.toNat = 39; omega
              rw [this]
            clear hd hdd
            go_wp2
            refine bodyPost_ret (results_tmp2L rfl _ _) rfl ?_
            rw [HF.out]
            exact ⟨rfl, HB⟩
          · have q2 : ¬ (k : Int) + 1 < n := by rw [HNL.out]; omega
            clear hd
            go_wp2
            refine bodyPost_ret (results_tmp2L rfl _ _) rfl ?_
            rw [HF.out]
            exact ⟨rfl, HB⟩
      · have q1 : ((c.toNat : Int) != 39) = true := by
          have : c.toNat ≠ 39 := fun e => h39 (by rw [← UInt8.toNat_inj]; exact e)
          simp; omega
        have HQ2 : Hid (Lx.Qu l (k + 1) (out ++ [c])) := Q.out.other hk1 HC.out h39
        clear h39
        go_upto_region 4 with (first | (at_builtin; refine wpList_append_lies _ rfl _ _ 56 rfl w.heap.size 5 i0 _ 1 1 Tryz.underlying56 hi hz0 hz1 hz2 rfl (by decide) _ _ _ rfl (HOWN.out.alloc _) ⟨wr.heap.size, 0, none⟩ 1 1 [.int .u8 (c.toNat : Int)] rfl rfl (World.news_of_block (heap_alloc_new wr _)) (by intro u hu; simp at hu; subst hu; rfl) (by decide) fit63.out fit47.out (HSZ2.out _) _ rfl ?_; intro gg cap w5 hown5 hgrow hat hglt; have S5 : Hid (BO w w5 (out ++ [c]) (.slice (some ⟨gg, 0, none⟩) (m + 1) cap)) := HNX.out c gg cap w5 _ hgrow hown5; clear hown5 hgrow hat hglt))
        go_wp2
        go_roundw
        case rel => exact ⟨k + 1, out ++ [c], _, rfl, by go_num, by omega, by omega, HQ2.out, by simp; omega, S5.out⟩
        case measure => simp [intOf]; omega
    · have q0 : ¬ (k : Int) < n := by rw [HNL.out]; omega
      have HN : Hid (Lx.quo r = none) := by show _ = _; rw [HR.out.1]; exact Q.out.none (by omega)
      have HB := B.out.below
      go_wp2
      refine bodyPost_ret (results_tmp2L rfl _ _) rfl ?_
      rw [HN.out]
      exact ⟨rfl, HB⟩
end Go.Proofs.YtdejnphiejkglaaGreatDoor
