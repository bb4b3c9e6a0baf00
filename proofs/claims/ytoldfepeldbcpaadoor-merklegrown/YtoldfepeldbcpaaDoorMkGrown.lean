/- The law MerkleGrown, walked. -/
import Derived.Test.YtoldfepeldbcpaaDoorMkOne
import Derived.Test.YtoldfepeldbcpaaDoorMkU
import Derived.Deep.RegionLawGrows
import Derived.Deep.AppendLies
namespace Go.Proofs.YtoldfepeldbcpaaDoor
open Go.RowKit
attribute [local go_sem ↓] Go.wp_at_zero Go.wp_at_succ
/-- two trees and a row -/
structure GS (w : World) (b1 b2 : Nat) (l1 l2 : List (List UInt8)) (B : Nat) (g : Value) (k : Nat) (G : List (List UInt8)) (W : World) : Prop where
  below : Below w.heap.size w W
  t1 : Tr W b1 l1
  t2 : Tr W b2 l2
  a1 : w.heap.size ≤ b1
  a2 : w.heap.size ≤ b2
  n12 : b1 ≠ b2
  row : W.ownsRow B 9 1 g k (scs G)
theorem GS.call {w W W' : World} {b1 b2 B k : Nat} {l1 l2 G : List (List UInt8)} {g : Value} (h : GS w b1 b2 l1 l2 B g k G W) (hb : Below W.heap.size W W') : GS w b1 b2 l1 l2 B g k G W' :=
  ⟨h.below.trans (hb.mono h.below.size), h.t1.call hb, h.t2.call hb, h.a1, h.a2, h.n12, own_stays h.row hb⟩
theorem GS.g1 {w W W' : World} {b1 b2 B k : Nat} {l1 l2 G : List (List UInt8)} {g : Value} (h : GS w b1 b2 l1 l2 B g k G W) (hT : Tr W' b1 l1) (hg : Gr b1 W W') : GS w b1 b2 l1 l2 B g k G W' :=
  ⟨h.below.trans (hg.below h.a1 h.below.size), hT, h.t2.gr h.t1 h.n12.symm hg, h.a1, h.a2, h.n12, own_gr h.t1 hg h.row⟩
theorem GS.g2 {w W W' : World} {b1 b2 B k : Nat} {l1 l2 G : List (List UInt8)} {g : Value} (h : GS w b1 b2 l1 l2 B g k G W) (hT : Tr W' b2 l2) (hg : Gr b2 W W') : GS w b1 b2 l1 l2 B g k G W' :=
  ⟨h.below.trans (hg.below h.a2 h.below.size), h.t1.gr h.t2 h.n12 hg, hT, h.a1, h.a2, h.n12, own_gr h.t2 hg h.row⟩
theorem GS.drew {w W : World} {b1 b2 B k : Nat} {l1 l2 G : List (List UInt8)} {g : Value} (h : GS w b1 b2 l1 l2 B g k G W) : GS w b1 b2 l1 l2 B g k G W.drew := h.call (Below.refl _ _).drew
theorem GS.alloc {w W : World} {b1 b2 B k : Nat} {l1 l2 G : List (List UInt8)} {g : Value} (h : GS w b1 b2 l1 l2 B g k G W) (o : Obj) : GS w b1 b2 l1 l2 B g k G (W.alloc o) := h.call ((Below.refl _ _).alloc (Nat.le_refl _) o)
theorem GS.at {w W W' : World} {b1 b2 B k : Nat} {l1 l2 G : List (List UInt8)} {g : Value} (_ : W.grownBy W' none) (h : GS w b1 b2 l1 l2 B g k G W) : GS w b1 b2 l1 l2 B g k G W := h
/-- no growth of another size shows that the tree grew -/
theorem grew_no (l : List (List UInt8)) (hn : l.length ≤ 1024) (m : Nat) (hm : m ≤ l.length) (old root : ByteArray) (ho : old = bs (Mk.root (l.take m))) (hr : root = bs (Mk.root l)) (pa : Option Addr) (pn pc : Nat) (hkc : pn ≤ pc) (G : List (List UInt8)) (hG : G.length ≠ (if m = 0 then [] else Mk.growth l m).length) (hGl : G.length ≤ 9223372036854775807) (w : World) (hK : HasK w)
    (hS : Sl w w.heap.size (.slice pa pn pc) G) :
    Calls Tryd.prog 7 #[.string old, .string root, .int .i64 (m : Int), .int .i64 (l.length : Int), .slice pa pn pc] w fun e w' => e = .returned (.bool false) ∧ Below w.heap.size w w' := by
  have hlen := hS.len
  rcases Nat.eq_zero_or_pos m with h0 | h0
  · subst h0
    rw [if_pos rfl] at hG
    have hk : ((pn : Int) == 0) = false := by rw [beq_eq_false_iff_ne]; simp at hG; have : G.length ≠ 0 := by simpa using hG
                                              omega
    have := grew_zero old root l.length hn (by rw [ho, List.take_zero, Mk.root_none]) (fun h => by rw [hr, ho, List.eq_nil_of_length_eq_zero h]; rfl) pa pn pc w hK
    rw [hk] at this
    exact this
  · rw [if_neg (by omega)] at hG
    by_cases hml : m = l.length
    · have hg : Mk.growth l m = [] := by
        unfold Mk.growth
        rw [Mk.tw_end (.inr (by simp [Mk.e2, hml]))]
        rfl
      have hk : ((pn : Int) == 0) = false := by rw [beq_eq_false_iff_ne]; rw [hg] at hG; have : G.length ≠ 0 := by simpa using hG
                                                omega
      have e1 : old = root := by rw [ho, hr, hml, List.take_length]
      subst e1
      rw [hml]
      refine (grew_all old l.length (by omega) hn pa pn pc w).mono ?_
      rintro e w' ⟨rfl, rfl⟩
      exact ⟨by rw [hk], Below.refl _ _⟩
    · have hg := Mk.growth_length l m
      have := grew_in old root (by rw [ho, bs_size, Mk.root_length]) m l.length h0 (by omega) hn pa pn pc hkc G hGl w.heap.size w hK (Nat.le_refl _) hS
      rw [Mk.grew_length (by rw [← hg]; exact hG)] at this
      exact this
theorem step_append_sl {ops : Array Oper} {E : Prop} {o : Oper} {a : Act} {w : World} {K : Act → World → Prop} {Q : Exit → Act → World → Prop} (hgd : o.guard = none) (s x : Operand)
    (ho : o.op = .call { callee := .builtin .append, args := #[s, x], argTypes := #[22, 22] }) (base : Nat) (v : Value) (n : Nat) (don : List (List UInt8)) (hs : a.eval s = v) (hown : w.ownsRow base 9 1 v n (scs don))
    (xa : Option Addr) (m c : Nat) (H : Nat) (l : List (List UInt8)) (hx : a.eval x = .slice xa m c) (hS : Sl w H (.slice xa m c) l) (h63 : n + m ≤ 1048576) (hbase : base ≤ w.heap.size)
    (h : ∀ v' w', w'.ownsRow base 9 1 v' (n + m) (scs (don ++ l)) → Below base w w' → K (a.put o.dst v') w') : if Region.wanted o (yielded ops a.tmps) = true then Oper.wp Tryd.prog o a w K Q else E := by
  have hw : Region.wanted o (yielded ops a.tmps) = true := by simp [Region.wanted, hgd]
  rw [if_pos hw]
  exact wp_append_sl s x ho base v n don hs hown xa m c H l hx hS h63 hbase h
/-- what lies from a block on stays -/
def Kp (H : Nat) (W W' : World) : Prop := ∀ L x, H ≤ L → W.heap[L]? = some x → W'.heap[L]? = some x
theorem Kp.of {H : Nat} {W W' : World} (h : W.grownBy W' none) : Kp H W W' := fun L _ _ e => (h.block L (Array.getElem?_eq_some_iff.1 e).1 (by simp)).trans e
theorem Kp.gr {H b : Nat} {W W' : World} (hb : b < H) (h : Gr b W W') : Kp H W W' := fun L _ hL e => (h.block L (Array.getElem?_eq_some_iff.1 e).1 (fun q => by injection q; omega)).trans e
theorem al_old {W : World} {o x : Obj} {L : Nat} (h : W.heap[L]? = some x) : (W.alloc o).heap[L]? = some x := (heap_alloc_old W o (Array.getElem?_eq_some_iff.1 h).1).trans h
theorem al_new1 (W : World) (o p : Obj) : ((W.alloc o).alloc p).heap[W.heap.size + 1]? = some p := by
  have := heap_alloc_new (W.alloc o) p
  simpa using this
theorem own_plus {W : World} {base k : Nat} {v : Value} {G : List (List UInt8)} {s : ByteArray} (h : W.ownsRow base 9 1 v (k + 1) (scs G ++ [.string s])) : ∃ g c, v = .slice (some ⟨g, 0, none⟩) (k + 1) c ∧ (k + 1 ≤ c ∧ Sl W W.heap.size (.slice (some ⟨g, 0, none⟩) (k + 1) c) (G ++ [s.data.toList])) := by
  have e : scs G ++ [.string s] = scs (G ++ [s.data.toList]) := by simp [scs, encS, bs_data]
  rw [e] at h
  have hl : (G ++ [s.data.toList]).length = k + 1 := by have := h.1; rw [scs_length] at this; omega
  have hs := own_sl (by rw [hl]; exact h)
  rcases h.2 with ⟨_, h2⟩ | ⟨g, c, cur, rfl, _, _, h3, _⟩
  · omega
  · exact ⟨g, c, rfl, h3, hs⟩
theorem step_append_none {ops : Array Oper} {E : Prop} {o : Oper} {a : Act} {w : World} {K : Act → World → Prop} {Q : Exit → Act → World → Prop} (hgd : o.guard = none) (s x : Operand)
    (ho : o.op = .call { callee := .builtin .append, args := #[s, x], argTypes := #[22, 22] }) (b : Option Addr) (n c : Nat) (hnc : n ≤ c) (hs : a.eval s = .slice b n c)
    (xa : Option Addr) (cx : Nat) (hx : a.eval x = .slice xa 0 cx)
    (h : K (a.put o.dst (.slice b n c)) w) : if Region.wanted o (yielded ops a.tmps) = true then Oper.wp Tryd.prog o a w K Q else E := by
  have hw : Region.wanted o (yielded ops a.tmps) = true := by simp [Region.wanted, hgd]
  rw [if_pos hw]
  have hrun := append_nothing xa cx w b n c hnc o.type
  unfold Oper.wp execOp
  simp only [ho, resolve, invoke, builtin, Sem.run_bind, Sem.run_pure, Result.andThen_ok, List.map_toArray, List.map_cons, List.map_nil, hs, hx, hrun]
  exact h
/-- a text behind nothing -/
theorem step_one {ops : Array Oper} {E : Prop} {o : Oper} {a : Act} {w : World} {K : Act → World → Prop} {Q : Exit → Act → World → Prop} (hgd : o.guard = none) (s x : Operand)
    (ho : o.op = .call { callee := .builtin .append, args := #[s, x], argTypes := #[22, 22] }) (L1 : Addr) (hs : a.eval s = .slice (some L1) 0 0) (t : ByteArray) (L : Nat) (hx : a.eval x = .slice (some ⟨L, 0, none⟩) 1 1)
    (hL : w.heap[L]? = some (.cells #[.string t] 9 (0, 0)))
    (h : ∀ v' w', w'.ownsRow w.heap.size 9 1 v' 1 (scs [] ++ [.string t]) → w.grownBy w' none → K (a.put o.dst v') w') : if Region.wanted o (yielded ops a.tmps) = true then Oper.wp Tryd.prog o a w K Q else E := by
  obtain ⟨i0, hi, hz0, hz1, hz2⟩ := info_parts info9
  exact step_append_grows hgd s x 22 ho 9 i0 _ 1 16 Tryd.underlying22 hi hz0 hz1 hz2 rfl (by decide) (some L1) 0 0 [] hs (fun h => by cases h) rfl (fun _ _ j u h => by simp at h) ⟨L, 0, none⟩ 1 1 [.string t] hx rfl (World.news_of_block hL) (by simp [Value.oneCell']) (by decide) (by decide) (by decide) h
/-- texts behind nothing -/
theorem step_all {ops : Array Oper} {E : Prop} {o : Oper} {a : Act} {w : World} {K : Act → World → Prop} {Q : Exit → Act → World → Prop} (hgd : o.guard = none) (s x : Operand)
    (ho : o.op = .call { callee := .builtin .append, args := #[s, x], argTypes := #[22, 22] }) (L1 : Addr) (hs : a.eval s = .slice (some L1) 0 0) (B g k : Nat) (G : List (List UInt8)) (h0 : 0 < k) (hk : k ≤ 11) (hx : a.eval x = .slice (some ⟨g, 0, none⟩) k k)
    (hL : w.ownsRow B 9 1 (.slice (some ⟨g, 0, none⟩) k k) k (scs G))
    (h : ∀ v' w', w'.ownsRow w.heap.size 9 1 v' k (scs G) → w.grownBy w' none → K (a.put o.dst v') w') : if Region.wanted o (yielded ops a.tmps) = true then Oper.wp Tryd.prog o a w K Q else E := by
  obtain ⟨i0, hi, hz0, hz1, hz2⟩ := info_parts info9
  have hl : (scs G).length = k * 1 := hL.1
  refine step_append_grows hgd s x 22 ho 9 i0 _ 1 16 Tryd.underlying22 hi hz0 hz1 hz2 rfl (by decide) (some L1) 0 0 [] hs (fun h => by cases h) rfl (fun _ _ j u h => by simp at h) ⟨g, 0, none⟩ k k (scs G) hx hl ?_ ?_ (by omega) (by unfold maxLen; omega) (by omega) (fun v' w' h1 h2 => h v' w' (by simpa using h1) h2)
  · have hs := own_sl (l := G) (by rw [scs_length] at hl; rw [show G.length = k by omega]; exact hL)
    obtain ⟨b, off, e, _, _, hc⟩ := hs.at (by rw [scs_length] at hl; omega)
    injection e with e
    injection e with e1 e2 e3
    subst e1 e2
    intro j u hj
    simp only [scs, List.getElem?_map, Option.map_eq_some_iff] at hj
    obtain ⟨y, hy, rfl⟩ := hj
    have := hc j y hy
    rw [Go.WideShapes.add_plain]; exact this
  · intro u hu
    obtain ⟨y, _, rfl⟩ := List.mem_map.1 hu
    rfl
/-- a text behind a row of the call's own -/
theorem step_more {ops : Array Oper} {E : Prop} {o : Oper} {a : Act} {w : World} {K : Act → World → Prop} {Q : Exit → Act → World → Prop} (hgd : o.guard = none) (s x : Operand)
    (ho : o.op = .call { callee := .builtin .append, args := #[s, x], argTypes := #[22, 22] }) (H k : Nat) (v : Value) (G : List (List UInt8)) (hk : k ≤ 11) (hs : a.eval s = v) (hown : w.ownsRow H 9 1 v k (scs G)) (t : ByteArray) (L : Nat) (hx : a.eval x = .slice (some ⟨L, 0, none⟩) 1 1)
    (hL : w.heap[L]? = some (.cells #[.string t] 9 (0, 0))) (hH : H ≤ w.heap.size)
    (h : ∀ v' w', w'.ownsRow H 9 1 v' (k + 1) (scs G ++ [.string t]) → Below H w w' → K (a.put o.dst v') w') : if Region.wanted o (yielded ops a.tmps) = true then Oper.wp Tryd.prog o a w K Q else E := by
  obtain ⟨i0, hi, hz0, hz1, hz2⟩ := info_parts info9
  refine step_append_lies _ hgd s x 22 ho H 9 i0 _ 1 16 Tryd.underlying22 hi hz0 hz1 hz2 rfl (by decide) v k (scs G) hs hown ⟨L, 0, none⟩ 1 1 [.string t] hx rfl (World.news_of_block hL) (by simp [Value.oneCell']) (by decide) (by unfold maxLen; omega) (by omega) hH _ rfl ?_
  intro g cap w' h1 h2 _ _
  exact h _ _ h1 ((Below.refl H w).grown h2 hH (own_le hown))
end Go.Proofs.YtoldfepeldbcpaaDoor
