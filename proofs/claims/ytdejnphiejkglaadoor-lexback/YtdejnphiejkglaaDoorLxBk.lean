/- LexBack, walked. -/
import Derived.Test.YtdejnphiejkglaaDoorLxZ
namespace Go.Proofs.YtdejnphiejkglaaDoor
open Go.RowKit
/-- the text so far, its tokens in memory -/
structure BS (w W : World) (b txt : Lx.Bs) (ts : List Lx.Tk) (lv : Value) : Prop where
  below : Below w.heap.size w W
  bt : Lx.BT b txt ts
  len : txt.length ≤ 16384
  row : W.ownsRow w.heap.size 26 4 lv ts.length (Lx.tcs ts)
theorem BS.call {w W W' : World} {b txt : Lx.Bs} {ts : List Lx.Tk} {lv : Value} (h : BS w W b txt ts lv) (hb : Below W.heap.size W W') : BS w W' b txt ts lv :=
  ⟨h.below.trans (hb.mono h.below.size), h.bt, h.len, own_callL h.row hb⟩
theorem BS.next {w W W3 W4 W5 : World} {gg cap : Nat} {b txt s : Lx.Bs} {ts : List Lx.Tk} {lv : Value} {k : Nat} {t : Lx.Bs} {n : Int} (hb : ∀ x ∈ b, Lx.blank x) (h : BS w W b txt ts lv) (hs : Lx.shw k t n = some s) (hl : txt.length + s.length + b.length < 16384) (h3 : Below W.heap.size W W3) (h4 : Below W3.heap.size W3 W4) (hg : W4.grownBy W5 lv.ownBlock)
    (hn : W5.ownsRow w.heap.size 26 4 (.slice (some ⟨gg, 0, none⟩) (ts.length + 1) cap) (ts.length + 1) (Lx.tcs ts ++ [.int .u8 (k : Int), .string (Lx.bs t), .int .i64 n, .int .i64 (txt.length : Int)])) : BS w W5 b (txt ++ (s ++ 32 :: b)) (ts ++ [⟨k, t, n, txt.length⟩]) (.slice (some ⟨gg, 0, none⟩) (ts.length + 1) cap) := by
  have hb2 : Below W.heap.size W W4 := h3.trans (h4.mono h3.size)
  have hs0 := h.below.size
  have hs4 := hb2.size
  have hb5 : Below w.heap.size W4 W5 := (Below.refl _ _).grown hg (by omega) (fun k hk => (own_lt h.row k hk).1)
  refine ⟨(h.below.trans (hb2.mono h.below.size)).trans hb5, h.bt.next hb hs, by simp; omega, ?_⟩
  rw [List.length_append, Lx.tcs_snoc]
  exact hn
theorem Lx.blank_ne (x : UInt8) : ¬ (x = 32 ∨ x = 9 ∨ x = 10 ∨ x = 13) → ((x.toNat : Int) == 32) = false ∧ ((x.toNat : Int) == 9) = false ∧ ((x.toNat : Int) == 10) = false ∧ ((x.toNat : Int) == 13) = false :=
  Lx.byte_all (P := fun x => ¬ (x = 32 ∨ x = 9 ∨ x = 10 ∨ x = 13) → ((x.toNat : Int) == 32) = false ∧ ((x.toNat : Int) == 9) = false ∧ ((x.toNat : Int) == 10) = false ∧ ((x.toNat : Int) == 13) = false) (by decide +kernel) x
theorem Lx.blank_is (x : UInt8) : (x = 32 ∨ x = 9 ∨ x = 10 ∨ x = 13) → x.toNat = 32 ∨ x.toNat = 9 ∨ x.toNat = 10 ∨ x.toNat = 13 :=
  Lx.byte_all (P := fun x => (x = 32 ∨ x = 9 ∨ x = 10 ∨ x = 13) → x.toNat = 32 ∨ x.toNat = 9 ∨ x.toNat = 10 ∨ x.toNat = 13) (by decide +kernel) x
theorem Lx.arM {j : Nat} (h : j < 140737488351232) : wrap64 ((j : Int) + 1) = (j : Int) + 1 := by unfold wrap64; omega
theorem Lx.arN {j : Nat} (h : wrap64 ((j : Int) + 1) = (j : Int) + 1) : (Value.int .i64 (wrap64 ((j : Int) + 1))) = .int .i64 ((j + 1 : Nat) : Int) := by rw [h]; rfl
theorem Lx.arP {j m : Nat} (h : j < m) (hw : wrap64 ((j : Int) + 1) = (j : Int) + 1) : m - (intOf (.int .i64 (wrap64 ((j : Int) + 1)))).toNat < m - (intOf (.int .i64 (j : Int))).toNat := by
  rw [hw]
  exact Lx.arD h
theorem Lx.arL {j m : Nat} (h : j < m) : m - (((j + 1 : Nat) : Int)).toNat < m - ((j : Int)).toNat := by omega
theorem Lx.arK {a b c : Nat} {na nb nc : Int} (ha : na = (a : Int)) (hb : nb = (b : Int)) (hc : nc = (c : Int)) (h1 : a ≤ 16384) (h2 : b ≤ 16384) (h3 : c ≤ 140737488351232) : wrap64 (wrap64 (na + nb) + nc) = ((a + b + c : Nat) : Int) := by unfold wrap64; omega
set_option maxHeartbeats 8000000 in
set_option maxRecDepth 100000 in
theorem lexBack_c (l : List Lx.At) (b : Lx.Bs) (hbl : b.length ≤ 140737488351232) (v : Value) (w : World) (hA : TA w w.heap.size v l) (hln : l.length ≤ 9223372036854775807) (hL : HasL w) : Calls Tryd.prog 3 #[v, .string (Lx.bs b)] w fun e w' => e = .returned (.bool true) ∧ Below w.heap.size w w' := by
  have HL : Hid (∀ W, Below w.heap.size w W → HasL W) := fun W hW => hL.stays hW
  have HA : Hid (∀ W, Below w.heap.size w W → TA W w.heap.size v l) := fun W hW => hA.call hW
  have CL : Hid (Calls Tryd.prog 7 #[] w fun e w' => e = .returned (.bool true) ∧ Below w.heap.size w w') := livesL_c w hL
  have CX : Hid (∀ (txt : Lx.Bs) W, txt.length ≤ 16384 → Below w.heap.size w W → Calls Tryd.prog 9 #[.string (Lx.bs txt)] W (Lx.LexGave (Lx.lex txt) W)) := fun txt W ht hW => lex_c txt (by omega) W (HL.out W hW)
  obtain ⟨va, vc, rfl, hA2⟩ := hA
  clear hA2
  obtain ⟨s, hs⟩ : ∃ s, s = Lx.bs b := ⟨_, rfl⟩
  obtain ⟨nb, hnb⟩ : ∃ n : Int, n = (b.length : Int) := ⟨_, rfl⟩
  have hsz : (s.size : Int) = nb := by rw [hs, Lx.bs_size, hnb]
  have HN : Hid (nb = (b.length : Int)) := hnb
  have HIX : Hid (∀ (k : Nat) (x : UInt8), b[k]? = some x → ∀ wx, (Instr.index 9 (.string s) (.int .i64 (k : Int))).run Tryd.prog wx = .ok (.int .u8 ((x.toNat : Nat) : Int)) wx) := fun k x hx wx => by rw [hs]; exact Lx.index_at b k k x rfl hx wx
  have HS : Hid (s = Lx.bs b) := hs
  have HBL : Hid (b.length ≤ 140737488351232) := hbl
  obtain ⟨ir, hir, hr0, hr1, hr2⟩ := Go.info_parts infoTok3
  rw [← hs]
  clear hs hnb hL hbl
  go_enter Tryd.func3, Tryd.ntmps3
  go_wp2_with fail
  refine Calls.mono CL.out ?_
  rintro e w1 ⟨rfl, hb1⟩
  have HB1 : Hid (Below w.heap.size w w1) := hb1
  clear hb1 CL
  go_wp2
  go_loopw [5] (fun i wr => ∃ j : Nat, j ≤ b.length ∧ i = .int .i64 (j : Int) ∧ wr = w1 ∧ ∀ x ∈ b.take j, Lx.blank x) (fun i _ => b.length - (intOf i).toNat)
  case atStart => exact ⟨0, Nat.zero_le _, rfl, rfl, fun x hx => by simp at hx⟩
  case round =>
    obtain ⟨j, hj, rfl, hwr, hin⟩ := hrel
    subst hwr
    have HIN : Hid (∀ x ∈ b.take j, Lx.blank x) := hin
    clear hin
    by_cases hlt : j < b.length
    · have q0 : (j : Int) < nb := by rw [HN.out]; omega
      obtain ⟨x, hx⟩ : ∃ x, b[j]? = some x := ⟨_, List.getElem?_eq_getElem hlt⟩
      have hix := HIX.out j x hx
      have hw1 : wrap64 ((j : Int) + 1) = (j : Int) + 1 := Lx.arM (Nat.lt_of_lt_of_le hlt HBL.out)
      have HX : Hid (b[j]? = some x) := hx
      clear hx
      by_cases hxb : Lx.blank x
      · have A : Hid (∀ y ∈ b.take (j + 1), Lx.blank y) := fun y hy => by
          rw [List.take_add_one, HX.out] at hy
          simp at hy
          rcases hy with hy | rfl
          · exact HIN.out y hy
          · exact hxb
        obtain ⟨xn, hxn⟩ : ∃ xn, xn = x.toNat := ⟨_, rfl⟩
        rw [← hxn] at hix
        have hd : xn = 32 ∨ xn = 9 ∨ xn = 10 ∨ xn = 13 := by rw [hxn]; exact Lx.blank_is x hxb
        clear hxn hxb HX
        have hd2 : ((xn : Int) == 32) = true ∨ (((xn : Int) == 32) = false ∧ ((xn : Int) == 9) = true) ∨ (((xn : Int) == 32) = false ∧ ((xn : Int) == 9) = false ∧ ((xn : Int) == 10) = true) ∨ (((xn : Int) == 32) = false ∧ ((xn : Int) == 9) = false ∧ ((xn : Int) == 10) = false ∧ ((xn : Int) == 13) = true) := by
          rcases hd with rfl | rfl | rfl | rfl
          · exact Or.inl rfl
          · exact Or.inr (Or.inl ⟨rfl, rfl⟩)
          · exact Or.inr (Or.inr (Or.inl ⟨rfl, rfl, rfl⟩))
          · exact Or.inr (Or.inr (Or.inr ⟨rfl, rfl, rfl, rfl⟩))
        clear hd
        rcases hd2 with h1 | ⟨h1, h2⟩ | ⟨h1, h2, h3⟩ | ⟨h1, h2, h3, h4⟩
        · have r1 : ((xn : Int) != 32) = false := by rw [bne, h1]; rfl
          go_wp2
          go_roundw
          case rel => first | exact ⟨j + 1, Nat.succ_le_of_lt hlt, Lx.arN hw1, rfl, A.out⟩ | exact ⟨j + 1, Nat.succ_le_of_lt hlt, Lx.arN hw1, trivial, A.out⟩
          case measure => exact Lx.arP hlt hw1
        · have r1 : ((xn : Int) != 32) = true := by rw [bne, h1]; rfl
          have r2 : ((xn : Int) != 9) = false := by rw [bne, h2]; rfl
          go_wp2
          go_roundw
          case rel => first | exact ⟨j + 1, Nat.succ_le_of_lt hlt, Lx.arN hw1, rfl, A.out⟩ | exact ⟨j + 1, Nat.succ_le_of_lt hlt, Lx.arN hw1, trivial, A.out⟩
          case measure => exact Lx.arP hlt hw1
        · have r1 : ((xn : Int) != 32) = true := by rw [bne, h1]; rfl
          have r2 : ((xn : Int) != 9) = true := by rw [bne, h2]; rfl
          have r3 : ((xn : Int) != 10) = false := by rw [bne, h3]; rfl
          go_wp2
          go_roundw
          case rel => first | exact ⟨j + 1, Nat.succ_le_of_lt hlt, Lx.arN hw1, rfl, A.out⟩ | exact ⟨j + 1, Nat.succ_le_of_lt hlt, Lx.arN hw1, trivial, A.out⟩
          case measure => exact Lx.arP hlt hw1
        · have r1 : ((xn : Int) != 32) = true := by rw [bne, h1]; rfl
          have r2 : ((xn : Int) != 9) = true := by rw [bne, h2]; rfl
          have r3 : ((xn : Int) != 10) = true := by rw [bne, h3]; rfl
          have r4 : ((xn : Int) != 13) = false := by rw [bne, h4]; rfl
          go_wp2
          go_roundw
          case rel => first | exact ⟨j + 1, Nat.succ_le_of_lt hlt, Lx.arN hw1, rfl, A.out⟩ | exact ⟨j + 1, Nat.succ_le_of_lt hlt, Lx.arN hw1, trivial, A.out⟩
          case measure => exact Lx.arP hlt hw1
      · obtain ⟨xn, hxn⟩ : ∃ xn, xn = x.toNat := ⟨_, rfl⟩
        rw [← hxn] at hix
        have hne := Lx.blank_ne x hxb
        rw [← hxn] at hne
        obtain ⟨q1, q2, q3, q4⟩ := hne
        have r1 : ((xn : Int) != 32) = true := by rw [bne, q1]; rfl
        have r2 : ((xn : Int) != 9) = true := by rw [bne, q2]; rfl
        have r3 : ((xn : Int) != 10) = true := by rw [bne, q3]; rfl
        have r4 : ((xn : Int) != 13) = true := by rw [bne, q4]; rfl
        have HF := HB1.out
        clear hxn hxb HX
        go_wp2
        go_ret
        exact ⟨rfl, HF⟩
    · have q0 : ¬ (j : Int) < nb := by rw [HN.out]; omega
      have HB : Hid (∀ x ∈ b, Lx.blank x) := by
        have h := HIN.out
        rw [List.take_of_length_le (by omega)] at h
        exact h
      clear HIN HIX
      obtain ⟨w2, hw2⟩ : ∃ w2, w2 = wr := ⟨_, rfl⟩
      rw [← hw2] at HB1
      rw [← hw2]
      clear hw2
      obtain ⟨m, hm⟩ : ∃ m, m = l.length := ⟨_, rfl⟩
      have HM : Hid (m = l.length) := hm
      rw [← hm] at HA hln
      rw [← hm]
      clear hm hj hlt
      go_wp2
      go_loopw [6, 7, 47] (fun tv ov i wr => ∃ (j : Nat) (txt : Lx.Bs) (ts : List Lx.Tk) (lv : Value), lv = ov ∧ j ≤ m ∧ tv = .string (Lx.bs txt) ∧ i = .int .i64 (j : Int) ∧ BS w wr b txt ts lv) (fun _ _ i _ => m - (intOf i).toNat)
      case atStart => exact ⟨0, [], [], _, rfl, Nat.zero_le _, rfl, rfl, HB1.out, Or.inl ⟨rfl, rfl⟩, by simp, World.ownsRow_nil _ _ _ _⟩
      case round =>
        obtain ⟨j, txt, ts, lv, hlv, hj, rfl, rfl, hS⟩ := hrel
        subst hlv
        have S : Hid (BS w wr b txt ts lv) := hS
        clear hS
        obtain ⟨tx, htx⟩ : ∃ tx, tx = Lx.bs txt := ⟨_, rfl⟩
        obtain ⟨nt, hnt⟩ : ∃ n : Int, n = (txt.length : Int) := ⟨_, rfl⟩
        have hszt : (tx.size : Int) = nt := by rw [htx, Lx.bs_size, hnt]
        have HTX : Hid (tx = Lx.bs txt) := htx
        have HNT : Hid (nt = (txt.length : Int)) := hnt
        rw [← htx]
        clear htx hnt
        by_cases hlt : j < m
        · have q0 : (j : Int) < (m : Int) := by omega
          obtain ⟨va', vc', e, hTA⟩ := HA.out _ S.out.below
          cases e
          obtain ⟨g, o, rfl, hg, hc⟩ := hTA (by rw [← HM.out]; omega)
          obtain ⟨⟨tk, tt, tn, ta⟩, ht⟩ : ∃ t, l[j]? = some t := ⟨_, List.getElem?_eq_getElem (by rw [← HM.out]; exact hlt)⟩
          obtain ⟨tb, htb⟩ : ∃ tb, tb = Lx.bs tt := ⟨_, rfl⟩
          have hcc := hc j _ ht
          simp only at hcc
          rw [← htb] at hcc
          obtain ⟨hnn, d0, d1, d2, d3⟩ := hcc
          have HTB : Hid (tb = Lx.bs tt) := htb
          obtain ⟨os, hos⟩ : ∃ os, os = Lx.shw tk tt tn := ⟨_, rfl⟩
          have HOS : Hid (os = Lx.shw tk tt tn) := hos
          have CS : Hid (∀ W, Below w.heap.size w W → Calls Tryd.prog 8 #[.agg #[.int .u8 (tk : Int), .string tb, .int .i64 tn, .int .i64 ta]] W fun e w' => e = Lx.shown os ∧ Below W.heap.size W w') := fun W hW => by
            rw [hos, htb]
            exact show_c tk tt tn ta hnn W (HL.out W hW)
          clear hTA hc hg ht htb hnn hos
          go_upto_region 13 with fail
          obtain ⟨w3, hw3⟩ : ∃ w3, w3 = wr.alloc (.cells #[.int .u8 (tk : Int), .string tb, .int .i64 tn, .int .i64 ta] 26) := ⟨_, rfl⟩
          obtain ⟨Q, hQ⟩ : ∃ Q, Q = wr.heap.size := ⟨_, rfl⟩
          have X3 : Hid (w3.heap[Q]? = some (.cells #[.int .u8 (tk : Int), .string tb, .int .i64 tn, .int .i64 ta] 26 (0, 0)) ∧ Below wr.heap.size wr w3 ∧ wr.heap.size ≤ Q) := by rw [hw3, hQ]; exact ⟨heap_alloc_new wr _, (Below.refl _ _).alloc (Nat.le_refl _) _, Nat.le_refl _⟩
          rw [← hw3, ← hQ]
          clear hw3 hQ d0 d1 d2 d3
          have B3 : Hid (Below w.heap.size w w3) := S.out.below.trans (X3.out.2.1.mono S.out.below.size)
          obtain ⟨c0, c1, c2, c3⟩ : w3.cell? ⟨Q, 0, none⟩ = some (.int .u8 (tk : Int)) ∧ w3.cell? ⟨Q, 1, none⟩ = some (.string tb) ∧ w3.cell? ⟨Q, 2, none⟩ = some (.int .i64 tn) ∧ w3.cell? ⟨Q, 3, none⟩ = some (.int .i64 ta) := by
            refine ⟨?_, ?_, ?_, ?_⟩ <;> (rw [cell_of_row _ _ _ _ _ _ X3.out.1]; rfl)
          go_wp2_with fail
          refine Calls.mono (CS.out _ B3.out) ?_
          rintro e w4 ⟨rfl, hb4⟩
          have HB4 : Hid (Below w3.heap.size w3 w4) := hb4
          have HBW : Hid (Below wr.heap.size wr w4) := X3.out.2.1.trans (hb4.mono X3.out.2.1.size)
          clear hb4 CS c0 c1 c2 c3
          cases os with
          | none =>
            simp only [Lx.shown]
            have S4 := S.out.call HBW.out
            go_wp2
            go_roundw
            case rel => first | exact ⟨j + 1, txt, ts, _, rfl, Nat.succ_le_of_lt hlt, by rw [HTX.out], by go_num, S4⟩ | ((repeat apply Exists.intro); exact ⟨⟨j + 1, txt, ts, _, rfl, Nat.succ_le_of_lt hlt, by rw [HTX.out], by go_num, S4⟩, rfl, rfl⟩)
            case measure =>
              simp only [intOf]
              exact Lx.arD hlt
          | some sh =>
            simp only [Lx.shown]
            have hshl := Lx.shw_len HOS.out.symm
            obtain ⟨sx, hsx⟩ : ∃ sx, sx = Lx.bs sh := ⟨_, rfl⟩
            obtain ⟨ns, hns⟩ : ∃ n : Int, n = (sh.length : Int) := ⟨_, rfl⟩
            have hszs : (sx.size : Int) = ns := by rw [hsx, Lx.bs_size, hns]
            have hsum := Lx.arK HNT.out hns HN.out S.out.len hshl HBL.out
            obtain ⟨nn, hnn⟩ : ∃ n : Int, n = ((txt.length + sh.length + b.length : Nat) : Int) := ⟨_, rfl⟩
            rw [← hnn] at hsum
            have HSX : Hid (sx = Lx.bs sh) := hsx
            rw [← hsx]
            clear hsx hns
            by_cases hbig : 16384 ≤ txt.length + sh.length + b.length
            · have q5 : (16384 : Int) ≤ nn := by rw [hnn]; omega
              have S4 := S.out.call HBW.out
              clear hnn hbig hshl
              go_wp2
              go_roundw
              case rel => first | exact ⟨j + 1, txt, ts, _, rfl, Nat.succ_le_of_lt hlt, by rw [HTX.out], by go_num, S4⟩ | ((repeat apply Exists.intro); exact ⟨⟨j + 1, txt, ts, _, rfl, Nat.succ_le_of_lt hlt, by rw [HTX.out], by go_num, S4⟩, rfl, rfl⟩)
              case measure =>
                simp only [intOf]
                exact Lx.arD hlt
            · have q5 : ¬ (16384 : Int) ≤ nn := by rw [hnn]; omega
              have HLN : Hid (txt.length + sh.length + b.length < 16384) := by show _ < _; omega
              clear hnn hbig hshl
              have v4 : w4.heap[Q]? = some (.cells #[.int .u8 (tk : Int), .string tb, .int .i64 tn, .int .i64 ta] 26 (0, 0)) := (HB4.out.block _ (Array.getElem?_eq_some_iff.1 X3.out.1).1).trans X3.out.1
              have V4 : Hid (w4.heap[Q]? = some (.cells #[.int .u8 (tk : Int), .string tb, .int .i64 tn, .int .i64 ta] 26 (0, 0))) := v4
              have c3 : w4.cell? ⟨Q, 3, none⟩ = some (.int .i64 ta) := by rw [cell_of_row _ _ _ _ _ _ v4]; rfl
              have fz := Lib.frozen_of_heap v4
              clear v4
              go_upto_region 16 with fail
              obtain ⟨w5, hw5⟩ : ∃ w5, w5 = w4.setCell ⟨Q, 3, none⟩ (.int .i64 nt) := ⟨_, rfl⟩
              have V5 : Hid (w5.heap[Q]? = some (.cells #[.int .u8 (tk : Int), .string tb, .int .i64 tn, .int .i64 nt] 26 (0, 0)) ∧ Below wr.heap.size wr w5) := by
                rw [hw5]
                exact ⟨heap_setCell_same w4 _ 3 _ 26 _ V4.out, HBW.out.setCell X3.out.2.2 _⟩
              rw [← hw5]
              clear hw5 c3 fz V4
              obtain ⟨p0, p1, p2, p3⟩ : w5.cell? ⟨Q, 0, none⟩ = some (.int .u8 (tk : Int)) ∧ w5.cell? ⟨Q, 1, none⟩ = some (.string tb) ∧ w5.cell? ⟨Q, 2, none⟩ = some (.int .i64 tn) ∧ w5.cell? ⟨Q, 3, none⟩ = some (.int .i64 nt) := by
                refine ⟨?_, ?_, ?_, ?_⟩ <;> (rw [cell_of_row _ _ _ _ _ _ V5.out.1]; rfl)
              obtain ⟨n0, hn0⟩ : ∃ n0, n0 = ts.length := ⟨_, rfl⟩
              have HOWN : Hid (w5.ownsRow w.heap.size 26 4 lv n0 (Lx.tcs ts)) := by rw [hn0]; exact own_callL S.out.row V5.out.2
              have HN0 : Hid (n0 ≤ 16384) := by
                have h1 := S.out.bt.len
                have h2 := S.out.len
                rw [hn0]
                exact Nat.le_trans h1 h2
              have fit63 : Hid (n0 + 1 ≤ maxLen) := by show _ ≤ _; have := HN0.out; unfold maxLen; omega
              have fit47 : Hid ((n0 + 1) * 40 ≤ 140737488355328) := by show _ ≤ _; have := HN0.out; omega
              have HSZ2 : Hid (w.heap.size ≤ (w5.alloc (.cells #[.int .u8 (tk : Int), .string tb, .int .i64 tn, .int .i64 nt] 26)).heap.size) := by have := V5.out.2.size; have := S.out.below.size; show _ ≤ _; simp; omega
              have HNX : Hid (∀ gg cap w6, (w5.alloc (.cells #[.int .u8 (tk : Int), .string tb, .int .i64 tn, .int .i64 nt] 26)).grownBy w6 lv.ownBlock → w6.ownsRow w.heap.size 26 4 (.slice (some ⟨gg, 0, none⟩) (n0 + 1) cap) (n0 + 1) (Lx.tcs ts ++ [.int .u8 (tk : Int), .string tb, .int .i64 tn, .int .i64 nt]) → BS w w6 b (txt ++ (sh ++ 32 :: b)) (ts ++ [⟨tk, tt, tn, txt.length⟩]) (.slice (some ⟨gg, 0, none⟩) (n0 + 1) cap)) := by
                intro gg cap w6 hgr hno
                rw [hn0] at hno ⊢
                rw [HTB.out, HNT.out] at hno
                exact BS.next (W3 := w5) HB.out S.out HOS.out.symm HLN.out V5.out.2 ((Below.refl _ _).alloc (Nat.le_refl _) _) hgr hno
              have HCAT : Hid (tx ++ (sx ++ { data := #[32] } ++ s) = Lx.bs (txt ++ (sh ++ 32 :: b))) := by
                show _ = _
                rw [HTX.out, HSX.out, HS.out]
                exact Lx.cat4 txt sh b
              have h0 : tx.size ≤ 16384 ∧ sx.size ≤ 16384 ∧ s.size ≤ 16384 := by
                rw [HTX.out, HSX.out, HS.out, Lx.bs_size, Lx.bs_size, Lx.bs_size]
                have := HLN.out
                omega
              have k1 : ¬ 9223372036854775807 < sx.size + 1 := by omega
              have k2 : ¬ 9223372036854775806 < sx.size := by omega
              have k3 : ¬ 9223372036854775807 ≤ sx.size := by omega
              have k4 : ¬ 9223372036854775807 < sx.size + 1 + s.size := by omega
              have k5 : ¬ 9223372036854775807 < tx.size + (sx.size + 1 + s.size) := by omega
              clear hn0 h0
              go_upto_region 17 with (first | (at_builtin; refine wpList_append_lies _ rfl _ _ 22 rfl w.heap.size 26 ir _ 4 40 Tryd.underlying22 hir hr0 hr1 hr2 rfl (by decide) _ _ _ rfl (HOWN.out.alloc _) ⟨w5.heap.size, 0, none⟩ 1 1 [.int .u8 (tk : Int), .string tb, .int .i64 tn, .int .i64 nt] rfl rfl (World.news_of_block (heap_alloc_new w5 _)) (by intro u hu; simp at hu; rcases hu with rfl | rfl | rfl | rfl <;> rfl) (by decide) fit63.out fit47.out HSZ2.out _ rfl ?_; intro gg cap w6 hown5 hgrow hat hglt; have S6 : Hid (BS w w6 b (txt ++ (sh ++ 32 :: b)) (ts ++ [⟨tk, tt, tn, txt.length⟩]) (.slice (some ⟨gg, 0, none⟩) (n0 + 1) cap)) := HNX.out gg cap w6 hgrow hown5; clear hown5 hgrow hat hglt))
              have S7 := S6.out
              go_wp2
              go_roundw
              case rel => first | exact ⟨j + 1, _, _, _, rfl, Nat.succ_le_of_lt hlt, by rw [HCAT.out], by go_num, S7⟩ | ((repeat apply Exists.intro); exact ⟨⟨j + 1, _, _, _, rfl, Nat.succ_le_of_lt hlt, by rw [HCAT.out], by go_num, S7⟩, rfl, rfl⟩)
              case measure =>
                simp only [intOf]
                exact Lx.arD hlt
        · have q0 : ¬ (j : Int) < (m : Int) := by omega
          have q1 : ¬ (16384 : Int) < nt := by rw [HNT.out]; have := S.out.len; omega
          have CXX : Hid (Calls Tryd.prog 9 #[.string tx] wr fun e w' => Below wr.heap.size wr w' ∧ ∃ kv, e = .returned (.tuple #[kv, .int .i64 0, .int .i64 0]) ∧ w'.ownsRow wr.heap.size 26 4 kv ts.length (Lx.tcs ts)) := by
            have h := CX.out txt wr S.out.len S.out.below
            rw [S.out.bt.lex HB.out S.out.len] at h
            rw [HTX.out]
            exact h
          have HNL : Hid (ts.length ≤ 140737488351232) := by
            have h1 := S.out.bt.len
            have h2 := S.out.len
            show _ ≤ _
            omega
          go_wp2_with fail
          refine Calls.mono CXX.out ?_
          rintro e w3 ⟨hb3, kv, rfl, hrow⟩
          have CSM : Hid (Calls Tryd.prog 10 #[kv, lv] w3 fun e w' => e = .returned (.bool true) ∧ Below w.heap.size w w') := by
            have hb : Below w.heap.size w w3 := S.out.below.trans (hb3.mono S.out.below.size)
            refine Calls.mono (sameT_c ts HNL.out kv lv w3 (TR.of hrow) (TR.of (own_callL S.out.row hb3))) ?_
            rintro e w' ⟨rfl, h5⟩
            exact ⟨rfl, hb.trans (h5.mono hb.size)⟩
          clear hb3 hrow CXX
          go_wp2_with fail
          refine Calls.mono CSM.out ?_
          rintro e w4 ⟨rfl, HF⟩
          go_wp2
          go_ret
          exact ⟨rfl, HF⟩
end Go.Proofs.YtdejnphiejkglaaDoor
