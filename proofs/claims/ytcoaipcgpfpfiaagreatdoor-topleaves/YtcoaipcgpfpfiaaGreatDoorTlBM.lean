/- The theorem of stage 2, walked: what is written stands as leaves in a tree. -/
import Derived.Test.YtcoaipcgpfpfiaaGreatDoorTlAM
import Derived.Test.YtcoaipcgpfpfiaaGreatDoorJIM
import Derived.Test.YtcoaipcgpfpfiaaGreatDoorJOM
namespace Go.Proofs.YtcoaipcgpfpfiaaGreatDoor
open Go.RowKit
open Vl (V)
attribute [local go_sem ↓] Go.wp_at_zero Go.wp_at_succ
/-- a value's text -/
def Tl.text (t : V) : List UInt8 := (Bn.wtext t).data.toList
/-- what is kept so far -/
structure TL (w : World) (K : List V) (cs : List Value) (tv kv : Value) (W : World) : Prop where
  below : Below w.heap.size w W
  texts : W.ownsRow w.heap.size 9 1 tv K.length (scs (K.map Tl.text))
  vals : W.ownsRow w.heap.size 28 6 kv K.length cs
  kept : Kept w w.heap.size cs K
  right : ∀ t ∈ K, Bn.werr t = 0 ∧ Bn.rng t
  many : K.length ≤ 1024
theorem TL.call {w W W' : World} {K : List V} {cs : List Value} {tv kv : Value} (h : TL w K cs tv kv W) (hb : Below W.heap.size W W') : TL w K cs tv kv W' :=
  ⟨h.below.trans (hb.mono h.below.size), own_stays h.texts hb, own_stays h.vals hb, h.kept, h.right, h.many⟩
theorem TL.alloc {w W : World} {K : List V} {cs : List Value} {tv kv : Value} (h : TL w K cs tv kv W) (o : Obj) : TL w K cs tv kv (W.alloc o) := h.call (below_new _ _)
theorem TL.zero (w : World) : ∀ W, Below w.heap.size w W → TL w [] [] (.slice none 0 0) (.slice none 0 0) W := fun _ hW => ⟨hW, ⟨rfl, .inl ⟨rfl, rfl⟩⟩, ⟨rfl, .inl ⟨rfl, rfl⟩⟩, Kept.none _ _, (fun t h => by cases h), by simp⟩
/-- the tree, the value that was read, what was kept, the path -/
structure LV (w : World) (b : Nat) (T : List (List UInt8)) (E S S2 : Nat) (y0 y1 y2 y3 y4 y5 : Value) (t : V) (kg kc m : Nat) (cs : List Value) (B g p : Nat) (P : List (List UInt8)) (W : World) : Prop where
  below : Below w.heap.size w W
  tree : Tr W b T
  base : w.heap.size ≤ b
  lo : b < S
  hi : S2 ≤ W.heap.size
  eb : E ≠ b
  box : Row6 W E y0 y1 y2 y3 y4 y5
  rep : RepA W (fun g => S ≤ g ∧ g < S2) t (.agg #[y0, y1, y2, y3, y4, y5])
  vals : W.ownsRow w.heap.size 28 6 (.slice (some ⟨kg, 0, none⟩) m kc) m cs
  path : W.ownsRow B 9 1 (.slice (some ⟨g, 0, none⟩) p p) p (scs P)
theorem LV.call {w W W' : World} {b E S S2 kg kc m B g p : Nat} {T P : List (List UInt8)} {y0 y1 y2 y3 y4 y5 : Value} {t : V} {cs : List Value} (h : LV w b T E S S2 y0 y1 y2 y3 y4 y5 t kg kc m cs B g p P W) (hb : Below W.heap.size W W') : LV w b T E S S2 y0 y1 y2 y3 y4 y5 t kg kc m cs B g p P W' :=
  ⟨h.below.trans (hb.mono h.below.size), h.tree.call hb, h.base, h.lo, Nat.le_trans h.hi hb.size, h.eb, h.box.call hb, repA_stays (fun g hg => hb.block g (by have := h.hi; omega)) (fun _ h => h) _ _ h.rep, own_stays h.vals hb, own_stays h.path hb⟩
theorem LV.gr {w W W' : World} {b E S S2 kg kc m B g p : Nat} {T P : List (List UInt8)} {y0 y1 y2 y3 y4 y5 : Value} {t : V} {cs : List Value} (h : LV w b T E S S2 y0 y1 y2 y3 y4 y5 t kg kc m cs B g p P W) (hT : Tr W' b T) (hg : Gr b W W') : LV w b T E S S2 y0 y1 y2 y3 y4 y5 t kg kc m cs B g p P W' :=
  ⟨h.below.trans (hg.below h.base h.below.size), hT, h.base, h.lo, Nat.le_trans h.hi hg.size, h.eb, h.box.keep hg.size (hg.block E h.box.1 (fun q => h.eb (by injection q))), repA_stays (fun g hg' => hg.block g (by have := h.hi; omega) (fun q => by injection q with q; have := h.lo; omega)) (fun _ h => h) _ _ h.rep, own_gr6 h.tree hg (by decide) h.vals, own_gr6 h.tree hg (by decide) h.path⟩
theorem LV.repr {w W : World} {b E S S2 kg kc m B g p : Nat} {T P : List (List UInt8)} {y0 y1 y2 y3 y4 y5 : Value} {t : V} {cs : List Value} (h : LV w b T E S S2 y0 y1 y2 y3 y4 y5 t kg kc m cs B g p P W) : Rep W W.heap.size t (.agg #[y0, y1, y2, y3, y4, y5]) :=
  repA_rep (fun g hg => by have := h.hi; omega) _ _ h.rep
theorem Tl.size (t : V) (h : Bn.werr t = 0) (hr : Bn.rng t) : (Bn.wtext t).size ≤ 16384 := (Bn.is_wrote hr h).1
set_option maxHeartbeats 16000000 in
set_option maxRecDepth 10000 in
theorem leaves_c (a : Option Addr) (n c : Nat) (ts : List V) (hn : n = ts.length) (hn63 : n ≤ maxLen) (i : Int) (w : World) (hK : HasK w) (hU : Bn.HasU w) (hR : 0 < ts.length → ∃ g o, a = some ⟨g, o, none⟩ ∧ g < w.heap.size ∧ RepL w w.heap.size g o ts) :
    Calls Tryz.prog 3 #[.slice a n c, .int .i64 i] w fun e w' => e = .returned (.bool true) ∧ Below w.heap.size w w' := by
  have HK : Hid (∀ W, Below w.heap.size w W → HasK W) := fun W hW => hK.below hK.1 hW
  have HU : Hid (∀ W, Below w.heap.size w W → Bn.HasU W) := fun W hW => hU.stays hW
  have h0 : 0 < w.heap.size := hK.1
  have CB : Hid (Calls Tryz.prog 4 #[] w fun e w' => e = .returned (.bool true) ∧ Below w.heap.size w w') := begins_c w hK
  have HR : Hid (0 < ts.length → ∃ g o, a = some ⟨g, o, none⟩ ∧ g < w.heap.size ∧ RepL w w.heap.size g o ts) := hR
  have HN : Hid (n = ts.length) := hn
  have hn64 : n ≤ 9223372036854775807 := maxLen_lt hn63
  obtain ⟨i0, hi0, hz0, hz1, hz2⟩ := info_parts info9
  obtain ⟨i1, hi1, hy0, hy1, hy2⟩ := info_parts info26'
  clear hK hU hR hn hn63
  go_enter Tryz.func3, Tryz.ntmps3
  go_wp2_with fail
  refine CB.out.mono ?_
  rintro e w1 ⟨rfl, hb1⟩
  have Z1 : Hid (TL w [] [] (.slice none 0 0) (.slice none 0 0) w1) := TL.zero w w1 hb1
  clear CB hb1
  go_wp2
  go_loopw [5, 6, 22] (fun tv kv iv wr => ∃ (k : Nat) (K : List V) (cs : List Value) (tx kx : Value), k ≤ n ∧ iv = .int .i64 (k : Int) ∧ tx = tv ∧ kx = kv ∧ TL w K cs tx kx wr) (fun _ _ iv _ => n - (intOf iv).toNat)
  case atStart => exact ⟨0, [], [], _, _, Nat.zero_le _, rfl, rfl, rfl, Z1.out⟩
  case round =>
    obtain ⟨k, K, cs, tv, kv, hk, rfl, rfl, rfl, hTL⟩ := hrel
    clear Z1
    by_cases hlt : k < n
    · obtain ⟨g, o, rfl, hg, hr⟩ := HR.out (by rw [← HN.out]; omega)
      obtain ⟨t, ht⟩ : ∃ t, ts[k]? = some t := ⟨_, List.getElem?_eq_getElem (by rw [← HN.out]; exact hlt)⟩
      obtain ⟨c0, c1, c2, c3, c4, c5, hsix, hrt⟩ := repL_at ts o hr k t ht
      obtain ⟨d0, d1, d2, d3, d4, d5⟩ := hsix.stays hTL.below hg
      obtain ⟨xk, xb, xn, xs, xa, xl, xc, ya, yl, yc, rfl, rfl, rfl, rfl, rfl, rfl⟩ := rep_form hrt
      have HRT : Hid (Rep w w.heap.size t (.agg #[.int .u8 (xk : Int), .bool xb, .int .i64 xn, .string xs, .slice xa xl xc, .slice ya yl yc])) := hrt
      obtain ⟨we, hwe⟩ : ∃ we, we = Bn.werr t := ⟨_, rfl⟩
      obtain ⟨wt, hwt⟩ : ∃ wt, wt = Bn.wtext t := ⟨_, rfl⟩
      have CW : Hid (∀ W, Below w.heap.size w W → Calls Tryz.prog 5 #[.agg #[.int .u8 (xk : Int), .bool xb, .int .i64 xn, .string xs, .slice xa xl xc, .slice ya yl yc]] W fun e w' => e = .returned (.tuple #[.string wt, .int .i64 (we : Int)]) ∧ Below W.heap.size W w') := fun W hW => by
        rw [hwe, hwt]
        exact write18 t W (HU.out W hW) w.heap.size _ hW.size (rep_stays hW (Nat.le_refl _) t _ hrt)
      have HRG : Hid (we = 0 → Bn.werr t = 0 ∧ Bn.rng t) := fun h => ⟨by rw [← hwe]; exact h, Bn.rep_rng t _ hrt⟩
      have HWT : Hid (wt = Bn.wtext t) := hwt
      have T2 : Hid (TL w K cs tv kv wr) := hTL
      clear hr hrt hwe hwt ht hTL hsix
      go_wp2_with fail
      refine (CW.out _ (T2.out.alloc _).below).mono ?_
      rintro e w3 ⟨rfl, hb3⟩
      obtain ⟨B, hB⟩ : ∃ B, B = wr.heap.size := ⟨_, rfl⟩
      have T3 : Hid (TL w K cs tv kv w3) := (T2.out.alloc _).call hb3
      have R3 : Hid (Row6 w3 B (.int .u8 (xk : Int)) (.bool xb) (.int .i64 xn) (.string xs) (.slice xa xl xc) (.slice ya yl yc)) := by
        show Row6 _ _ _ _ _ _ _ _
        rw [hB]
        exact Row6.call (w := wr.alloc _) ⟨by simp, heap_alloc_new wr _⟩ hb3
      rw [← hB]
      clear hB hb3 T2 d0 d1 d2 d3 d4 d5
      obtain ⟨d0, d1, d2, d3, d4, d5⟩ := R3.out.cells
      obtain ⟨m, hm⟩ : ∃ m, m = K.length := ⟨_, rfl⟩
      have HM : Hid (m = K.length) := hm
      obtain ⟨ta, tc, htv⟩ : ∃ ta tc, tv = .slice ta m tc := by
        rcases T3.out.texts.2 with ⟨h, h2⟩ | ⟨g', cap, cur, h, _⟩
        · exact ⟨none, 0, by rw [hm, h2]; exact h⟩
        · exact ⟨_, cap, by rw [hm]; exact h⟩
      subst htv
      have hm2 : m ≤ 1024 := by rw [hm]; exact T3.out.many
      clear hm
      by_cases hw0 : we = 0
      · subst hw0
        by_cases hK2 : m < 1024
        · have q1 : (m : Int) < 1024 := by omega
          have O3 : Hid (w3.ownsRow w.heap.size 9 1 (.slice ta m tc) m (scs (K.map Tl.text)) ∧ w3.ownsRow w.heap.size 28 6 kv m cs ∧ w.heap.size ≤ w3.heap.size) := ⟨by rw [HM.out]; exact HM.out ▸ T3.out.texts, by rw [HM.out]; exact T3.out.vals, T3.out.below.size⟩
          have f1 : Hid (m + 1 ≤ maxLen) := by show _ ≤ _; unfold maxLen; omega
          have f2 : Hid ((m + 1) * 16 ≤ 140737488355328) := by show _ ≤ _; omega
          have f3 : Hid ((m + 1) * 80 ≤ 140737488355328) := by show _ ≤ _; omega
          go_wp2_with (at_builtin; refine wpList_append_own _ rfl _ _ 24 rfl w.heap.size 9 i0 _ 1 16 Tryz.underlying24 hi0 hz0 hz1 hz2 rfl (by decide) _ m _ rfl (own_stays O3.out.1 (below_new _ _)) ⟨w3.heap.size, 0, none⟩ 1 1 [.string wt] rfl rfl (World.news_of_block (heap_alloc_new _ _)) (by simp [Value.oneCell']) f1.out f2.out (by have h := O3.out.2.2; simp; omega) ?_)
          intro v4 w4 ho4 hg4 _
          have X4 : Hid (w4.ownsRow w.heap.size 9 1 v4 (m + 1) (scs ((K ++ [t]).map Tl.text)) ∧ w4.ownsRow w.heap.size 28 6 kv m cs ∧ Below w.heap.size w w4) := by
            refine ⟨?_, own_apart (own_stays O3.out.2.1 (below_new _ _)) (own_stays O3.out.1 (below_new _ _)) (by decide) hg4, ((T3.out.alloc _).below).grown hg4 (by have h := O3.out.2.2; simp; omega) (own_le O3.out.1)⟩
            have e : scs ((K ++ [t]).map Tl.text) = scs (K.map Tl.text) ++ [.string wt] := by simp [scs, encS, Tl.text, HWT.out, bs_data]
            rw [e]; exact ho4
          have R4 : Hid (Row6 w4 B (.int .u8 (xk : Int)) (.bool xb) (.int .i64 xn) (.string xs) (.slice xa xl xc) (.slice ya yl yc)) := row6_apart (R3.out.call (below_new _ _)) (own_stays O3.out.1 (below_new _ _)) hg4
          clear ho4 hg4 O3 R3 d0 d1 d2 d3 d4 d5
          obtain ⟨d0, d1, d2, d3, d4, d5⟩ := R4.out.cells
          go_wp2_with (at_builtin; refine wpList_append_own _ rfl _ _ 22 rfl w.heap.size 28 i1 _ 6 80 Tryz.underlying22 hi1 hy0 hy1 hy2 rfl (by decide) _ m _ rfl (own_stays X4.out.2.1 (below_new _ _)) ⟨w4.heap.size, 0, none⟩ 1 1 [.int .u8 (xk : Int), .bool xb, .int .i64 xn, .string xs, .slice xa xl xc, .slice ya yl yc] rfl rfl (World.news_of_block (heap_alloc_new _ _)) (by simp [Value.oneCell']) f1.out f3.out (by have h := X4.out.2.2.size; simp; omega) ?_)
          intro v5 w5 ho5 hg5 _
          have T5 : Hid (TL w (K ++ [t]) (cs ++ [.int .u8 (xk : Int), .bool xb, .int .i64 xn, .string xs, .slice xa xl xc, .slice ya yl yc]) v4 v5 w5) := by
            have hl : (K ++ [t]).length = m + 1 := by rw [List.length_append, ← HM.out]; rfl
            refine ⟨(X4.out.2.2.alloc X4.out.2.2.size _).grown hg5 (by have h := X4.out.2.2.size; simp; omega) (own_le X4.out.2.1), ?_, ?_, T3.out.kept.more HRT.out, ?_, by omega⟩
            · rw [hl]; exact own_apart (own_stays X4.out.1 (below_new _ _)) (own_stays X4.out.2.1 (below_new _ _)) (by decide) hg5
            · rw [hl]; exact ho5
            · intro u hu
              rcases List.mem_append.1 hu with h | h
              · exact T3.out.right u h
              · simp at h; subst h; exact HRG.out (by first | rfl | trivial)
          clear ho5 hg5 X4 R4 d0 d1 d2 d3 d4 d5
          go_wp2
          go_roundw
          case rel => first | exact ⟨k + 1, _, _, _, _, by omega, by go_num, rfl, rfl, T5.out⟩ | ((repeat apply Exists.intro); exact ⟨⟨k + 1, _, _, _, _, by omega, by go_num, rfl, rfl, T5.out⟩, rfl⟩)
          case measure => simp [intOf]; omega
        · have q1 : ¬ (m : Int) < 1024 := by omega
          go_wp2
          go_roundw
          case rel => first | exact ⟨k + 1, K, cs, _, _, by omega, by go_num, rfl, rfl, HM.out ▸ T3.out⟩ | ((repeat apply Exists.intro); exact ⟨⟨k + 1, K, cs, _, _, by omega, by go_num, rfl, rfl, T3.out⟩, rfl⟩)
          case measure => simp [intOf]; omega
      · have q0 : ((we : Int) == 0) = false := by rw [beq_eq_false_iff_ne]; omega
        go_wp2
        go_roundw
        case rel => first | exact ⟨k + 1, K, cs, _, _, by omega, by go_num, rfl, rfl, T3.out⟩ | ((repeat apply Exists.intro); exact ⟨⟨k + 1, K, cs, _, _, by omega, by go_num, rfl, rfl, T3.out⟩, rfl⟩)
        case measure => simp [intOf]; omega
    · have hkn : k = n := by omega
      subst hkn
      obtain ⟨T, hTT⟩ : ∃ T, T = K.map Tl.text := ⟨_, rfl⟩
      obtain ⟨m, hm⟩ : ∃ m, m = K.length := ⟨_, rfl⟩
      have hTl : T.length = m := by rw [hTT, List.length_map, hm]
      have hm2 : m ≤ 1024 := by rw [hm]; exact hTL.many
      have hx : ∀ x ∈ T, x.length ≤ 140737488355328 := by
        intro x hx
        rw [hTT] at hx
        obtain ⟨u, hu, rfl⟩ := List.mem_map.1 hx
        have h1 := hTL.right u hu
        have := Tl.size u h1.1 h1.2
        rw [Tl.text, ← Lib.size_eq]; omega
      obtain ⟨ta, tc, htv⟩ : ∃ ta tc, tv = .slice ta m tc := by
        rcases hTL.texts.2 with ⟨h, h2⟩ | ⟨g', cap, cur, h, _⟩
        · exact ⟨none, 0, by rw [hm, h2]; exact h⟩
        · exact ⟨_, cap, by rw [hm]; exact h⟩
      subst htv
      have HSL : Hid (∀ W, Below wr.heap.size wr W → Sl W W.heap.size (.slice ta m tc) T) := fun W hW => by
        refine own_sl (base := w.heap.size) (own_stays ?_ hW)
        rw [hTl, hm, hTT]; exact hm ▸ hTL.texts
      have CN : Hid (Calls Tryz.prog 6 #[.slice ta m tc] wr fun e w' => ∃ b : Nat, e = .returned (.tuple #[.pointer (some ⟨b, 0, none⟩), .int .i64 0]) ∧ wr.heap.size ≤ b ∧ Tr w' b T ∧ Below wr.heap.size wr w') := by
        refine (new_yes ta tc m hm2 wr.heap.size T hx wr (Nat.le_refl _) (HSL.out wr (Below.refl _ _))).mono ?_
        rintro e w' ⟨b, rfl, hb, hT, hB⟩
        have hsz := hTL.below.size
        exact ⟨b, rfl, hb, hT.tr (by omega), hB⟩
      have T2 : Hid (TL w K cs (.slice ta m tc) kv wr) := hTL
      have HTT : Hid (T = K.map Tl.text ∧ m = K.length ∧ T.length = m ∧ ∀ x ∈ T, x.length ≤ 140737488355328) := ⟨hTT, hm, hTl, hx⟩
      clear hTT hm hTl hx hTL hlt hk
      go_wp2_with fail
      refine CN.out.mono ?_
      rintro e w2 ⟨b, rfl, ha2, hT2, hB2⟩
      have S2 : Hid (Tr w2 b T ∧ Below wr.heap.size wr w2 ∧ TL w K cs (.slice ta m tc) kv w2 ∧ w.heap.size ≤ b ∧ wr.heap.size ≤ b) := ⟨hT2, hB2, T2.out.call hB2, Nat.le_trans T2.out.below.size ha2, ha2⟩
      clear CN ha2 hT2 hB2
      by_cases hout : i < 0 ∨ (m : Int) ≤ i
      · have CP : Hid (Calls Tryz.prog 7 #[.pointer (some ⟨b, 0, none⟩), .int .i64 i] w2 _) := path_out b m i w2 (by have h := S2.out.1.cells.1; rw [HTT.out.2.2.1] at h; exact h) hout
        go_wp2_with fail
        refine CP.out.mono ?_
        rintro e w3 ⟨rfl, rfl⟩
        clear CP
        by_cases hneg : i < 0
        · go_wp2
          go_ret
          exact ⟨rfl, S2.out.2.2.1.below⟩
        · have q1 : (m : Int) ≤ i := hout.resolve_left hneg
          go_wp2
          go_ret
          exact ⟨rfl, S2.out.2.2.1.below⟩
      · obtain ⟨j, rfl⟩ := Int.eq_ofNat_of_zero_le (show 0 ≤ i by omega)
        have hjm : j < m := by omega
        obtain ⟨t, htK⟩ : ∃ t, K[j]? = some t := ⟨_, List.getElem?_eq_getElem (by rw [← HTT.out.2.1]; exact hjm)⟩
        have htT : T[j]? = some (Tl.text t) := by rw [HTT.out.1, List.getElem?_map, htK]; rfl
        have hrt := S2.out.2.2.1.right t (List.mem_of_getElem? htK)
        have hIs : Bn.Is (Bn.wtext t) t := Bn.is_wrote hrt.2 hrt.1
        obtain ⟨wt, hwt⟩ : ∃ wt, wt = Bn.wtext t := ⟨_, rfl⟩
        rw [← hwt] at hIs
        have hws : wt.size ≤ 140737488355328 := by rw [hwt]; have := Tl.size t hrt.1 hrt.2; omega
        obtain ⟨P, hP⟩ : ∃ P, P = Mk.path T j := ⟨_, rfl⟩
        obtain ⟨p, hp⟩ : ∃ p, p = P.length := ⟨_, rfl⟩
        have hTl := HTT.out.2.2.1
        have CP : Hid (Calls Tryz.prog 7 #[.pointer (some ⟨b, 0, none⟩), .int .i64 (j : Int)] w2 fun e w' => ∃ g, e = .returned (.tuple #[.slice (some ⟨g, 0, none⟩) p p, .int .i64 0]) ∧ w'.ownsRow w2.heap.size 9 1 (.slice (some ⟨g, 0, none⟩) p p) p (scs P) ∧ Tr w' b T ∧ Gr b w2 w') := by
          refine (path_in b T (by omega) HTT.out.2.2.2 j (by omega) w2 (HK.out _ S2.out.2.2.1.below) S2.out.1).mono ?_
          rintro e w' ⟨g, p', rfl, ho, hT', hG⟩
          rw [← hP] at ho
          have : p' = p := by have := ho.1; rw [scs_length] at this; omega
          subst this
          exact ⟨g, rfl, ho, hT', hG⟩
        have hp10 : p ≤ 1024 := by
          rw [hp, hP]
          have := Mk.tw_len Mk.e1 10 (j + 1) T.length (by omega)
          simp [Mk.path, Mk.aside_length]; omega
        obtain ⟨r, hr⟩ : ∃ r : ByteArray, r = bs (Mk.root T) := ⟨_, rfl⟩
        have CR : Hid (∀ W, Below w.heap.size w W → Tr W b T → Calls Tryz.prog 11 #[.pointer (some ⟨b, 0, none⟩)] W fun e w' => e = .returned (.string r) ∧ Tr w' b T ∧ Gr b W w') := fun W hW hT => by
          rw [hr]; exact root_c b T (by omega) HTT.out.2.2.2 W (HK.out W hW) hT
        have CS : Hid (∀ W base g, Below w.heap.size w W → W.ownsRow base 9 1 (.slice (some ⟨g, 0, none⟩) p p) p (scs P) → Calls Tryz.prog 10 #[.string r, .string wt, .int .i64 (j : Int), .int .i64 (m : Int), .slice (some ⟨g, 0, none⟩) p p] W fun e w' => e = .returned (.bool true) ∧ Below W.heap.size W w') := fun W base g hW hO => by
          have := shows_c r wt hws (j : Int) (m : Int) (some ⟨g, 0, none⟩) p p P (by omega) W.heap.size W (HK.out W hW) (Nat.le_refl _) (own_sl (by rw [← hp]; exact hO))
          have e := Mk.shows_path htT (by omega)
          rw [hTl] at e
          rw [hr, data_bs, hwt, show (Bn.wtext t).data.toList = Tl.text t from rfl, hP, e] at this
          rw [hr, hwt]; exact this
        have CRD : Hid (∀ W, Below w.heap.size w W → Calls Tryz.prog 8 #[.string wt] W fun e w' => ∃ (yk : Nat) (yb : Bool) (yn : Int) (ys : ByteArray) (za : Option Addr) (zl zc : Nat) (va : Option Addr) (vl vc : Nat), e = .returned (.tuple #[.agg #[.int .u8 (yk : Int), .bool yb, .int .i64 yn, .string ys, .slice za zl zc, .slice va vl vc], .int .i64 0]) ∧ Below W.heap.size W w' ∧ RepA w' (fun g => W.heap.size ≤ g ∧ g < w'.heap.size) t (.agg #[.int .u8 (yk : Int), .bool yb, .int .i64 yn, .string ys, .slice za zl zc, .slice va vl vc])) := fun W hW =>
          (read20 wt W (HU.out W hW)).mono (fun e w' ⟨h1, h2⟩ => by
            rcases h2 with ⟨u, zk, zb, zn, zs, za, zl, zc, ta, tl, tc, k1, k2, k3⟩ | ⟨k1, _⟩
            · obtain rfl := k1.one hIs
              exact ⟨zk, zb, zn, zs, za, zl, zc, ta, tl, tc, k2, h1, k3⟩
            · exact absurd hIs (k1 _))
        have CWB : Hid (∀ W xv, Below w.heap.size w W → Rep W W.heap.size t xv → Calls Tryz.prog 5 #[xv] W fun e w' => e = .returned (.tuple #[.string wt, .int .i64 0]) ∧ Below W.heap.size W w') := fun W xv hW hr => write_back hIs W (HU.out W hW) xv hr
        have CSA : Hid (∀ W va vb, Rep W W.heap.size t va → Rep W W.heap.size t vb → Calls Tryz.prog 9 #[va, vb] W fun e w' => e = .returned (.bool true) ∧ Below W.heap.size W w') := fun W va vb h1 h2 => by
          have h := same12 _ t (Nat.le_refl _) t W W.heap.size va vb (Nat.le_refl _) h1 h2
          rw [Vl.same_refl] at h
          exact h
        obtain ⟨kg, kc, hkv⟩ : ∃ kg kc, kv = .slice (some ⟨kg, 0, none⟩) m kc := by
          rcases S2.out.2.2.1.vals.2 with ⟨_, h2⟩ | ⟨g', cap, cur, h, _⟩
          · have := HTT.out.2.1; omega
          · exact ⟨g', cap, by rw [HTT.out.2.1]; exact h⟩
        subst hkv
        obtain ⟨c0, c1, c2, c3, c4, c5, e0, e1, e2, e3, e4, e5, hrk⟩ := S2.out.2.2.1.kept.2 j t htK
        obtain ⟨xk, xb, xn, xs, xa, xl, xc, ua, ul, uc, rfl, rfl, rfl, rfl, rfl, rfl⟩ := rep_form hrk
        have HRK : Hid (∀ W, Below w.heap.size w W → Rep W W.heap.size t (.agg #[.int .u8 (xk : Int), .bool xb, .int .i64 xn, .string xs, .slice xa xl xc, .slice ua ul uc])) := fun W hW => rep_stays hW hW.size t _ hrk
        have HCS : Hid (cs[j * 6]? = some (.int .u8 (xk : Int)) ∧ cs[j * 6 + 1]? = some (.bool xb) ∧ cs[j * 6 + 2]? = some (.int .i64 xn) ∧ cs[j * 6 + 3]? = some (.string xs) ∧ cs[j * 6 + 4]? = some (.slice xa xl xc) ∧ cs[j * 6 + 5]? = some (.slice ua ul uc)) := ⟨e0, e1, e2, e3, e4, e5⟩
        have HTX : Hid (∀ W, Below wr.heap.size wr W → ∃ tb tof, ta = some ⟨tb, tof, none⟩ ∧ W.cell? ⟨tb, tof + j, none⟩ = some (.string wt)) := fun W hW => by
          obtain ⟨tb, tof, e, _, _, hc⟩ := (HSL.out W hW).at (by omega)
          refine ⟨tb, tof, e, ?_⟩
          rw [hc j _ htT, hwt]
          simp [encS, Tl.text, bs_data]
        clear htK htT hrt hIs hws hwt hP hp hr hrk e0 e1 e2 e3 e4 e5 hTl hout
        go_wp2_with fail
        refine CP.out.mono ?_
        rintro e w3 ⟨g, rfl, ho3, hT3, hG3⟩
        have B3 : Hid (Below wr.heap.size wr w3 ∧ Below w.heap.size w w3) := by
          have h := S2.out.2.1.trans (hG3.below S2.out.2.2.2.2 S2.out.2.1.size)
          exact ⟨h, T2.out.below.trans (h.mono T2.out.below.size)⟩
        have X3 : Hid (Tr w3 b T ∧ w3.ownsRow w.heap.size 28 6 (.slice (some ⟨kg, 0, none⟩) m kc) m cs ∧ w3.ownsRow w2.heap.size 9 1 (.slice (some ⟨g, 0, none⟩) p p) p (scs P)) := ⟨hT3, own_gr6 S2.out.1 hG3 (by decide) (by have h := S2.out.2.2.1.vals; rw [← HTT.out.2.1] at h; exact h), ho3⟩
        obtain ⟨tb, tof, rfl, hct⟩ := HTX.out w3 B3.out.1
        have k0 : (0 : Int) ≤ (j : Int) := by omega
        have k1 : (j : Int) < (m : Int) := by omega
        have k2 : ¬ (j : Int) < 0 := by omega
        have k3 : ¬ (m : Int) ≤ (j : Int) := by omega
        have hB0 : Hid (w.heap.size ≤ b) := S2.out.2.2.2.1
        clear CP ho3 hT3 hG3 S2 T2 HSL HTX
        go_wp2_with fail
        refine (CRD.out _ B3.out.2).mono ?_
        rintro e w5 ⟨yk, yb, yn, ys, za, zl, zc, va, vl, vc, rfl, hb5, hr5⟩
        obtain ⟨E, hE⟩ : ∃ E, E = w5.heap.size := ⟨_, rfl⟩
        obtain ⟨w6, hw6⟩ : ∃ w6, w6 = w5.alloc (.cells #[.int .u8 (yk : Int), .bool yb, .int .i64 yn, .string ys, .slice za zl zc, .slice va vl vc] 28) := ⟨_, rfl⟩
        have L6 : Hid (LV w b T E w3.heap.size E (.int .u8 (yk : Int)) (.bool yb) (.int .i64 yn) (.string ys) (.slice za zl zc) (.slice va vl vc) t kg kc m cs w2.heap.size g p P w6) := by
          have lb := X3.out.1.cells.2.1
          have h5 : Below w3.heap.size w3 w5 := hb5
          have h6 : Below w5.heap.size w5 w6 := by rw [hw6]; exact below_new _ _
          have h36 := h5.trans (h6.mono h5.size)
          refine ⟨B3.out.2.trans (h36.mono B3.out.2.size), X3.out.1.call h36, hB0.out, lb, by rw [hE]; exact h6.size, by have := h5.size; omega, ?_, ?_, own_stays X3.out.2.1 h36, own_stays X3.out.2.2 h36⟩
          · rw [hE, hw6]; exact ⟨by simp, heap_alloc_new w5 _⟩
          · rw [hE]; exact repA_stays (fun g hg => h6.block g hg.2) (fun _ h => h) _ _ hr5
        go_upto_region 20 with fail
        rw [← hw6, ← hE]
        clear hw6 hE hb5 hr5 X3 hct CRD B3
        obtain ⟨d0, d1, d2, d3, d4, d5⟩ := L6.out.box.cells
        go_wp2_with fail
        refine (CWB.out _ _ L6.out.below L6.out.repr).mono ?_
        rintro e w7 ⟨rfl, hb7⟩
        have L7 : Hid (LV w b T E w3.heap.size E (.int .u8 (yk : Int)) (.bool yb) (.int .i64 yn) (.string ys) (.slice za zl zc) (.slice va vl vc) t kg kc m cs w2.heap.size g p P w7) := L6.out.call hb7
        clear hb7 L6 CWB d0 d1 d2 d3 d4 d5
        go_upto_region 21 with fail
        have inh : Inhabited (WOf (LV w b T E w3.heap.size E (.int .u8 (yk : Int)) (.bool yb) (.int .i64 yn) (.string ys) (.slice za zl zc) (.slice va vl vc) t kg kc m cs w2.heap.size g p P)) := ⟨⟨w7, L7.out⟩⟩
        have d0 : ∀ q : WOf (LV w b T E w3.heap.size E (.int .u8 (yk : Int)) (.bool yb) (.int .i64 yn) (.string ys) (.slice za zl zc) (.slice va vl vc) t kg kc m cs w2.heap.size g p P), q.W.cell? ⟨E, 0, none⟩ = some (.int .u8 (yk : Int)) := fun q => q.h.box.cells.1
        have d1 : ∀ q : WOf (LV w b T E w3.heap.size E (.int .u8 (yk : Int)) (.bool yb) (.int .i64 yn) (.string ys) (.slice za zl zc) (.slice va vl vc) t kg kc m cs w2.heap.size g p P), q.W.cell? ⟨E, 1, none⟩ = some (.bool yb) := fun q => q.h.box.cells.2.1
        have d2 : ∀ q : WOf (LV w b T E w3.heap.size E (.int .u8 (yk : Int)) (.bool yb) (.int .i64 yn) (.string ys) (.slice za zl zc) (.slice va vl vc) t kg kc m cs w2.heap.size g p P), q.W.cell? ⟨E, 2, none⟩ = some (.int .i64 yn) := fun q => q.h.box.cells.2.2.1
        have d3 : ∀ q : WOf (LV w b T E w3.heap.size E (.int .u8 (yk : Int)) (.bool yb) (.int .i64 yn) (.string ys) (.slice za zl zc) (.slice va vl vc) t kg kc m cs w2.heap.size g p P), q.W.cell? ⟨E, 3, none⟩ = some (.string ys) := fun q => q.h.box.cells.2.2.2.1
        have d4 : ∀ q : WOf (LV w b T E w3.heap.size E (.int .u8 (yk : Int)) (.bool yb) (.int .i64 yn) (.string ys) (.slice za zl zc) (.slice va vl vc) t kg kc m cs w2.heap.size g p P), q.W.cell? ⟨E, 4, none⟩ = some (.slice za zl zc) := fun q => q.h.box.cells.2.2.2.2.1
        have d5 : ∀ q : WOf (LV w b T E w3.heap.size E (.int .u8 (yk : Int)) (.bool yb) (.int .i64 yn) (.string ys) (.slice za zl zc) (.slice va vl vc) t kg kc m cs w2.heap.size g p P), q.W.cell? ⟨E, 5, none⟩ = some (.slice va vl vc) := fun q => q.h.box.cells.2.2.2.2.2
        have kc0 : ∀ q : WOf (LV w b T E w3.heap.size E (.int .u8 (yk : Int)) (.bool yb) (.int .i64 yn) (.string ys) (.slice za zl zc) (.slice va vl vc) t kg kc m cs w2.heap.size g p P), q.W.cell? ⟨kg, j * 6, none⟩ = some (.int .u8 (xk : Int)) := fun q => own_cell q.h.vals HCS.out.1
        have kc1 : ∀ q : WOf (LV w b T E w3.heap.size E (.int .u8 (yk : Int)) (.bool yb) (.int .i64 yn) (.string ys) (.slice za zl zc) (.slice va vl vc) t kg kc m cs w2.heap.size g p P), q.W.cell? ⟨kg, j * 6 + 1, none⟩ = some (.bool xb) := fun q => own_cell q.h.vals HCS.out.2.1
        have kc2 : ∀ q : WOf (LV w b T E w3.heap.size E (.int .u8 (yk : Int)) (.bool yb) (.int .i64 yn) (.string ys) (.slice za zl zc) (.slice va vl vc) t kg kc m cs w2.heap.size g p P), q.W.cell? ⟨kg, j * 6 + 2, none⟩ = some (.int .i64 xn) := fun q => own_cell q.h.vals HCS.out.2.2.1
        have kc3 : ∀ q : WOf (LV w b T E w3.heap.size E (.int .u8 (yk : Int)) (.bool yb) (.int .i64 yn) (.string ys) (.slice za zl zc) (.slice va vl vc) t kg kc m cs w2.heap.size g p P), q.W.cell? ⟨kg, j * 6 + 3, none⟩ = some (.string xs) := fun q => own_cell q.h.vals HCS.out.2.2.2.1
        have kc4 : ∀ q : WOf (LV w b T E w3.heap.size E (.int .u8 (yk : Int)) (.bool yb) (.int .i64 yn) (.string ys) (.slice za zl zc) (.slice va vl vc) t kg kc m cs w2.heap.size g p P), q.W.cell? ⟨kg, j * 6 + 4, none⟩ = some (.slice xa xl xc) := fun q => own_cell q.h.vals HCS.out.2.2.2.2.1
        have kc5 : ∀ q : WOf (LV w b T E w3.heap.size E (.int .u8 (yk : Int)) (.bool yb) (.int .i64 yn) (.string ys) (.slice za zl zc) (.slice va vl vc) t kg kc m cs w2.heap.size g p P), q.W.cell? ⟨kg, j * 6 + 5, none⟩ = some (.slice ua ul uc) := fun q => own_cell q.h.vals HCS.out.2.2.2.2.2
        have CRc : Hid (∀ q : WOf (LV w b T E w3.heap.size E (.int .u8 (yk : Int)) (.bool yb) (.int .i64 yn) (.string ys) (.slice za zl zc) (.slice va vl vc) t kg kc m cs w2.heap.size g p P), Calls Tryz.prog 11 #[.pointer (some ⟨b, 0, none⟩)] q.W fun e w'' => e = .returned (.string r) ∧ ∃ q : WOf (LV w b T E w3.heap.size E (.int .u8 (yk : Int)) (.bool yb) (.int .i64 yn) (.string ys) (.slice za zl zc) (.slice va vl vc) t kg kc m cs w2.heap.size g p P), w'' = q.W) := fun q =>
          (CR.out _ q.h.below q.h.tree).mono fun e w' ⟨he, hT, hG⟩ => ⟨he, ⟨w', q.h.gr hT hG⟩, rfl⟩
        have CSc : Hid (∀ q : WOf (LV w b T E w3.heap.size E (.int .u8 (yk : Int)) (.bool yb) (.int .i64 yn) (.string ys) (.slice za zl zc) (.slice va vl vc) t kg kc m cs w2.heap.size g p P), Calls Tryz.prog 10 #[.string r, .string wt, .int .i64 (j : Int), .int .i64 (m : Int), .slice (some ⟨g, 0, none⟩) p p] q.W fun e w'' => e = .returned (.bool true) ∧ ∃ q : WOf (LV w b T E w3.heap.size E (.int .u8 (yk : Int)) (.bool yb) (.int .i64 yn) (.string ys) (.slice za zl zc) (.slice va vl vc) t kg kc m cs w2.heap.size g p P), w'' = q.W) := fun q =>
          (CS.out _ _ _ q.h.below q.h.path).mono fun e w' ⟨he, hb⟩ => ⟨he, ⟨w', q.h.call hb⟩, rfl⟩
        have CAc : Hid (∀ q : WOf (LV w b T E w3.heap.size E (.int .u8 (yk : Int)) (.bool yb) (.int .i64 yn) (.string ys) (.slice za zl zc) (.slice va vl vc) t kg kc m cs w2.heap.size g p P), Calls Tryz.prog 9 #[.agg #[.int .u8 (yk : Int), .bool yb, .int .i64 yn, .string ys, .slice za zl zc, .slice va vl vc], .agg #[.int .u8 (xk : Int), .bool xb, .int .i64 xn, .string xs, .slice xa xl xc, .slice ua ul uc]] q.W fun e w'' => e = .returned (.bool true) ∧ ∃ q : WOf (LV w b T E w3.heap.size E (.int .u8 (yk : Int)) (.bool yb) (.int .i64 yn) (.string ys) (.slice za zl zc) (.slice va vl vc) t kg kc m cs w2.heap.size g p P), w'' = q.W) := fun q =>
          (CSA.out _ _ _ q.h.repr (HRK.out _ q.h.below)).mono fun e w' ⟨he, hb⟩ => ⟨he, ⟨w', q.h.call hb⟩, rfl⟩
        refine wp_region_class (LV w b T E w3.heap.size E (.int .u8 (yk : Int)) (.bool yb) (.int .i64 yn) (.string ys) (.slice za zl zc) (.slice va vl vc) t kg kc m cs w2.heap.size g p P) (L7.out.call (Below.refl _ _).drew) (by kernel_rfl) (by kernel_rfl) ?_
        repeat (go_big_quiet_step (first
          | (go_at_call 9; exact CAc.out _)
          | (go_at_call 11; exact CRc.out _)
          | (go_at_call 10; exact CSc.out _)))
        refine wpQuiet_nil ?_
        intro _ hw'
        obtain ⟨pq, hw''⟩ := hw'
        subst hw''
        have B9 : Hid (Below w.heap.size w pq.W) := pq.h.below
        clear d0 d1 d2 d3 d4 d5 kc0 kc1 kc2 kc3 kc4 kc5 CRc CSc CAc inh L7
        go_wp2
        go_ret
        exact ⟨rfl, B9.out⟩
end Go.Proofs.YtcoaipcgpfpfiaaGreatDoor
