/- For every value and every text the law BinTexts answers true: what is written and what is read is what the document says, or told why not; the library's tables of UTF-8 starting as the program's text lays them. -/
import Derived.Test.YtbogggnnmbjlfaaDoorTxA
import Derived.Test.YtbogggnnmbjlfaaDoorTxB
import Derived.Test.YtbogggnnmbjlfaaDoorBinRd
import Derived.Test.YtbogggnnmbjlfaaDoorBinBk
import Derived.Test.YtbogggnnmbjlfaaDoorBinOp
/- The document's Read, walked. -/
namespace Go.Proofs.YtbogggnnmbjlfaaDoor
open Go.RowKit
open Vl (V)
theorem value47 : ∀ (N : Nat) (s : ByteArray) (d : Nat), s.size ≤ N → s.size ≤ 65536 → d ≤ 11 → ∀ w : World, Calls Tryd.prog 47 #[.string s, .int .i64 (d : Int)] w (Gave47 s d w)
  | 0, s, d, h0, hs, hd, w => value47_one s d hs hd w (fun s1 W h1 _ => by omega)
  | N + 1, s, d, h0, hs, hd, w => value47_one s d hs hd w (fun s1 W h1 h2 => value47 N s1 (d + 1) (by omega) (by omega) (by omega) W)
set_option maxHeartbeats 8000000 in
set_option maxRecDepth 10000 in
theorem rread21 (s : ByteArray) (w : World) : Calls Tryd.prog 21 #[.string s] w (ReadGave s w) := by
  obtain ⟨R, hR⟩ : ∃ R, R = w.heap.size := ⟨_, rfl⟩
  obtain ⟨K, hK⟩ : ∃ K, K = ReadGave s w := ⟨_, rfl⟩
  have HK : Hid (K = ReadGave s w) := hK
  rw [← hK]
  by_cases hlong : 16384 < s.size
  · have hli : (16384 : Int) < (s.size : Int) := by omega
    have HNO : Hid (∀ t, ¬ Bn.Is s t) := fun t h => by have := h.1; omega
    have HLE : Hid ((4 : Int) = if 16384 < s.size then 4 else 11) := by show _ = _; rw [if_pos hlong]
    obtain ⟨w1, hw1⟩ : ∃ w1, w1 = w.alloc (.cells #[.int .u8 0, .bool false, .int .i64 0, .string ⟨#[]⟩, .slice none 0 0, .slice none 0 0] 26) := ⟨_, rfl⟩
    have S1 : Hid (RS w w1 (R + 1)) := by
      show RS _ _ _
      rw [hw1, hR]
      exact ⟨below_new _ _, ⟨by simp, heap_alloc_new w _⟩, rfl⟩
    clear hlong hK
    go_enter Tryd.func21, Tryd.ntmps21
    go_upto_region 1 with fail
    rw [← hw1, ← hR]
    clear hw1
    have S1' := S1.out.res
    rw [← hR] at S1'
    obtain ⟨q0, q1, q2, q3, q4, q5⟩ := Row6.cells S1'
    have fz := Row6.free S1'
    have HR : Hid (R = w.heap.size) := hR
    clear S1' hR
    go_wp2
    have F := S1.out.no HNO.out HLE.out
    rw [← HR.out] at F
    rw [sets6]
    exact bodyPost_ret (v := .tuple #[.agg #[.int .u8 0, .bool false, .int .i64 0, .string ⟨#[]⟩, .slice none 0 0, .slice none 0 0], .int .i64 4]) ((results_row_tmp (fn := Tryd.f21) (p := 2) (u := 3) (ty := 26) (by rfl) _ _ R 26 _ (0, 0) _ (by rfl) F.1 Tryd.underlying26 rfl info26).trans (by rfl)) rfl (by rw [HK.out]; exact F.2)
  · have hli : ¬ (16384 : Int) < (s.size : Int) := by omega
    have HLE : Hid ((11 : Int) = if 16384 < s.size then 4 else 11) := by show _ = _; rw [if_neg hlong]
    have HLS : Hid (s.size ≤ 16384) := by show _ ≤ _; omega
    obtain ⟨c, hc⟩ : ∃ c, c = R + 1 := ⟨_, rfl⟩
    obtain ⟨w2, hw2⟩ : ∃ w2, w2 = w.alloc (.cells #[.int .u8 0, .bool false, .int .i64 0, .string ⟨#[]⟩, .slice none 0 0, .slice none 0 0] 26) := ⟨_, rfl⟩
    have S2 : Hid (RS w w2 c) := by
      show RS _ _ _
      rw [hw2, hc, hR]
      exact ⟨below_new _ _, ⟨by simp, heap_alloc_new w _⟩, rfl⟩
    have C47 : Hid (Calls Tryd.prog 47 #[.string s, .int .i64 0] w2 (Gave47 s 0 w2)) := value47 s.size s 0 (Nat.le_refl _) (by omega) (by omega) w2
    clear hlong hK
    go_enter Tryd.func21, Tryd.ntmps21
    go_upto_region 1 with fail
    rw [← hR, ← hw2]
    have HR : Hid (R = w.heap.size) := hR
    have HC : Hid (c = R + 1) := hc
    clear hw2 hR hc
    go_upto_region 4 with (first
      | (go_at_call 47; refine C47.out.mono ?_; rintro e w3 ⟨k3, x, zk, zb, zn, zs, za, zl, zc, ta, tl, tc, s', ok, rfl, h3, h5⟩
         have S3 : Hid (RS w w3 c) := RS.call S2.out (Curw.of k3)
         have H3 : Hid (ok = true → RepA w3 (fun g => w2.heap.size ≤ g ∧ g < w3.heap.size) x (.agg #[.int .u8 (zk : Int), .bool zb, .int .i64 zn, .string zs, .slice za zl zc, .slice ta tl tc])) := h3
         have H5 : Hid (PQ 0 s x s' ok) := h5
         clear k3 h3 h5))
    obtain ⟨v, hv⟩ : ∃ v, v = w3.heap.size := ⟨_, rfl⟩
    obtain ⟨w4, hw4⟩ : ∃ w4, w4 = w3.alloc (.cells #[.int .u8 (zk : Int), .bool zb, .int .i64 zn, .string zs, .slice za zl zc, .slice ta tl tc] 26) := ⟨_, rfl⟩
    have hb4 : Below w3.heap.size w3 w4 := by rw [hw4]; exact below_new _ _
    have S4 : Hid (RS w w4 c) := S3.out.call (Curw.of hb4)
    have R4 : Hid (Row6 w4 v (.int .u8 (zk : Int)) (.bool zb) (.int .i64 zn) (.string zs) (.slice za zl zc) (.slice ta tl tc)) := by
      show Row6 _ _ _ _ _ _ _ _
      rw [hw4, hv]; exact ⟨by simp, heap_alloc_new w3 _⟩
    have HX : Hid (ok = true → RepA w4 (fun g => w.heap.size < g ∧ g < w4.heap.size) x (.agg #[.int .u8 (zk : Int), .bool zb, .int .i64 zn, .string zs, .slice za zl zc, .slice ta tl tc])) := by
      intro hok
      have a1 := S2.out.below.size
      have a2 := S2.out.res.1
      have a3 := hb4.size
      exact repA_stays (fun g hg => hb4.block g hg.2) (fun g hg => ⟨by omega, by omega⟩) x _ (H3.out hok)
    rw [← hv, ← hw4]
    clear hw4 hv hb4 S3 H3 C47 S2
    have S4' := S4.out.res
    rw [← HR.out] at S4'
    obtain ⟨q0, q1, q2, q3, q4, q5⟩ := Row6.cells S4'
    have fz := Row6.free S4'
    clear S4'
    obtain ⟨p0, p1, p2, p3, p4, p5⟩ := R4.out.cells
    cases ok with
    | false =>
      have HNO : Hid (∀ t, ¬ Bn.Is s t) := fun t h => by
        rcases H5.out with ⟨e, _⟩ | ⟨_, e⟩
        · cases e
        · exact e t [] h.2.1 (by have := Bn.dep_right t 0 h.2.2.2 (by omega); omega) (by rw [List.append_nil]; exact h.2.2.1)
      clear H5
      go_wp2
      have F := S4.out.no HNO.out HLE.out
      rw [← HR.out] at F
      rw [sets6]
      exact bodyPost_ret (v := .tuple #[.agg #[.int .u8 0, .bool false, .int .i64 0, .string ⟨#[]⟩, .slice none 0 0, .slice none 0 0], .int .i64 11]) ((results_row_tmp (fn := Tryd.f21) (p := 2) (u := 3) (ty := 26) (by rfl) _ _ R 26 _ (0, 0) _ (by rfl) F.1 Tryd.underlying26 rfl info26).trans (by rfl)) rfl (by rw [HK.out]; exact F.2)
    | true =>
      have hfit : Bn.fit x ∧ s.data.toList = Bn.bytes x ++ s'.data.toList := by
        rcases H5.out with ⟨_, e⟩ | ⟨e, _⟩
        · exact e
        · cases e
      by_cases he : s' = ⟨#[]⟩
      · subst he
        have HIS : Hid (∀ t, Bn.Is s t → t = x) := fun t h => by
          have e : Bn.bytes t ++ [] = Bn.bytes x ++ [] := by rw [List.append_nil, ← h.2.2.1]; exact hfit.2
          exact (Bn.bytes_app t x [] [] h.2.1 hfit.1 e).1
        have HI : Hid (Vl.check Bn.u8 0 x = 0 → Bn.Is s x) := fun h => ⟨HLS.out, hfit.1, by rw [hfit.2]; exact List.append_nil _, h⟩
        obtain ⟨k, hk⟩ : ∃ k, k = Vl.check Bn.u8 0 x := ⟨_, rfl⟩
        have C44 : Hid (Calls Tryd.prog 44 #[.agg #[.int .u8 (zk : Int), .bool zb, .int .i64 zn, .string zs, .slice za zl zc, .slice ta tl tc]] w4 fun e w' => e = .returned (.int .i64 (k : Int)) ∧ Below w4.heap.size w4 w') := by
          rw [hk]
          exact rcheck19 x w4 w4.heap.size _ (Nat.le_refl _) (repA_rep (fun g hg => hg.2) x _ (HX.out rfl))
        by_cases hk0 : k = 0
        · have HIX : Hid (Bn.Is s x) := HI.out (by rw [← hk]; exact hk0)
          subst hk0
          clear hk H5 hfit HI HIS
          go_wp2_with (first
            | (go_at_call 44; refine C44.out.mono ?_; rintro e w5 ⟨rfl, hb5⟩
               have S5 : Hid (RS w w5 c) := S4.out.call (Curw.of hb5)
               have HX5 : Hid (RepA w5 (fun g => w.heap.size < g ∧ g < w5.heap.size) x (.agg #[.int .u8 (zk : Int), .bool zb, .int .i64 zn, .string zs, .slice za zl zc, .slice ta tl tc])) := repA_stays (fun g hg => hb5.block g hg.2) (fun g hg => ⟨hg.1, Nat.lt_of_lt_of_le hg.2 hb5.size⟩) x _ (HX.out rfl)
               obtain ⟨p0, p1, p2, p3, p4, p5⟩ := (R4.out.call hb5).cells
               have S5' := S5.out.res
               rw [← HR.out] at S5'
               obtain ⟨q0, q1, q2, q3, q4, q5⟩ := Row6.cells S5'
               have fz := Row6.free S5'
               clear S5' hb5))
          have F := S5.out.ok HIX.out HX5.out
          rw [← HR.out] at F
          rw [sets6]
          exact bodyPost_ret (v := .tuple #[.agg #[.int .u8 (zk : Int), .bool zb, .int .i64 zn, .string zs, .slice za zl zc, .slice ta tl tc], .int .i64 0]) ((results_row_tmp (fn := Tryd.f21) (p := 2) (u := 3) (ty := 26) (by rfl) _ _ R 26 _ (0, 0) _ (by rfl) F.1 Tryd.underlying26 rfl info26).trans (by rfl)) rfl (by rw [HK.out]; exact F.2)
        · have HNO : Hid (∀ t, ¬ Bn.Is s t) := fun t h => by
            obtain rfl := HIS.out t h
            exact hk0 (by rw [hk]; exact h.2.2.2)
          have hk1 : ¬ (k : Int) = 0 := by omega
          clear hk H5 hfit HI HIS hk0
          go_wp2_with (first
            | (go_at_call 44; refine C44.out.mono ?_; rintro e w5 ⟨rfl, hb5⟩
               have S5 : Hid (RS w w5 c) := S4.out.call (Curw.of hb5)
               have S5' := S5.out.res
               rw [← HR.out] at S5'
               obtain ⟨q0, q1, q2, q3, q4, q5⟩ := Row6.cells S5'
               have fz := Row6.free S5'
               clear S5' hb5))
          have F := S5.out.no HNO.out HLE.out
          rw [← HR.out] at F
          rw [sets6]
          exact bodyPost_ret (v := .tuple #[.agg #[.int .u8 0, .bool false, .int .i64 0, .string ⟨#[]⟩, .slice none 0 0, .slice none 0 0], .int .i64 11]) ((results_row_tmp (fn := Tryd.f21) (p := 2) (u := 3) (ty := 26) (by rfl) _ _ R 26 _ (0, 0) _ (by rfl) F.1 Tryd.underlying26 rfl info26).trans (by rfl)) rfl (by rw [HK.out]; exact F.2)
      · have HNO : Hid (∀ t, ¬ Bn.Is s t) := fun t h => by
          have e : Bn.bytes t ++ [] = Bn.bytes x ++ s'.data.toList := by rw [List.append_nil, ← h.2.2.1]; exact hfit.2
          exact he (Bn.data_ext ((Bn.bytes_app t x [] _ h.2.1 hfit.1 e).2.symm))
        have hne := Bn.neq he
        have hne2 : ¬ s'.toList = [] := fun e => he (Bn.data_ext (by rw [← Go.ByteArray.toList_eq, e]))
        have hne3 : (s'.toList == []) = false := by simpa using hne2
        have hne4 : s'.toList.isEmpty = false := by simpa using hne2
        clear H5 hfit
        go_wp2
        have F := S4.out.no HNO.out HLE.out
        rw [← HR.out] at F
        rw [sets6]
        exact bodyPost_ret (v := .tuple #[.agg #[.int .u8 0, .bool false, .int .i64 0, .string ⟨#[]⟩, .slice none 0 0, .slice none 0 0], .int .i64 11]) ((results_row_tmp (fn := Tryd.f21) (p := 2) (u := 3) (ty := 26) (by rfl) _ _ R 26 _ (0, 0) _ (by rfl) F.1 Tryd.underlying26 rfl info26).trans (by rfl)) rfl (by rw [HK.out]; exact F.2)
end Go.Proofs.YtbogggnnmbjlfaaDoor
/- The document's text of a value, walked. -/
namespace Go.Proofs.YtbogggnnmbjlfaaDoor
open Go.RowKit
open Vl (V)
namespace Bn
theorem cat_list (a c : ByteArray) : (a ++ c).data.toList = a.data.toList ++ c.data.toList := by rw [ByteArray.data_append, Array.toList_append]
theorem bytesL_take {l : List V} {j : Nat} {x : V} (h : l[j]? = some x) : bytesL (l.take (j + 1)) = bytesL (l.take j) ++ bytes x := by
  rw [List.take_add_one, h]; exact bytesL_snoc _ _
theorem bytesF_take {l : List (ByteArray × V)} {j : Nat} {m : ByteArray} {x : V} (h : l[j]? = some (m, x)) : bytesF (l.take (j + 1)) = bytesF (l.take j) ++ (text m ++ bytes x) := by
  rw [List.take_add_one, h]; exact bytesF_snoc _ _ _
theorem bytesL_append : ∀ (l r : List V), bytesL (l ++ r) = bytesL l ++ bytesL r
  | [], r => by rw [List.nil_append, bytesL, List.nil_append]
  | x :: l, r => by rw [List.cons_append, bytesL, bytesL, bytesL_append l r, List.append_assoc]
theorem bytesF_append : ∀ (l r : List (ByteArray × V)), bytesF (l ++ r) = bytesF l ++ bytesF r
  | [], r => by rw [List.nil_append, bytesF, List.nil_append]
  | (m, x) :: l, r => by rw [List.cons_append, bytesF, bytesF, bytesF_append l r, List.append_assoc, List.append_assoc]
theorem bytesL_take_le (l : List V) (j : Nat) : (bytesL (l.take j)).length ≤ (bytesL l).length := by
  have h : bytesL l = bytesL (l.take j) ++ bytesL (l.drop j) := by
    rw [← bytesL_append, List.take_append_drop]
  rw [h, List.length_append]; omega
theorem bytesF_take_le (l : List (ByteArray × V)) (j : Nat) : (bytesF (l.take j)).length ≤ (bytesF l).length := by
  have h : bytesF l = bytesF (l.take j) ++ bytesF (l.drop j) := by
    rw [← bytesF_append, List.take_append_drop]
  rw [h, List.length_append]; omega
end Bn
set_option maxHeartbeats 8000000 in
set_option maxRecDepth 10000 in
theorem text45_one (k : Nat) (b : Bool) (n : Int) (s : ByteArray) (l : List V) (f : List (ByteArray × V)) (hfit : Bn.fit ⟨k, b, n, s, l, f⟩) (hlen : (Bn.bytes ⟨k, b, n, s, l, f⟩).length ≤ 4611686018427387904) (w : World) (ao : Option Addr) (lc : Nat) (fo : Option Addr) (fc : Nat)
    (hr : Rep w w.heap.size ⟨k, b, n, s, l, f⟩ (.agg #[.int .u8 (k : Int), .bool b, .int .i64 n, .string s, .slice ao l.length lc, .slice fo f.length fc]))
    (EL : ∀ x ∈ l, ∀ (W : World) (va : Value), Rep W W.heap.size x va → Calls Tryd.prog 45 #[va] W fun e w' => e = .returned (.string ⟨(Bn.bytes x).toArray⟩) ∧ Below W.heap.size W w')
    (EF : ∀ x ∈ f, ∀ (W : World) (va : Value), Rep W W.heap.size x.2 va → Calls Tryd.prog 45 #[va] W fun e w' => e = .returned (.string ⟨(Bn.bytes x.2).toArray⟩) ∧ Below W.heap.size W w') :
    Calls Tryd.prog 45 #[.agg #[.int .u8 (k : Int), .bool b, .int .i64 n, .string s, .slice ao l.length lc, .slice fo f.length fc]] w fun e w' => e = .returned (.string ⟨(Bn.bytes ⟨k, b, n, s, l, f⟩).toArray⟩) ∧ Below w.heap.size w w' := by
  have hrr := hr
  rw [Rep] at hrr
  obtain ⟨ao', lc', fo', fc', hv, _, _, _, _, _, h7, h8⟩ := hrr
  simp only [Value.agg.injEq, Array.mk.injEq, List.cons.injEq, and_true, Value.slice.injEq] at hv
  obtain ⟨_, _, _, _, ⟨rfl, _, rfl⟩, ⟨rfl, _, rfl⟩⟩ := hv
  have hfit0 := hfit
  rw [Bn.fit] at hfit
  obtain ⟨g0, g1, g2, g3, g4, g5, ⟨g6, g6'⟩, g7, g8, g9, g10, g11⟩ := hfit
  obtain ⟨A, hA⟩ : ∃ A, A = w.heap.size := ⟨_, rfl⟩
  obtain ⟨t, ht⟩ : ∃ t : V, t = ⟨k, b, n, s, l, f⟩ := ⟨_, rfl⟩
  obtain ⟨nl, hnl⟩ : ∃ nl, nl = l.length := ⟨_, rfl⟩
  obtain ⟨nf, hnf⟩ : ∃ nf, nf = f.length := ⟨_, rfl⟩
  rw [← hnl, ← hnf] at hr ⊢
  rw [← ht] at hr hlen hfit0 ⊢
  obtain ⟨w1, hw1⟩ : ∃ w1, w1 = w.alloc (.cells #[.int .u8 (k : Int), .bool b, .int .i64 n, .string s, .slice ao nl lc, .slice fo nf fc] 26) := ⟨_, rfl⟩
  have O1 : Hid (OB w w1 A t (.int .u8 (k : Int)) (.bool b) (.int .i64 n) (.string s) (.slice ao nl lc) (.slice fo nf fc)) := by
    show OB _ _ _ _ _ _ _ _ _ _
    rw [hw1, hA]; exact OB.start w t _ _ _ _ _ _ hr
  obtain ⟨R, hR⟩ : ∃ R : ByteArray, R = ⟨(Bn.bytes t).toArray⟩ := ⟨_, rfl⟩
  have HR : Hid (R.data.toList = Bn.hd t :: Bn.tl t) := by show _ = _; rw [hR, Bn.bytes_hd t hfit0]
  rw [← hR]
  have C76 : Hid (∀ W, Calls Tryd.prog 76 #[.int .i64 n] W fun e w' => e = .returned (.int .u64 (Bn.fold n : Int)) ∧ w' = W) := fun W => zig76 n g6 g6' W
  obtain ⟨m2, hm2⟩ : ∃ m : ByteArray, m = ⟨(Bn.num (Bn.fold n)).toArray⟩ := ⟨_, rfl⟩
  have C26 : Hid (∀ W, Calls Tryd.prog 26 #[.int .u64 (Bn.fold n : Int)] W fun e w' => e = .returned (.string m2) ∧ Below W.heap.size W w') := fun W => by rw [hm2]; exact rnumber26 _ (Bn.fold_lt n g6 g6') W
  obtain ⟨mt, hmt⟩ : ∃ m : ByteArray, m = ⟨(Bn.text s).toArray⟩ := ⟨_, rfl⟩
  have C77 : Hid (∀ W, Calls Tryd.prog 77 #[.string s] W fun e w' => e = .returned (.string mt) ∧ Below W.heap.size W w') := fun W => by rw [hmt]; exact bytes77 s (by omega) W
  have hz2 : m2.size ≤ 10 := by rw [Lib.size_eq, hm2]; exact Bn.num_len10 (Bn.fold_lt n g6 g6')
  have hzt : mt.size ≤ 65546 := by
    have := Bn.num_len10 (m := s.size) (by omega)
    rw [Lib.size_eq, hmt]
    show (Bn.text s).length ≤ _
    rw [Bn.text, List.length_append, ← Lib.size_eq]; omega
  have E0 : Hid (k = 0 → R = ⟨#[0]⟩) := fun e => Bn.data_ext (by rw [HR.out, ht, e]; rfl)
  have E1 : Hid (k = 1 → R = (if b then ⟨#[2]⟩ else ⟨#[1]⟩)) := fun e => Bn.data_ext (by rw [HR.out, ht, e]; cases b <;> rfl)
  have E2 : Hid (k = 2 → ⟨#[3]⟩ ++ m2 = R) := fun e => Bn.data_ext (by rw [Bn.cat_list, HR.out, ht, e, hm2]; rfl)
  have E3 : Hid (k = 3 → ⟨#[4]⟩ ++ mt = R) := fun e => Bn.data_ext (by rw [Bn.cat_list, HR.out, ht, e, hmt]; rfl)
  have E4 : Hid (k = 4 → ⟨#[5]⟩ ++ mt = R) := fun e => Bn.data_ext (by rw [Bn.cat_list, HR.out, ht, e, hmt]; rfl)
  have c3 : ¬ 9223372036854775807 < (⟨#[3]⟩ : ByteArray).size + m2.size := by rw [show (⟨#[3]⟩ : ByteArray).size = 1 from rfl]; omega
  have c4 : ¬ 9223372036854775807 < (⟨#[4]⟩ : ByteArray).size + mt.size := by rw [show (⟨#[4]⟩ : ByteArray).size = 1 from rfl]; omega
  have c5 : ¬ 9223372036854775807 < (⟨#[5]⟩ : ByteArray).size + mt.size := by rw [show (⟨#[5]⟩ : ByteArray).size = 1 from rfl]; omega
  have hk6 : k ≤ 6 := g0
  have H7 : Hid (0 < l.length → ∃ g o, ao = some ⟨g, o, none⟩ ∧ g < w.heap.size ∧ RepL w w.heap.size g o l) := h7
  have H8 : Hid (0 < f.length → ∃ g o, fo = some ⟨g, o, none⟩ ∧ g < w.heap.size ∧ RepF w w.heap.size g o f) := h8
  have HEL : Hid (∀ x ∈ l, ∀ (W : World) (va : Value), Rep W W.heap.size x va → Calls Tryd.prog 45 #[va] W fun e w' => e = .returned (.string ⟨(Bn.bytes x).toArray⟩) ∧ Below W.heap.size W w') := EL
  have HEF : Hid (∀ x ∈ f, ∀ (W : World) (va : Value), Rep W W.heap.size x.2 va → Calls Tryd.prog 45 #[va] W fun e w' => e = .returned (.string ⟨(Bn.bytes x.2).toArray⟩) ∧ Below W.heap.size W w') := EF
  have HNL : Hid (nl = l.length ∧ nl ≤ 64) := ⟨hnl, by omega⟩
  have HNF : Hid (nf = f.length ∧ nf ≤ 64) := ⟨hnf, by omega⟩
  have HL5 : Hid (k = 5 → (Bn.bytesL l).length ≤ 4611686018427387904 ∧ R.data.toList = 6 :: (Bn.num nl ++ Bn.bytesL l)) := fun e => by
    rw [Bn.bytes_hd t hfit0] at hlen
    have e2 : Bn.hd t :: Bn.tl t = 6 :: (Bn.num nl ++ Bn.bytesL l) := by rw [ht, e, hnl]; rfl
    rw [e2] at hlen
    refine ⟨?_, HR.out.trans e2⟩
    simp only [List.length_cons, List.length_append] at hlen
    omega
  have HL6 : Hid (k = 6 → (Bn.bytesF f).length ≤ 4611686018427387904 ∧ R.data.toList = 7 :: (Bn.num nf ++ Bn.bytesF f)) := fun e => by
    rw [Bn.bytes_hd t hfit0] at hlen
    have e2 : Bn.hd t :: Bn.tl t = 7 :: (Bn.num nf ++ Bn.bytesF f) := by rw [ht, e, hnf]; rfl
    rw [e2] at hlen
    refine ⟨?_, HR.out.trans e2⟩
    simp only [List.length_cons, List.length_append] at hlen
    omega
  clear hr hlen hfit0 h7 h8 EL EF g0 g1 g2 g3 g4 g5 g6 g6' g7 g8 g9 g10 hm2 hmt hz2 hzt HR hR ht hnl hnf
  have G11 : Hid (Bn.fitF f) := g11
  clear g11
  go_enter Tryd.func45, Tryd.ntmps45
  go_upto_region 2 with fail
  rw [← hA, ← hw1]
  clear hA hw1
  obtain ⟨p0, p1, p2, p3, p4, p5⟩ := O1.out.row.cells
  rcases Bn.seven hk6 with rfl | rfl | rfl | rfl | rfl | rfl | rfl
  · clear c3 c4 c5
    go_wp2
    go_ret
    exact ⟨by rw [E0.out (by first | rfl | trivial)]; rfl, O1.out.below⟩
  · clear c3 c4 c5
    cases b with
    | true =>
      go_wp2
      go_ret
      exact ⟨by rw [E1.out (by first | rfl | trivial)]; rfl, O1.out.below⟩
    | false =>
      go_wp2
      go_ret
      exact ⟨by rw [E1.out (by first | rfl | trivial)]; rfl, O1.out.below⟩
  · clear c4 c5
    go_wp2_with (first
      | (go_at_call 76; refine (C76.out _).mono ?_; rintro e w2 ⟨rfl, rfl⟩)
      | (go_at_call 26; refine (C26.out _).mono ?_; rintro e w3 ⟨rfl, hb3⟩
         have B3 : Hid (Below w.heap.size w w3) := O1.out.below.trans (hb3.mono O1.out.below.size)
         clear hb3))
    go_ret
    exact ⟨by rw [← E2.out (by first | rfl | trivial)]; rfl, B3.out⟩
  · clear c3 c5
    go_wp2_with (first
      | (go_at_call 77; refine (C77.out _).mono ?_; rintro e w3 ⟨rfl, hb3⟩
         have B3 : Hid (Below w.heap.size w w3) := O1.out.below.trans (hb3.mono O1.out.below.size)
         clear hb3))
    go_ret
    exact ⟨by rw [← E3.out (by first | rfl | trivial)]; rfl, B3.out⟩
  · clear c3 c4
    go_wp2_with (first
      | (go_at_call 77; refine (C77.out _).mono ?_; rintro e w3 ⟨rfl, hb3⟩
         have B3 : Hid (Below w.heap.size w w3) := O1.out.below.trans (hb3.mono O1.out.below.size)
         clear hb3))
    go_ret
    exact ⟨by rw [← E4.out (by first | rfl | trivial)]; rfl, B3.out⟩
  · clear c3 c4 c5 E0 E1 E2 E3 E4 C76 C26 C77
    obtain ⟨hb62, hR5⟩ := HL5.out (by first | rfl | trivial)
    have HB62 : Hid ((Bn.bytesL l).length ≤ 4611686018427387904) := hb62
    have HR5 : Hid (R.data.toList = 6 :: (Bn.num nl ++ Bn.bytesL l)) := hR5
    have hnl64 : nl ≤ 64 := HNL.out.2
    obtain ⟨m5, hm5⟩ : ∃ m : ByteArray, m = ⟨(Bn.num nl).toArray⟩ := ⟨_, rfl⟩
    have C26 : Hid (∀ W, Calls Tryd.prog 26 #[.int .u64 (nl : Int)] W fun e w' => e = .returned (.string m5) ∧ Below W.heap.size W w') := fun W => by rw [hm5]; exact rnumber26 nl (by omega) W
    have HM5 : Hid (m5.data.toList = Bn.num nl ∧ m5.size ≤ 10) := ⟨by rw [hm5], by rw [Lib.size_eq, hm5]; exact Bn.num_len10 (by omega)⟩
    clear hb62 hR5 HL5 HL6 hm5
    go_wp2
    go_loopw [3, 38] (fun sv i wr => ∃ (j : Nat) (S : ByteArray), j ≤ nl ∧ i = .int .i64 j ∧ sv = .string S ∧ S.data.toList = Bn.bytesL (l.take j) ∧ OB w wr A t (.int .u8 5) (.bool b) (.int .i64 n) (.string s) (.slice ao nl lc) (.slice fo nf fc)) (fun _ i _ => nl - (intOf i).toNat)
    case atStart => exact ⟨0, ⟨#[]⟩, Nat.zero_le _, rfl, rfl, by rw [List.take_zero, Bn.bytesL], O1.out⟩
    case round =>
      obtain ⟨j, S, hj, rfl, rfl, hS, hO⟩ := hrel
      have O : Hid (OB w wr A t (.int .u8 5) (.bool b) (.int .i64 n) (.string s) (.slice ao nl lc) (.slice fo nf fc)) := hO
      have HS : Hid (S.data.toList = Bn.bytesL (l.take j)) := hS
      clear hS hO O1 p0 p1 p2 p3 p4 p5
      by_cases hlt : j < nl
      · have ha : j < l.length := by rw [← HNL.out.1]; exact hlt
        obtain ⟨g, o, rfl, hg, hrl⟩ := H7.out (by omega)
        obtain ⟨x, hx⟩ : ∃ x, l[j]? = some x := ⟨_, List.getElem?_eq_getElem ha⟩
        obtain ⟨c0, c1, c2, c3, c4, c5, ⟨d0, d1, d2, d3, d4, d5⟩, hrx⟩ := repL_at l o (repL_stays O.out.below (Nat.le_refl _) hg l o hrl) j x hx
        obtain ⟨xk, xb, xn, xs, xa, xl, xc, ya, yl, yc, rfl, rfl, rfl, rfl, rfl, rfl⟩ := rep_form hrx
        have HRX : Hid (Rep wr w.heap.size x (.agg #[.int .u8 (xk : Int), .bool xb, .int .i64 xn, .string xs, .slice xa xl xc, .slice ya yl yc])) := hrx
        have HX : Hid (l[j]? = some x) := hx
        clear hrl hx hrx ha
        go_upto_region 17 with fail
        obtain ⟨D, hD⟩ : ∃ D, D = wr.heap.size := ⟨_, rfl⟩
        obtain ⟨w2, hw2⟩ : ∃ w2, w2 = wr.alloc (.cells #[.int .u8 (xk : Int), .bool xb, .int .i64 xn, .string xs, .slice xa xl xc, .slice ya yl yc] 26) := ⟨_, rfl⟩
        have hb2 : Below wr.heap.size wr w2 := by rw [hw2]; exact below_new _ _
        have O2 : Hid (OB w w2 A t (.int .u8 5) (.bool b) (.int .i64 n) (.string s) (.slice (some ⟨g, o, none⟩) nl lc) (.slice fo nf fc)) := O.out.call hb2
        have R2 : Hid (Row6 w2 D (.int .u8 (xk : Int)) (.bool xb) (.int .i64 xn) (.string xs) (.slice xa xl xc) (.slice ya yl yc)) := by
          show Row6 _ _ _ _ _ _ _ _
          rw [hw2, hD]; exact ⟨by simp, heap_alloc_new wr _⟩
        obtain ⟨Y, hY⟩ : ∃ Y : ByteArray, Y = ⟨(Bn.bytes x).toArray⟩ := ⟨_, rfl⟩
        have C45 : Hid (Calls Tryd.prog 45 #[.agg #[.int .u8 (xk : Int), .bool xb, .int .i64 xn, .string xs, .slice xa xl xc, .slice ya yl yc]] w2 fun e w' => e = .returned (.string Y) ∧ Below w2.heap.size w2 w') := by
          rw [hY]
          exact HEL.out x (List.mem_of_getElem? HX.out) w2 _ (rep_stays (hb2.mono O.out.below.size) O2.out.below.size x _ HRX.out)
        have HN : Hid ((S ++ Y).data.toList = Bn.bytesL (l.take (j + 1))) := by show _ = _; rw [Bn.cat_list, HS.out, hY, Bn.bytesL_take HX.out]
        have hcat : ¬ 9223372036854775807 < S.size + Y.size := by
          have h1 := congrArg List.length HN.out
          rw [Bn.cat_list, List.length_append, ← Lib.size_eq, ← Lib.size_eq] at h1
          have h2 := Bn.bytesL_take_le l (j + 1)
          have h3 := HB62.out
          omega
        rw [← hD, ← hw2]
        clear hD hw2 hb2 O d0 d1 d2 d3 d4 d5 hY HRX
        obtain ⟨p0, p1, p2, p3, p4, p5⟩ := R2.out.cells
        go_wp2_with (first
          | (go_at_call 45; refine C45.out.mono ?_; rintro e w3 ⟨rfl, hb3⟩
             have O3 : Hid (OB w w3 A t (.int .u8 5) (.bool b) (.int .i64 n) (.string s) (.slice (some ⟨g, o, none⟩) nl lc) (.slice fo nf fc)) := O2.out.call hb3
             clear hb3))
        go_roundw
        case rel => ((repeat apply Exists.intro); exact ⟨⟨j + 1, S ++ Y, by omega, by go_num, rfl, HN.out, O3.out⟩, rfl⟩)
        case measure => simp [intOf]; omega
      · have hjn : j = nl := by omega
        subst hjn
        have HSL : Hid (S.data.toList = Bn.bytesL l) := by show _ = _; rw [HS.out, HNL.out.1, List.take_length]
        have HE : Hid ((⟨#[6]⟩ ++ m5) ++ S = R) := Bn.data_ext (by rw [Bn.cat_list, Bn.cat_list, HR5.out, HSL.out, HM5.out.1]; rfl)
        have hm10 := HM5.out.2
        have s6 : (⟨#[6]⟩ : ByteArray).size = 1 := rfl
        have hSs : S.size ≤ 4611686018427387904 := by rw [Lib.size_eq, HSL.out]; exact HB62.out
        have ct1 : ¬ 9223372036854775807 < (⟨#[6]⟩ : ByteArray).size + m5.size := by rw [s6]; omega
        have ct2 : ¬ 9223372036854775807 < ((⟨#[6]⟩ : ByteArray) ++ m5).size + S.size := by rw [ByteArray.size_append, s6]; omega
        obtain ⟨p0, p1, p2, p3, p4, p5⟩ := O.out.row.cells
        have q1 : (j : Int) < 18446744073709551616 := by omega
        clear HS hm10 s6 hSs
        go_wp2_with (first
          | (go_at_call 26; refine (C26.out _).mono ?_; rintro e w3 ⟨rfl, hb3⟩
             have B3 : Hid (Below w.heap.size w w3) := O.out.below.trans (hb3.mono O.out.below.size)
             clear hb3))
        go_ret
        exact ⟨by rw [← HE.out]; rfl, B3.out⟩
  · clear c3 c4 c5 E0 E1 E2 E3 E4 C76 C26 C77
    obtain ⟨hb62, hR6⟩ := HL6.out (by first | rfl | trivial)
    have HB62 : Hid ((Bn.bytesF f).length ≤ 4611686018427387904) := hb62
    have HR6 : Hid (R.data.toList = 7 :: (Bn.num nf ++ Bn.bytesF f)) := hR6
    have hnf64 : nf ≤ 64 := HNF.out.2
    obtain ⟨m6, hm6⟩ : ∃ m : ByteArray, m = ⟨(Bn.num nf).toArray⟩ := ⟨_, rfl⟩
    have C26 : Hid (∀ W, Calls Tryd.prog 26 #[.int .u64 (nf : Int)] W fun e w' => e = .returned (.string m6) ∧ Below W.heap.size W w') := fun W => by rw [hm6]; exact rnumber26 nf (by omega) W
    have HM6 : Hid (m6.data.toList = Bn.num nf ∧ m6.size ≤ 10) := ⟨by rw [hm6], by rw [Lib.size_eq, hm6]; exact Bn.num_len10 (by omega)⟩
    clear hb62 hR6 HL5 HL6 hm6
    go_wp2
    go_loopw [3, 60] (fun sv i wr => ∃ (j : Nat) (S : ByteArray), j ≤ nf ∧ i = .int .i64 j ∧ sv = .string S ∧ S.data.toList = Bn.bytesF (f.take j) ∧ OB w wr A t (.int .u8 6) (.bool b) (.int .i64 n) (.string s) (.slice ao nl lc) (.slice fo nf fc)) (fun _ i _ => nf - (intOf i).toNat)
    case atStart => exact ⟨0, ⟨#[]⟩, Nat.zero_le _, rfl, rfl, by rw [List.take_zero, Bn.bytesF], O1.out⟩
    case round =>
      obtain ⟨j, S, hj, rfl, rfl, hS, hO⟩ := hrel
      have O : Hid (OB w wr A t (.int .u8 6) (.bool b) (.int .i64 n) (.string s) (.slice ao nl lc) (.slice fo nf fc)) := hO
      have HS : Hid (S.data.toList = Bn.bytesF (f.take j)) := hS
      clear hS hO O1 p0 p1 p2 p3 p4 p5
      by_cases hlt : j < nf
      · have ha : j < f.length := by rw [← HNF.out.1]; exact hlt
        obtain ⟨g, o, rfl, hg, hrl⟩ := H8.out (by omega)
        obtain ⟨⟨m, x⟩, hx⟩ : ∃ x, f[j]? = some x := ⟨_, List.getElem?_eq_getElem ha⟩
        obtain ⟨dm, hms, c0, c1, c2, c3, c4, c5, ⟨d0, d1, d2, d3, d4, d5⟩, hrx⟩ := repF_at f o (repF_stays O.out.below (Nat.le_refl _) hg f o hrl) j m x hx
        rw [show o + j * 7 + 1 + 1 = o + j * 7 + 2 by omega] at d1
        rw [show o + j * 7 + 1 + 2 = o + j * 7 + 3 by omega] at d2
        rw [show o + j * 7 + 1 + 3 = o + j * 7 + 4 by omega] at d3
        rw [show o + j * 7 + 1 + 4 = o + j * 7 + 5 by omega] at d4
        rw [show o + j * 7 + 1 + 5 = o + j * 7 + 6 by omega] at d5
        obtain ⟨xk, xb, xn, xs, xa, xl, xc, ya, yl, yc, rfl, rfl, rfl, rfl, rfl, rfl⟩ := rep_form hrx
        have HRX : Hid (Rep wr w.heap.size x (.agg #[.int .u8 (xk : Int), .bool xb, .int .i64 xn, .string xs, .slice xa xl xc, .slice ya yl yc])) := hrx
        have HX : Hid (f[j]? = some (m, x)) := hx
        clear hrl hx hrx ha hms
        go_upto_region 24 with fail
        obtain ⟨D, hD⟩ : ∃ D, D = wr.heap.size := ⟨_, rfl⟩
        obtain ⟨w2, hw2⟩ : ∃ w2, w2 = wr.alloc (.cells #[.string m, .int .u8 (xk : Int), .bool xb, .int .i64 xn, .string xs, .slice xa xl xc, .slice ya yl yc] 39) := ⟨_, rfl⟩
        have hb2 : Below wr.heap.size wr w2 := by rw [hw2]; exact below_new _ _
        have O2 : Hid (OB w w2 A t (.int .u8 6) (.bool b) (.int .i64 n) (.string s) (.slice ao nl lc) (.slice (some ⟨g, o, none⟩) nf fc)) := O.out.call hb2
        have R2 : Hid (D < w2.heap.size ∧ w2.heap[D]? = some (.cells #[.string m, .int .u8 (xk : Int), .bool xb, .int .i64 xn, .string xs, .slice xa xl xc, .slice ya yl yc] 39 (0, 0))) := by
          show _ ∧ _
          rw [hw2, hD]; exact ⟨by simp, heap_alloc_new wr _⟩
        obtain ⟨Y, hY⟩ : ∃ Y : ByteArray, Y = ⟨(Bn.bytes x).toArray⟩ := ⟨_, rfl⟩
        obtain ⟨M, hM⟩ : ∃ M : ByteArray, M = ⟨(Bn.text m).toArray⟩ := ⟨_, rfl⟩
        have hmf := Bn.fitF_mem f m x G11.out (List.mem_of_getElem? HX.out)
        have C77 : Hid (∀ W, Calls Tryd.prog 77 #[.string m] W fun e w' => e = .returned (.string M) ∧ Below W.heap.size W w') := fun W => by rw [hM]; exact bytes77 m (by have := hmf.1; omega) W
        have C45 : Hid (∀ W, Below w2.heap.size w2 W → Calls Tryd.prog 45 #[.agg #[.int .u8 (xk : Int), .bool xb, .int .i64 xn, .string xs, .slice xa xl xc, .slice ya yl yc]] W fun e w' => e = .returned (.string Y) ∧ Below W.heap.size W w') := fun W hW => by
          rw [hY]
          exact HEF.out (m, x) (List.mem_of_getElem? HX.out) W _ (rep_stays ((hb2.trans (hW.mono hb2.size)).mono O.out.below.size) (Nat.le_trans O2.out.below.size hW.size) x _ HRX.out)
        have HN : Hid ((S ++ (M ++ Y)).data.toList = Bn.bytesF (f.take (j + 1))) := by show _ = _; rw [Bn.cat_list, Bn.cat_list, HS.out, hY, hM, Bn.bytesF_take HX.out]
        have hlens : S.size + (M.size + Y.size) ≤ 4611686018427387904 := by
          have h1 := congrArg List.length HN.out
          rw [Bn.cat_list, Bn.cat_list, List.length_append, List.length_append, ← Lib.size_eq, ← Lib.size_eq, ← Lib.size_eq] at h1
          have h2 := Bn.bytesF_take_le f (j + 1)
          have h3 := HB62.out
          omega
        have hcat1 : ¬ 9223372036854775807 < M.size + Y.size := by omega
        have hcat2 : ¬ 9223372036854775807 < S.size + (M ++ Y).size := by rw [ByteArray.size_append]; omega
        have hcat3 : ¬ 9223372036854775807 < S.size + (M.size + Y.size) := by omega
        rw [← hD, ← hw2]
        clear hD hw2 hb2 O dm d0 d1 d2 d3 d4 d5 hY hM HRX hlens hmf
        have p0 := block_cells R2.out.2 0 _ rfl
        have p1 := block_cells R2.out.2 1 _ rfl
        have p2 := block_cells R2.out.2 2 _ rfl
        have p3 := block_cells R2.out.2 3 _ rfl
        have p4 := block_cells R2.out.2 4 _ rfl
        have p5 := block_cells R2.out.2 5 _ rfl
        have p6 := block_cells R2.out.2 6 _ rfl
        go_region_law (first
          | (go_simp; go_at_call 77; refine (C77.out _).mono ?_; rintro e w3 ⟨rfl, hb3⟩
             have B3 : Hid (Below w2.heap.size w2 w3) := (by first | exact (Below.refl _ _).drew.trans hb3 | exact hb3)
             have hr3 := (B3.out.block D R2.out.1).trans R2.out.2
             have q0 := block_cells hr3 0 _ rfl
             have q1 := block_cells hr3 1 _ rfl
             have q2 := block_cells hr3 2 _ rfl
             have q3 := block_cells hr3 3 _ rfl
             have q4 := block_cells hr3 4 _ rfl
             have q5 := block_cells hr3 5 _ rfl
             have q6 := block_cells hr3 6 _ rfl
             clear hb3 hr3)
          | (go_simp; go_at_call 45; refine (C45.out _ B3.out).mono ?_; rintro e w4 ⟨rfl, hb4⟩
             have O4 : Hid (OB w w4 A t (.int .u8 6) (.bool b) (.int .i64 n) (.string s) (.slice ao nl lc) (.slice (some ⟨g, o, none⟩) nf fc)) := (O2.out.call B3.out).call hb4
             clear hb4))
        all_goals
          go_wp2
          go_roundw
          case rel => ((repeat apply Exists.intro); exact ⟨⟨j + 1, S ++ (M ++ Y), by omega, by go_num, rfl, HN.out, O4.out⟩, rfl⟩)
          case measure => simp [intOf]; omega
      · have hjn : j = nf := by omega
        subst hjn
        have HSL : Hid (S.data.toList = Bn.bytesF f) := by show _ = _; rw [HS.out, HNF.out.1, List.take_length]
        have HE : Hid ((⟨#[7]⟩ ++ m6) ++ S = R) := Bn.data_ext (by rw [Bn.cat_list, Bn.cat_list, HR6.out, HSL.out, HM6.out.1]; rfl)
        have hm10 := HM6.out.2
        have s6 : (⟨#[7]⟩ : ByteArray).size = 1 := rfl
        have hSs : S.size ≤ 4611686018427387904 := by rw [Lib.size_eq, HSL.out]; exact HB62.out
        have ct1 : ¬ 9223372036854775807 < (⟨#[7]⟩ : ByteArray).size + m6.size := by rw [s6]; omega
        have ct2 : ¬ 9223372036854775807 < ((⟨#[7]⟩ : ByteArray) ++ m6).size + S.size := by rw [ByteArray.size_append, s6]; omega
        obtain ⟨p0, p1, p2, p3, p4, p5⟩ := O.out.row.cells
        have q1 : (j : Int) < 18446744073709551616 := by omega
        clear HS hm10 s6 hSs
        go_wp2_with (first
          | (go_at_call 26; refine (C26.out _).mono ?_; rintro e w3 ⟨rfl, hb3⟩
             have B3 : Hid (Below w.heap.size w w3) := O.out.below.trans (hb3.mono O.out.below.size)
             clear hb3))
        go_ret
        exact ⟨by rw [← HE.out]; rfl, B3.out⟩
theorem text45 : ∀ (N : Nat) (t : V), Vl.count t ≤ N → Bn.fit t → (Bn.bytes t).length ≤ 4611686018427387904 → ∀ (w : World) (v : Value), Rep w w.heap.size t v → Calls Tryd.prog 45 #[v] w fun e w' => e = .returned (.string ⟨(Bn.bytes t).toArray⟩) ∧ Below w.heap.size w w' := by
  intro N
  induction N with
  | zero => intro t ht; obtain ⟨k, b, n, s, l, f⟩ := t; rw [Vl.count] at ht; omega
  | succ N ih =>
    rintro ⟨k, b, n, s, l, f⟩ ht hfit hlen w v hr
    have hr' := hr
    rw [Rep] at hr'
    obtain ⟨ao, lc, fo, fc, rfl, _⟩ := hr'
    have hfit' := hfit
    rw [Bn.fit] at hfit'
    obtain ⟨g0, g1, g2, g3, g4, g5, _, _, _, _, g10, g11⟩ := hfit'
    have hb := Bn.bytes_hd _ hfit
    rw [hb, List.length_cons, Bn.tl] at hlen
    refine text45_one k b n s l f hfit (by rw [hb, List.length_cons, Bn.tl]; exact hlen) w ao lc fo fc hr (fun x hx W va hrx => ?_) (fun x hx W va hrx => ?_)
    · obtain ⟨q, hq⟩ := List.getElem?_of_mem hx
      refine ih x (by have := Vl.count_partL (k := k) (b := b) (n := n) (s := s) (f := f) hq; omega) (Bn.fitL_mem l x g10 hx) ?_ W va hrx
      have h1 := Bn.bytesL_take_le l (q + 1)
      rw [Bn.bytesL_take hq, List.length_append] at h1
      have k5 : k = 5 := Decidable.byContradiction fun hn => by rw [g4 hn] at hx; cases hx
      rw [if_neg (by omega), if_neg (by omega), if_neg (by omega), if_pos k5, List.length_append] at hlen
      omega
    · obtain ⟨q, hq⟩ := List.getElem?_of_mem hx
      obtain ⟨m, x⟩ := x
      refine ih x (by have := Vl.count_partF (k := k) (b := b) (n := n) (s := s) (l := l) hq; omega) (Bn.fitF_mem f m x g11 hx).2 ?_ W va hrx
      have h1 := Bn.bytesF_take_le f (q + 1)
      rw [Bn.bytesF_take hq, List.length_append, List.length_append] at h1
      have k6 : k = 6 := Decidable.byContradiction fun hn => by rw [g5 hn] at hx; cases hx
      rw [if_neg (by omega), if_neg (by omega), if_neg (by omega), if_neg (by omega), List.length_append] at hlen
      omega
end Go.Proofs.YtbogggnnmbjlfaaDoor
/- The document's Write, walked. -/
namespace Go.Proofs.YtbogggnnmbjlfaaDoor
open Go.RowKit
open Vl (V)
namespace Bn
theorem pow_pos' : ∀ e : Nat, 1 ≤ 200 ^ e
  | 0 => by simp
  | e + 1 => by rw [Nat.pow_succ]; have := pow_pos' e; omega
mutual
/-- a right value's text is no longer than memory may hold -/
theorem len_right : ∀ (t : V) (d : Nat), d ≤ 6 → Vl.check u8 d t = 0 → rng t → (bytes t).length ≤ 2000 * 200 ^ (6 - d)
  | ⟨k, b, n, s, l, f⟩, d, hd, h, hr => by
    have hf := fit_of u8 d _ h hr
    have hh := bytes_hd _ hf
    obtain ⟨a1, a2, a3, a4, a5, a6, a7, a8⟩ := Vl.right_form u8 h
    obtain ⟨b1, b2, b3⟩ := alone_sizes h
    rw [fit] at hf
    rw [rng] at hr
    have hp := pow_pos' (6 - d)
    rw [hh, List.length_cons, tl]
    have hn1 := num_len10 (m := fold n) (fold_lt n hr.1.1 hr.1.2)
    have hn2 := num_len10 (m := s.size) (by omega)
    have hn3 := num_len10 (m := l.length) (by omega)
    have hn4 := num_len10 (m := f.length) (by omega)
    have ht : (text s).length = (num s.size).length + s.size := by rw [text, List.length_append, ← Lib.size_eq]
    have hsmall : 1100 ≤ 2000 * 200 ^ (6 - d) := by omega
    by_cases h1 : k ≤ 1
    · rw [if_pos h1]; simp only [List.length_nil]; omega
    · rw [if_neg h1]
      by_cases h2 : k = 2
      · rw [if_pos h2]; omega
      · rw [if_neg h2]
        by_cases h3 : k = 3 ∨ k = 4
        · rw [if_pos h3]; omega
        · rw [if_neg h3]
          have h0 : Vl.alone u8 d ⟨k, b, n, s, l, f⟩ = 0 := by
            rw [Vl.check] at h
            by_cases e : Vl.alone u8 d ⟨k, b, n, s, l, f⟩ = 0
            · exact e
            · rw [if_pos e] at h; exact absurd h e
          by_cases h5 : k = 5
          · rw [if_pos h5, List.length_append]
            by_cases hl : 0 < l.length
            · have hd6 := Vl.alone_depth u8 h0 (Or.inl hl)
              have ih := lenL_right l (d + 1) (by omega) a7 hr.2.1
              have e1 : 200 ^ (6 - d) = 200 ^ (6 - (d + 1)) * 200 := by rw [← Nat.pow_succ]; congr 1; omega
              have hp1 := pow_pos' (6 - (d + 1))
              have m1 : l.length * (2000 * 200 ^ (6 - (d + 1))) ≤ 64 * (2000 * 200 ^ (6 - (d + 1))) := Nat.mul_le_mul_right _ b2
              rw [e1]
              generalize 200 ^ (6 - (d + 1)) = P at *
              omega
            · obtain rfl : l = [] := List.eq_nil_of_length_eq_zero (by omega)
              rw [bytesL]; simp only [List.length_nil] at *; omega
          · rw [if_neg h5, List.length_append]
            by_cases hl : 0 < f.length
            · have hd6 := Vl.alone_depth u8 h0 (Or.inr hl)
              have ih := lenF_right f (d + 1) Option.none (by omega) a8 hr.2.2
              have e1 : 200 ^ (6 - d) = 200 ^ (6 - (d + 1)) * 200 := by rw [← Nat.pow_succ]; congr 1; omega
              have hp1 := pow_pos' (6 - (d + 1))
              have m1 : f.length * (1034 + 2000 * 200 ^ (6 - (d + 1))) ≤ 64 * (1034 + 2000 * 200 ^ (6 - (d + 1))) := Nat.mul_le_mul_right _ b3
              rw [e1]
              generalize 200 ^ (6 - (d + 1)) = P at *
              omega
            · obtain rfl : f = [] := List.eq_nil_of_length_eq_zero (by omega)
              rw [bytesF]; simp only [List.length_nil] at *; omega
theorem lenL_right : ∀ (l : List V) (d : Nat), d ≤ 6 → Vl.checkL u8 d l = 0 → rngL l → (bytesL l).length ≤ l.length * (2000 * 200 ^ (6 - d))
  | [], _, _, _, _ => by rw [bytesL]; simp
  | x :: r, d, hd, h, hr => by
    rw [Vl.checkL] at h
    rw [rngL] at hr
    by_cases e : Vl.check u8 d x = 0
    · rw [if_neg (by simp [e])] at h
      have h1 := len_right x d hd e hr.1
      have h2 := lenL_right r d hd h hr.2
      rw [bytesL, List.length_append, List.length_cons, Nat.add_mul, Nat.one_mul]
      omega
    · rw [if_pos e] at h; exact absurd h e
theorem lenF_right : ∀ (f : List (ByteArray × V)) (d : Nat) (p : Option ByteArray), d ≤ 6 → Vl.checkF u8 d p f = 0 → rngF f → (bytesF f).length ≤ f.length * (1034 + 2000 * 200 ^ (6 - d))
  | [], _, _, _, _, _ => by rw [bytesF]; simp
  | (m, x) :: r, d, p, hd, h, hr => by
    rw [Vl.checkF] at h
    rw [rngF] at hr
    by_cases e0 : Vl.nameErr u8 m = 0
    · rw [if_neg (by simp [e0])] at h
      by_cases e1 : Vl.notUp m p = true
      · rw [if_pos e1] at h; cases h
      · rw [if_neg e1] at h
        by_cases e : Vl.check u8 d x = 0
        · rw [if_neg (by simp [e])] at h
          have h1 := len_right x d hd e hr.1
          have h2 := lenF_right r d (some m) hd h hr.2
          have hm : m.size ≤ 1024 := by
            rw [Vl.nameErr] at e0
            split at e0
            · cases e0
            · omega
          have hn := num_len10 (m := m.size) (by omega)
          rw [bytesF, List.length_append, List.length_append, List.length_cons, Nat.add_mul, Nat.one_mul, text, List.length_append, ← Lib.size_eq]
          omega
        · rw [if_pos e] at h; exact absurd h e
    · rw [if_pos e0] at h; exact absurd h e0
end
theorem len_small {t : V} (h : Vl.check u8 0 t = 0) (hr : rng t) : (bytes t).length ≤ 4611686018427387904 :=
  Nat.le_trans (len_right t 0 (by omega) h hr) (by decide)
end Bn
set_option maxHeartbeats 4000000 in
set_option maxRecDepth 10000 in
theorem rwrite19 (t : V) (w : World) (v : Value) (hR : Rep w w.heap.size t v) :
    Calls Tryd.prog 19 #[v] w fun e w' => e = .returned (.tuple #[.string (Bn.wtext t), .int .i64 ((Bn.werr t : Nat) : Int)]) ∧ Below w.heap.size w w' := by
  obtain ⟨xk, xb, xn, xs, xa, xl, xc, va, vl, vc, hv⟩ := repA_form (rep_repA t v hR)
  subst hv
  obtain ⟨B, hB⟩ : ∃ B, B = w.heap.size := ⟨_, rfl⟩
  obtain ⟨w1, hw1⟩ : ∃ w1, w1 = w.alloc (.cells #[.int .u8 (xk : Int), .bool xb, .int .i64 xn, .string xs, .slice xa xl xc, .slice va vl vc] 26) := ⟨_, rfl⟩
  have O1 : Hid (OB w w1 B t (.int .u8 (xk : Int)) (.bool xb) (.int .i64 xn) (.string xs) (.slice xa xl xc) (.slice va vl vc)) := by
    show OB _ _ _ _ _ _ _ _ _ _
    rw [hw1, hB]; exact OB.start w t _ _ _ _ _ _ hR
  obtain ⟨c, hc⟩ : ∃ c, c = Vl.check Bn.u8 0 t := ⟨_, rfl⟩
  obtain ⟨we, hwe⟩ : ∃ we, we = Bn.werr t := ⟨_, rfl⟩
  obtain ⟨wt, hwt⟩ : ∃ wt, wt = Bn.wtext t := ⟨_, rfl⟩
  obtain ⟨R, hRt⟩ : ∃ R : ByteArray, R = ⟨(Bn.bytes t).toArray⟩ := ⟨_, rfl⟩
  have C44 : Hid (∀ W, OB w W B t (.int .u8 (xk : Int)) (.bool xb) (.int .i64 xn) (.string xs) (.slice xa xl xc) (.slice va vl vc) → Calls Tryd.prog 44 #[.agg #[.int .u8 (xk : Int), .bool xb, .int .i64 xn, .string xs, .slice xa xl xc, .slice va vl vc]] W fun e w' => e = .returned (.int .i64 (c : Int)) ∧ Below W.heap.size W w') := fun W hW => by
    rw [hc]
    exact rcheck19 t W w.heap.size _ hW.below.size hW.rep
  have C45 : Hid (c = 0 → ∀ W, OB w W B t (.int .u8 (xk : Int)) (.bool xb) (.int .i64 xn) (.string xs) (.slice xa xl xc) (.slice va vl vc) → Calls Tryd.prog 45 #[.agg #[.int .u8 (xk : Int), .bool xb, .int .i64 xn, .string xs, .slice xa xl xc, .slice va vl vc]] W fun e w' => e = .returned (.string R) ∧ Below W.heap.size W w') := fun h0 W hW => by
    rw [hRt]
    have hc0 : Vl.check Bn.u8 0 t = 0 := by rw [← hc]; exact h0
    have hrng := Bn.rep_rng t _ hR
    exact text45 _ t (Nat.le_refl _) (Bn.fit_of Bn.u8 0 t hc0 hrng) (Bn.len_small hc0 hrng) W _ (rep_stays (Below.refl _ _) hW.below.size t _ hW.rep)
  have HWE : Hid (c ≠ 0 → we = c ∧ wt = ⟨#[]⟩) := fun h => by rw [hwe, hwt]; rw [hc] at h ⊢; exact Bn.werr_why h
  have hRl : R.size = (Bn.bytes t).length := by rw [Lib.size_eq, hRt]
  have HWL : Hid (c = 0 → 16384 < R.size → we = 4 ∧ wt = ⟨#[]⟩) := fun h h2 => by
    rw [hwe, hwt]
    exact Bn.werr_long (by rw [← hc]; exact h) (by rw [← hRl]; exact h2)
  have HWO : Hid (c = 0 → ¬ 16384 < R.size → we = 0 ∧ wt = R) := fun h h2 => by
    rw [hwe, hwt, hRt]
    exact Bn.werr_ok (by rw [← hc]; exact h) (by rw [← hRl]; exact h2)
  rw [← hwe, ← hwt]
  clear hR hc hwe hwt hRt hRl
  go_enter Tryd.func19, Tryd.ntmps19
  go_upto_region 1 with fail
  rw [← hB, ← hw1]
  clear hB hw1
  obtain ⟨p0, p1, p2, p3, p4, p5⟩ := O1.out.row.cells
  by_cases h0 : c = 0
  · have D45 : Hid (∀ W, OB w W B t (.int .u8 (xk : Int)) (.bool xb) (.int .i64 xn) (.string xs) (.slice xa xl xc) (.slice va vl vc) → Calls Tryd.prog 45 #[.agg #[.int .u8 (xk : Int), .bool xb, .int .i64 xn, .string xs, .slice xa xl xc, .slice va vl vc]] W fun e w' => e = .returned (.string R) ∧ Below W.heap.size W w') := C45.out h0
    by_cases hl : 16384 < R.size
    · obtain ⟨rfl, rfl⟩ := HWL.out h0 hl
      have hl' : (16384 : Int) < (R.size : Int) := by omega
      subst h0
      clear C45 HWE HWL HWO hl
      go_wp2_with (first
        | (go_at_call 44; refine (C44.out _ O1.out).mono ?_; rintro e w2 ⟨rfl, hb2⟩
           have O2 : Hid (OB w w2 B t (.int .u8 (xk : Int)) (.bool xb) (.int .i64 xn) (.string xs) (.slice xa xl xc) (.slice va vl vc)) := O1.out.call hb2
           obtain ⟨p0, p1, p2, p3, p4, p5⟩ := O2.out.row.cells
           clear hb2)
        | (go_at_call 45; refine (D45.out _ O2.out).mono ?_; rintro e w3 ⟨rfl, hb3⟩
           have B3 : Hid (Below w.heap.size w w3) := O2.out.below.trans (hb3.mono O2.out.below.size)
           clear hb3))
      go_ret2
      exact ⟨rfl, B3.out⟩
    · obtain ⟨rfl, rfl⟩ := HWO.out h0 hl
      have hl' : ¬ (16384 : Int) < (wt.size : Int) := by omega
      subst h0
      clear C45 HWE HWL HWO hl
      go_wp2_with (first
        | (go_at_call 44; refine (C44.out _ O1.out).mono ?_; rintro e w2 ⟨rfl, hb2⟩
           have O2 : Hid (OB w w2 B t (.int .u8 (xk : Int)) (.bool xb) (.int .i64 xn) (.string xs) (.slice xa xl xc) (.slice va vl vc)) := O1.out.call hb2
           obtain ⟨p0, p1, p2, p3, p4, p5⟩ := O2.out.row.cells
           clear hb2)
        | (go_at_call 45; refine (D45.out _ O2.out).mono ?_; rintro e w3 ⟨rfl, hb3⟩
           have B3 : Hid (Below w.heap.size w w3) := O2.out.below.trans (hb3.mono O2.out.below.size)
           clear hb3))
      go_ret2
      exact ⟨rfl, B3.out⟩
  · obtain ⟨rfl, rfl⟩ := HWE.out h0
    have h0' : ¬ (we : Int) = 0 := by omega
    clear C45 HWE HWL HWO h0
    go_wp2_with (first
      | (go_at_call 44; refine (C44.out _ O1.out).mono ?_; rintro e w2 ⟨rfl, hb2⟩
         have B2 : Hid (Below w.heap.size w w2) := O1.out.below.trans (hb2.mono O1.out.below.size)
         clear hb2))
    go_ret2
    exact ⟨rfl, B2.out⟩
end Go.Proofs.YtbogggnnmbjlfaaDoor
/- BinTexts, walked. -/
namespace Go.Proofs.YtbogggnnmbjlfaaDoor
open Go.RowKit
open Vl (V)
/-- what is read is one thing alone -/
theorem read_one (s : ByteArray) : ∃ (u : V) (c : Int), ∀ (w : World) (e : Ending) (w' : World), ReadGave s w e w' → Below w.heap.size w w' ∧ ∃ (yk : Nat) (yb : Bool) (yn : Int) (ys : ByteArray) (ya : Option Addr) (yl yc : Nat) (yd : Option Addr) (ye yf : Nat), e = .returned (.tuple #[.agg #[.int .u8 (yk : Int), .bool yb, .int .i64 yn, .string ys, .slice ya yl yc, .slice yd ye yf], .int .i64 c]) ∧ RepA w' (fun g => w.heap.size ≤ g ∧ g < w'.heap.size) u (.agg #[.int .u8 (yk : Int), .bool yb, .int .i64 yn, .string ys, .slice ya yl yc, .slice yd ye yf]) := by
  by_cases h : ∃ t, Bn.Is s t
  · obtain ⟨t0, h0⟩ := h
    refine ⟨t0, 0, fun w e w' hg => ?_⟩
    obtain ⟨hb, ⟨t, yk, yb, yn, ys, ya, yl, yc, yd, ye, yf, ht, he, hr⟩ | ⟨hn, _⟩⟩ := hg
    · obtain rfl := ht.one h0
      exact ⟨hb, yk, yb, yn, ys, ya, yl, yc, yd, ye, yf, he, hr⟩
    · exact absurd h0 (hn t0)
  · refine ⟨⟨0, false, 0, ⟨#[]⟩, [], []⟩, if 16384 < s.size then 4 else 11, fun w e w' hg => ?_⟩
    obtain ⟨hb, ⟨t, _, _, _, _, _, _, _, _, _, _, ht, _⟩ | ⟨_, he⟩⟩ := hg
    · exact absurd ⟨t, ht⟩ h
    · exact ⟨hb, 0, false, 0, ⟨#[]⟩, none, 0, 0, none, 0, 0, he, repA_flat w' _ 0 false 0 ⟨#[]⟩ (by omega) (by omega) (by decide)⟩
set_option maxHeartbeats 8000000 in
set_option maxRecDepth 10000 in
theorem texts5 (t : V) (s : ByteArray) (w : World) (hT : Bn.HasU w) (v : Value) (hR : Rep w w.heap.size t v) :
    Calls Tryd.prog 5 #[v, .string s] w fun e w' => e = .returned (.bool true) ∧ Below w.heap.size w w' := by
  obtain ⟨xk, xb, xn, xs, xa, xl, xc, va, vl, vc, hv⟩ := repA_form (rep_repA t v hR)
  subst hv
  obtain ⟨u, c, hread⟩ := read_one s
  have HT : Hid (∀ W, Below w.heap.size w W → Bn.HasU W) := fun W h => hT.stays h
  obtain ⟨B, hB⟩ : ∃ B, B = w.heap.size := ⟨_, rfl⟩
  obtain ⟨w1, hw1⟩ : ∃ w1, w1 = w.alloc (.cells #[.int .u8 (xk : Int), .bool xb, .int .i64 xn, .string xs, .slice xa xl xc, .slice va vl vc] 26) := ⟨_, rfl⟩
  have O1 : Hid (OB w w1 B t (.int .u8 (xk : Int)) (.bool xb) (.int .i64 xn) (.string xs) (.slice xa xl xc) (.slice va vl vc)) := by
    show OB _ _ _ _ _ _ _ _ _ _
    rw [hw1, hB]; exact OB.start w t _ _ _ _ _ _ hR
  obtain ⟨we, hwe⟩ : ∃ we : Int, we = ((Bn.werr t : Nat) : Int) := ⟨_, rfl⟩
  obtain ⟨wt, hwt⟩ : ∃ wt, wt = Bn.wtext t := ⟨_, rfl⟩
  have C18 : Hid (∀ W, OB w W B t (.int .u8 (xk : Int)) (.bool xb) (.int .i64 xn) (.string xs) (.slice xa xl xc) (.slice va vl vc) → Calls Tryd.prog 18 #[.agg #[.int .u8 (xk : Int), .bool xb, .int .i64 xn, .string xs, .slice xa xl xc, .slice va vl vc]] W fun e w' => e = .returned (.tuple #[.string wt, .int .i64 we]) ∧ Below W.heap.size W w') := fun W hW => by
    rw [hwe, hwt]
    exact write18 t W (hT.stays hW.below) w.heap.size _ hW.below.size hW.rep
  have C19 : Hid (∀ W, OB w W B t (.int .u8 (xk : Int)) (.bool xb) (.int .i64 xn) (.string xs) (.slice xa xl xc) (.slice va vl vc) → Calls Tryd.prog 19 #[.agg #[.int .u8 (xk : Int), .bool xb, .int .i64 xn, .string xs, .slice xa xl xc, .slice va vl vc]] W fun e w' => e = .returned (.tuple #[.string wt, .int .i64 we]) ∧ Below W.heap.size W w') := fun W hW => by
    rw [hwe, hwt]
    exact rwrite19 t W _ (rep_stays (Below.refl _ _) hW.below.size t _ hW.rep)
  have C20 : Hid (∀ W, Below w.heap.size w W → Calls Tryd.prog 20 #[.string s] W fun e w' => Below W.heap.size W w' ∧ ∃ (yk : Nat) (yb : Bool) (yn : Int) (ys : ByteArray) (ya : Option Addr) (yl yc : Nat) (yd : Option Addr) (ye yf : Nat), e = .returned (.tuple #[.agg #[.int .u8 (yk : Int), .bool yb, .int .i64 yn, .string ys, .slice ya yl yc, .slice yd ye yf], .int .i64 c]) ∧ RepA w' (fun g => W.heap.size ≤ g ∧ g < w'.heap.size) u (.agg #[.int .u8 (yk : Int), .bool yb, .int .i64 yn, .string ys, .slice ya yl yc, .slice yd ye yf])) := fun W hW => (read20 s W (hT.stays hW)).mono (fun e w' h => hread W e w' h)
  have C21 : Hid (∀ W, Calls Tryd.prog 21 #[.string s] W fun e w' => Below W.heap.size W w' ∧ ∃ (yk : Nat) (yb : Bool) (yn : Int) (ys : ByteArray) (ya : Option Addr) (yl yc : Nat) (yd : Option Addr) (ye yf : Nat), e = .returned (.tuple #[.agg #[.int .u8 (yk : Int), .bool yb, .int .i64 yn, .string ys, .slice ya yl yc, .slice yd ye yf], .int .i64 c]) ∧ RepA w' (fun g => W.heap.size ≤ g ∧ g < w'.heap.size) u (.agg #[.int .u8 (yk : Int), .bool yb, .int .i64 yn, .string ys, .slice ya yl yc, .slice yd ye yf])) := fun W => (rread21 s W).mono (fun e w' h => hread W e w' h)
  have C22 : Hid (∀ W, Below w.heap.size w W → Calls Tryd.prog 22 #[] W fun e w' => e = .returned (.bool true) ∧ Below W.heap.size W w') := fun W hW => lives22 W (hT.stays hW)
  have C17 : Hid (∀ W va vb, Rep W W.heap.size u va → Rep W W.heap.size u vb → Calls Tryd.prog 17 #[va, vb] W fun e w' => e = .returned (.bool true) ∧ Below W.heap.size W w') := fun W va vb h1 h2 => by
    have h := rsame17 _ u (Nat.le_refl _) u W W.heap.size va vb (Nat.le_refl _) h1 h2
    rw [Vl.same_refl] at h
    exact h
  clear hR hT hwe hwt hread
  go_enter Tryd.func5, Tryd.ntmps5
  go_upto_region 1 with fail
  rw [← hB, ← hw1]
  clear hB hw1
  obtain ⟨p0, p1, p2, p3, p4, p5⟩ := O1.out.row.cells
  go_upto_region 4 with (first
    | (go_at_call 18; refine (C18.out _ O1.out).mono ?_; rintro e w2 ⟨rfl, hb2⟩
       have O2 : Hid (OB w w2 B t (.int .u8 (xk : Int)) (.bool xb) (.int .i64 xn) (.string xs) (.slice xa xl xc) (.slice va vl vc)) := O1.out.call hb2
       obtain ⟨p0, p1, p2, p3, p4, p5⟩ := O2.out.row.cells
       clear hb2)
    | (go_at_call 19; refine (C19.out _ O2.out).mono ?_; rintro e w3 ⟨rfl, hb3⟩
       have B3 : Hid (Below w.heap.size w w3) := (O2.out.call hb3).below
       clear hb3)
    | (go_at_call 20; refine (C20.out _ B3.out).mono ?_; rintro e w4 ⟨hb4, yk, yb, yn, ys, ya, yl, yc, yd, ye, yf, rfl, hr4⟩
       have B4 : Hid (Below w.heap.size w w4) := B3.out.trans (hb4.mono B3.out.size)
       have H4 : Hid (Rep w4 w4.heap.size u (.agg #[.int .u8 (yk : Int), .bool yb, .int .i64 yn, .string ys, .slice ya yl yc, .slice yd ye yf])) := repA_rep (fun g hg => hg.2) u _ hr4
       clear hb4 hr4))
  obtain ⟨C, hC⟩ : ∃ C, C = w4.heap.size := ⟨_, rfl⟩
  obtain ⟨w5, hw5⟩ : ∃ w5, w5 = w4.alloc (.cells #[.int .u8 (yk : Int), .bool yb, .int .i64 yn, .string ys, .slice ya yl yc, .slice yd ye yf] 26) := ⟨_, rfl⟩
  have hb5 : Below w4.heap.size w4 w5 := by rw [hw5]; exact below_new _ _
  have B5 : Hid (Below w.heap.size w w5) := B4.out.trans (hb5.mono B4.out.size)
  have O5 : Hid (OB w5 w5 C u (.int .u8 (yk : Int)) (.bool yb) (.int .i64 yn) (.string ys) (.slice ya yl yc) (.slice yd ye yf)) := by
    refine ⟨Below.refl _ _, ⟨?_, ?_⟩, rep_stays hb5 hb5.size u _ H4.out⟩
    · rw [hw5, hC]; simp
    · rw [hw5, hC]; exact heap_alloc_new w4 _
  rw [← hC, ← hw5]
  clear hC hw5 hb5 p0 p1 p2 p3 p4 p5 H4 B4 B3 O1 O2 C18 C19 C20
  go_upto_region 5 with (first
    | (go_at_call 21; refine (C21.out _).mono ?_; rintro e w6 ⟨hb6, zk, zb, zn, zs, za, zl, zc, zd, ze, zf, rfl, hr6⟩
       have B6 : Hid (Below w.heap.size w w6) := B5.out.trans (hb6.mono B5.out.size)
       have O6 : Hid (OB w5 w6 C u (.int .u8 (yk : Int)) (.bool yb) (.int .i64 yn) (.string ys) (.slice ya yl yc) (.slice yd ye yf)) := O5.out.call hb6
       have H6 : Hid (Rep w6 w6.heap.size u (.agg #[.int .u8 (zk : Int), .bool zb, .int .i64 zn, .string zs, .slice za zl zc, .slice zd ze zf])) := repA_rep (fun g hg => hg.2) u _ hr6
       clear hb6 hr6))
  obtain ⟨D, hD⟩ : ∃ D, D = w6.heap.size := ⟨_, rfl⟩
  obtain ⟨w7, hw7⟩ : ∃ w7, w7 = w6.alloc (.cells #[.int .u8 (zk : Int), .bool zb, .int .i64 zn, .string zs, .slice za zl zc, .slice zd ze zf] 26) := ⟨_, rfl⟩
  have hb7 : Below w6.heap.size w6 w7 := by rw [hw7]; exact below_new _ _
  have B7 : Hid (Below w.heap.size w w7) := B6.out.trans (hb7.mono B6.out.size)
  have O7 : Hid (OB w5 w7 C u (.int .u8 (yk : Int)) (.bool yb) (.int .i64 yn) (.string ys) (.slice ya yl yc) (.slice yd ye yf)) := O6.out.call hb7
  have P7 : Hid (OB w7 w7 D u (.int .u8 (zk : Int)) (.bool zb) (.int .i64 zn) (.string zs) (.slice za zl zc) (.slice zd ze zf)) := by
    refine ⟨Below.refl _ _, ⟨?_, ?_⟩, rep_stays hb7 hb7.size u _ H6.out⟩
    · rw [hw7, hD]; simp
    · rw [hw7, hD]; exact heap_alloc_new w6 _
  rw [← hD, ← hw7]
  clear hD hw7 hb7 H6 B6 B5 O5 O6 C21
  go_wp2_with (first
    | (go_at_call 22; refine (C22.out _ B7.out).mono ?_; rintro e w8 ⟨rfl, hb8⟩
       have B8 : Hid (Below w.heap.size w w8) := B7.out.trans (hb8.mono B7.out.size)
       have O8 : Hid (OB w5 w8 C u (.int .u8 (yk : Int)) (.bool yb) (.int .i64 yn) (.string ys) (.slice ya yl yc) (.slice yd ye yf)) := O7.out.call hb8
       have P8 : Hid (OB w7 w8 D u (.int .u8 (zk : Int)) (.bool zb) (.int .i64 zn) (.string zs) (.slice za zl zc) (.slice zd ze zf)) := P7.out.call hb8
       obtain ⟨p0, p1, p2, p3, p4, p5⟩ := O8.out.row.cells
       obtain ⟨q0, q1, q2, q3, q4, q5⟩ := P8.out.row.cells
       clear hb8)
    | (go_at_call 17; refine (C17.out _ _ _ (rep_stays (Below.refl _ _) O8.out.below.size u _ O8.out.rep) (rep_stays (Below.refl _ _) P8.out.below.size u _ P8.out.rep)).mono ?_; rintro e w9 ⟨rfl, hb9⟩
       have B9 : Hid (Below w.heap.size w w9) := B8.out.trans (hb9.mono B8.out.size)
       clear hb9))
  go_ret
  exact ⟨rfl, B9.out⟩
end Go.Proofs.YtbogggnnmbjlfaaDoor
/- For every value and every text the law BinTexts answers true: what is written and what is read is what the document says, or told why not; the library's tables of UTF-8 starting as the program's text lays them. -/
namespace Go.Proofs.YtbogggnnmbjlfaaDoor
open Go.ChangeShapes Go.WideShapes Go.ChangeAt Go.RowKit
open Go.ChangeMaps (open_string shut_string)
open Vl (V)
namespace binTextsx
set_option maxRecDepth 100000 in
theorem contract (H : Type) (enc : TypeId × Value → H) (W : World) (base : Nat) (args : Array Value) (ds gs : List (DataW H)) (before : List MemPlace)
    (hval : ∀ (j : Nat) t v, Tryd.f5.params[j]? = some t → args[j]? = some v → Value.okWide Tryd.prog W .any base t v)
    (hW : DataW.Whole enc Tryd.prog Tryd.f5.params.toList Rows.binTextsSpec.vars false W args.toList ds gs before) (hsz0 : (DataW.weightsEach Tryd.prog (Tryd.f5.params.toList ++ (OpenSpec.ofChange Rows.binTextsSpec).bare.plain.varTypes Tryd.prog) (ds ++ gs)).all (· ≤ reachBytes) = true) (hL : laidMetH Tryd.prog Rows.binTextsRow.laid W) :
    Calls Tryd.prog 5 args W fun e W' => ∃ v, e = .returned v ∧ Rows.binTextsSpec.post enc Tryd.prog Tryd.f5 false true false false W args v W' := by
  have hW' := hW
  obtain ⟨p, q, hA0, hV, rfl, hfz, hnd⟩ := hW
  have hA : DataW.TrodAll enc Tryd.prog W 0 (fun _ => true) true Tryd.f5.params.toList args.toList ds p := hA0
  have hsz : (DataW.weightsEach Tryd.prog (Tryd.f5.params.toList ++ []) (ds ++ gs)).all (· ≤ reachBytes) = true := hsz0
  rw [Tryd.params5] at hA hval hsz
  obtain ⟨v0, vs0, d0, ds0, p0, q0, hargs, rfl, rfl, h0, r0⟩ := trodAll_cons hA
  obtain ⟨v1, vs1, d1, ds1, p1, q1, rfl, rfl, rfl, h1, r1⟩ := trodAll_cons r0
  obtain ⟨rfl, rfl, rfl⟩ := trodAll_nil r1
  obtain rfl : args = #[v0, v1] := by cases args; simp_all
  obtain ⟨rfl, rfl⟩ := trodVars_none hV
  obtain ⟨t0, ht0⟩ := open_value (hval 0 26 v0 rfl rfl) h0
  have hlt0 : ∀ x ∈ p0, x.block < W.heap.size := fun x hx => by
    have := hW'.lt x (by simp [hx])
    simpa using this
  have k1 := h1
  obtain ⟨s1, rfl, rfl, rfl, _⟩ := open_string Tryd.underlying9 (hval 1 9 v1 rfl rfl) h1
  have hs1 : s1.size ≤ 140737488351232 := by
    have := sized_string hsz (j := 1) (t := 9) rfl rfl
    rw [Lib.size_eq]; exact this
  have hlt1 : ∀ x ∈ ([] : List MemPlace), x.block < W.heap.size := fun x hx => by cases hx
  have hU : Bn.HasU W := hasU_of (met_of hL)
  have main : Calls Tryd.prog 5 #[v0, .string s1] W fun e w' => e = .returned (.bool true) ∧ Below W.heap.size W w' := texts5 t0 s1 W hU v0 ht0
  refine main.mono fun e W' ⟨he, hg⟩ => ?_
  subst he
  exact ⟨_, rfl, law_post hW' hg rfl rfl rfl rfl rfl (trodAll_cons_mk (Below.trod laidOut (by kernel_rfl) (of_decide_eq_true (by kernel_rfl)) h0 hg hlt0) (trodAll_cons_mk (Below.trod laidOut (by kernel_rfl) (of_decide_eq_true (by kernel_rfl)) k1 hg hlt1) trodAll_mk0))⟩
theorem laid_met (os : Os) : laidMet Tryd.prog Rows.binTextsRow.laid ((World.laidAll Tryd.prog os Rows.binTextsRow.laid).forCall (fun _ _ => 0) ⟨#[], #[.agg #[.int .u8 0, .bool false, .int .i64 0, .string .empty, .slice none 0 0, .slice none 0 0], .string .empty], []⟩).memory :=
  laidMet_laidAll _ (by kernel_rfl) (by kernel_rfl)
theorem reads (os : Os) {H : Type} (enc : TypeId × Value → H) : ∃ places, DataW.whole enc Tryd.prog ((World.laidAll Tryd.prog os Rows.binTextsRow.laid).forCall (fun _ _ => 0) ⟨#[], #[.agg #[.int .u8 0, .bool false, .int .i64 0, .string .empty, .slice none 0 0, .slice none 0 0], .string .empty], []⟩).memory Tryd.f5.params.toList Rows.binTextsSpec.vars false (#[.agg #[.int .u8 0, .bool false, .int .i64 0, .string .empty, .slice none 0 0, .slice none 0 0], .string .empty] : Array Value).toList 8 = some ([.agg [.lit (.int .u8 0), .lit (.bool false), .lit (.int .i64 0), .lit (.string []), .nil, .nil], .lit (.string [])], [], places) :=
  ⟨[], by kernel_rfl⟩
set_option maxRecDepth 100000 in
theorem lifted (os : Os) (started : os.Started) (H : Type) (enc : TypeId × Value → H) (F : Stop.Interp) :
    ReturnsInHanded {} Tryd.checked os 5 .any ((OpenSpec.ofChange Rows.binTextsSpec).preRow enc Tryd.prog Tryd.f5 Rows.binTextsRow.domain false Rows.binTextsRow.laid) (((OpenSpec.ofChange Rows.binTextsSpec).at F).post enc Tryd.prog Tryd.f5 false true false false) := by
  obtain ⟨places, hx⟩ := reads os enc
  refine returnsInHanded_of_row (C := Tryd.checked) (s := OpenSpec.ofChange Rows.binTextsSpec) own started (by kernel_rfl) Tryd.func5
    (witness_row_atRef (enc := enc) (C := Tryd.checked) false (World.laidAll Tryd.prog os Rows.binTextsRow.laid) #[.agg #[.int .u8 0, .bool false, .int .i64 0, .string .empty, .slice none 0 0, .slice none 0 0], .string .empty] (World.laidAll_os _ _ _) (by kernel_rfl) (by kernel_rfl) (by kernel_rfl)
      (OpenSpec.preRow_of_cond 8 hx (by kernel_rfl) (fun k hk => by cases hk) (by kernel_rfl) (laid_met os))) ?_
  intro W base args ds gs before hval hW _ _ hsz hL _ _
  exact contract H enc W base args ds gs before hval hW hsz hL
theorem said : Rows.BinTextsSaid :=
  OpenClaim.holds_of_cond 5 Tryd.f5 rfl rfl rfl rfl rfl rfl rfl ⟨rfl, rfl, rfl, rfl, rfl⟩ rfl rfl rfl rfl rfl (by kernel_rfl) Tryd.func5 (by kernel_rfl)
    (of_decide_eq_true (by kernel_rfl)) (by unfold Func.isWrapper; first | (rw [if_pos (by decide +kernel)]; kernel_rfl) | (rw [if_neg (by decide +kernel)]; exact ⟨rfl, rfl⟩))
    (fun os started H enc _ F => by rw [OpenClaim.pre_eq_preRow]; exact lifted os started H enc F)
theorem plain (f : FuncId) (fn : Func) (hf : Tryd.pinned.checked.prog.funcNamed "codicil/codicillaw03.BinTexts" = some f) (hfn : Tryd.pinned.checked.prog.funcs[f]? = some fn) :
    true = Tryd.pinned.checked.prog.looks [] ∧ ∀ (j : Nat) t, fn.params[j]? = some t → Tryd.pinned.checked.prog.wantsStandIn t = false := by
  obtain rfl : f = 5 := Option.some.inj ((show Tryd.prog.funcNamed "codicil/codicillaw03.BinTexts" = some 5 by kernel_rfl).symm.trans hf) |>.symm
  obtain rfl : fn = Tryd.f5 := (Option.some.inj (Tryd.func5.symm.trans hfn)).symm
  refine ⟨by kernel_rfl, fun j t ht => ?_⟩
  rw [Tryd.params5] at ht
  have hm : t = 26 ∨ t = 9 := by simpa using Array.mem_of_getElem? ht
  rcases hm with rfl | rfl
  · exact (show Tryd.prog.wantsStandIn 26 = false by kernel_rfl)
  · exact (show Tryd.prog.wantsStandIn 9 = false by kernel_rfl)
/-- the card -/
theorem card : Rows.BinTextsCardSaid :=
  Claim7.holds_tied_plain_at .later [] _ _ _ _ said (fun _ h => by cases h) (by kernel_rfl) (fun _ h => by cases h) binTexts_row_tie rfl ⟨rfl, rfl⟩ (by kernel_rfl) rfl plain (by kernel_rfl)
end binTextsx
theorem binTexts_card : Rows.BinTextsCardSaid := binTextsx.card
end Go.Proofs.YtbogggnnmbjlfaaDoor
