/- Several texts, joined: PyA, PyB -/
import Derived.Test.YtfhkaffakniioaaGreatDoorQ38M
import Derived.Test.YtfhkaffakniioaaGreatDoorQ14M
import Derived.Test.YtfhkaffakniioaaGreatDoorPrNM
import Derived.Test.YtfhkaffakniioaaGreatDoorQ08M
/- A step's text: walked. -/
namespace Go.Proofs.YtfhkaffakniioaaGreatDoor
open Go.RowKit
namespace Ps
theorem add_s {a b : ByteArray} {x y : Bs} (ha : a = Lx.bs x) (hb : b = Lx.bs y) (h : x.length + y.length ≤ 9223372036854775807) (W : World) : (Op.stringOp .add a b).run Tryz.prog W = .ok (.string (Lx.bs (x ++ y))) W := by
  subst ha hb
  rw [run_string_add_sum W _ _ (by rw [Lx.bs_size, Lx.bs_size]; exact h)]
  congr 2
theorem kd_at : ∀ j, j < 11 → okd.getD j 0 = 12 + j := by decide
theorem opTx_at {k j : Nat} (hj : j < 11) (h : okd.getD j 0 = k) : opTx k = otx.getD j [] := by
  rw [kd_at j hj] at h
  rw [opTx, if_pos (by omega), show k - 12 = j by omega]
theorem opTx_none {k : Nat} (h : ∀ j, j < 11 → okd.getD j 0 ≠ k) : opTx k = [] := by
  rw [opTx, if_neg]
  intro q
  exact h (k - 12) (by omega) (by rw [kd_at (k - 12) (by omega)]; omega)
set_option maxHeartbeats 2000000 in
set_option maxRecDepth 100000 in
theorem operatorOf_c (k : Nat) (W : World) (hO : HasO W) : Calls Tryz.prog 83 #[.int .u8 (k : Int)] W fun e W' => e = .returned (.string (Lx.bs (opTx k))) ∧ Below W.heap.size W W' := by
  go_enter Tryz.func83, Tryz.ntmps83
  go_upto_region 1 with fail
  first | refine wp_seq ?_ | skip
  refine wp_region_lit ?_
  refine wpList_load_mid rfl 132 (.global 2) rfl 2 0 rfl opsV.toList _ (range_ops hO) Tryz.underlying132 rfl (by kernel_rfl) ?_
  clear hO
  obtain ⟨A, hA⟩ : ∃ A : Array Value, A = opsV.toList.toArray := ⟨_, rfl⟩
  rw [← hA]
  have HIX : Hid (∀ j : Nat, j < 11 → ∀ wx : World, (Instr.index 132 (.agg A) (.int .i64 (j : Int))).run Tryz.prog wx = .ok (.agg #[.string (Lx.bs (otx.getD j [])), .int .u8 ((okd.getD j 0 : Nat) : Int)]) wx) := by
    intro j hj wx
    rw [hA]
    exact index_ops j hj wx
  clear hA
  go_wp2
  go_loopw [6] (fun i wr => ∃ j : Nat, j ≤ 11 ∧ i = .int .i64 j ∧ (∀ m, m < j → okd.getD m 0 ≠ k) ∧ Below W.heap.size W wr) (fun i _ => 11 - (intOf i).toNat)
  case atStart => exact ⟨0, Nat.zero_le _, rfl, fun k hk => by omega, Below.refl _ _⟩
  case round =>
    obtain ⟨j, hj, rfl, hno, hwr⟩ := hrel
    have HW : Hid ((∀ m, m < j → okd.getD m 0 ≠ k) ∧ Below W.heap.size W wr) := ⟨hno, hwr⟩
    clear hno hwr
    by_cases hlt : j < 11
    · have q0 : (j : Int) < 11 := by omega
      have ix := HIX.out j hlt
      obtain ⟨y, hy⟩ : ∃ y, y = otx.getD j [] := ⟨_, rfl⟩
      obtain ⟨ys, hys⟩ : ∃ ys, ys = Lx.bs y := ⟨_, rfl⟩
      obtain ⟨kd, hkd⟩ : ∃ kd, kd = okd.getD j 0 := ⟨_, rfl⟩
      rw [← hy, ← hys, ← hkd] at ix
      have HY : Hid (y = otx.getD j [] ∧ ys = Lx.bs y ∧ kd = okd.getD j 0 ∧ j < 11) := ⟨hy, hys, hkd, hlt⟩
      clear hy hys hkd hlt hj
      go_upto_region 4 with fail
      obtain ⟨w3, hw3⟩ : ∃ w3, w3 = wr.alloc (.cells #[.string ys, .int .u8 (kd : Int)] 131) := ⟨_, rfl⟩
      obtain ⟨T, hT⟩ : ∃ T, T = wr.heap.size := ⟨_, rfl⟩
      have X3 : Hid (w3.heap[T]? = some (.cells #[.string ys, .int .u8 (kd : Int)] 131 (0, 0)) ∧ Below W.heap.size W w3) := by
        have hb : Below wr.heap.size wr w3 := by rw [hw3]; exact bnew _ _
        exact ⟨by rw [hw3, hT]; exact heap_alloc_new wr _, HW.out.2.trans (hb.mono HW.out.2.size)⟩
      rw [← hw3, ← hT]
      clear hw3 hT ix
      have y0 : w3.cell? ⟨T, 0, none⟩ = some (.string ys) := by rw [cell_of_row _ _ _ _ _ _ X3.out.1]; rfl
      have y1 : w3.cell? ⟨T, 1, none⟩ = some (.int .u8 (kd : Int)) := by rw [cell_of_row _ _ _ _ _ _ X3.out.1]; rfl
      by_cases he : kd = k
      · have t0 : ((kd : Int) == (k : Int)) = true := by rw [he]; simp
        have HK : Hid (Lx.bs (opTx k) = ys) := by
          show _ = _
          rw [opTx_at HY.out.2.2.2 (HY.out.2.2.1.symm.trans he), ← HY.out.1, HY.out.2.1]
        clear he
        go_wp2
        go_ret
        exact ⟨by rw [HK.out]; rfl, X3.out.2⟩
      · have t0 : ((kd : Int) == (k : Int)) = false := by simp; omega
        obtain ⟨j1, hj1⟩ : ∃ j1, j1 = j + 1 := ⟨_, rfl⟩
        have HJ : Hid (j1 = j + 1) := hj1
        have HV : Hid (IntKind.i64.wrap ((j : Int) + 1) = (j1 : Int) ∧ wrap64 ((j : Int) + 1) = (j1 : Int)) := wrp (by omega) (by have := HY.out; omega)
        have HNO2 : Hid (∀ m, m < j1 → okd.getD m 0 ≠ k) := fun m hm => by
          rcases Nat.lt_or_ge m j with q | q
          · exact HW.out.1 m q
          · have hkj : m = j := by have := HJ.out; omega
            rw [hkj, ← HY.out.2.2.1]
            exact he
        clear he hj1
        obtain ⟨v1, v2⟩ := HV.out
        go_wp2
        clear v1 v2
        go_roundw
        case rel => first | exact ⟨j1, by have := HJ.out; have := HY.out; omega, rfl, HNO2.out, X3.out.2⟩ | ((repeat apply Exists.intro); exact ⟨⟨j1, by have := HJ.out; have := HY.out; omega, rfl, HNO2.out, X3.out.2⟩, rfl⟩)
        case measure =>
          simp only [intOf]
          have := HJ.out
          have := HY.out
          omega
    · have hj11 : j = 11 := by omega
      subst hj11
      have HK : Hid (opTx k = []) := opTx_none HW.out.1
      clear hlt hj
      go_wp2
      go_ret
      exact ⟨by rw [HK.out]; rfl, HW.out.2⟩
/-- texts that are own, one more -/
theorem OwnT.push {w W W5 : World} {sv v' : Value} {l : List Bs} {x : Bs} (h : OwnT W w.heap.size sv l) (hb : Below w.heap.size w W) {W4 : World} (h4 : Below W.heap.size W W4) (hg : W4.grownBy W5 sv.ownBlock) (hn : W5.ownsRow w.heap.size 9 1 v' (l.length + 1) ((l.map fun x => Value.string (Lx.bs x)) ++ [.string (Lx.bs x)])) : Below w.heap.size w W5 ∧ OwnT W5 w.heap.size v' (l ++ [x]) := by
  have b4 : Below w.heap.size w W4 := hb.trans (h4.mono hb.size)
  refine ⟨b4.grown hg b4.size fun q hq => (h.ty hq).1, ?_⟩
  unfold OwnT
  rw [List.length_append, List.length_singleton, List.map_append]
  exact hn
theorem field_step {ns ps : List Bs} {j : Nat} {n p : Bs} (hn : ns[j]? = some n) (hp : ps[j]? = some p) : fieldTx (ns.take (j + 1)) (ps.take (j + 1)) = fieldTx (ns.take j) (ps.take j) ++ [n ++ [58, 32] ++ p] := by
  have h1 := (List.getElem?_eq_some_iff.1 hn).1
  have h2 := (List.getElem?_eq_some_iff.1 hp).1
  rw [List.take_add_one, List.take_add_one, hn, hp, fieldTx, fieldTx]
  show List.zipWith _ (ns.take j ++ [n]) (ps.take j ++ [p]) = _
  rw [List.zipWith_append (by rw [List.length_take, List.length_take]; omega)]
  rfl
theorem zip_take : ∀ ns ps : List Bs, List.zipWith (fun n p : Bs => n ++ [58, 32] ++ p) ns ps = List.zipWith (fun n p : Bs => n ++ [58, 32] ++ p) (ns.take ps.length) ps
  | [], _ => by simp
  | _ :: _, [] => by simp
  | n :: ns, p :: ps => by
    have := zip_take ns ps
    show _ :: _ = _ :: _
    rw [this]
set_option maxHeartbeats 4000000 in
set_option maxRecDepth 100000 in
theorem fieldTexts_c (t : Bs) (ps : List Bs) (a : Option Addr) (n c : Nat) (w : World) (hn : n = ps.length) (h64 : n ≤ 64) (hc : n ≤ c) (hcut : n ≤ (cut 44 t).length) (hk : t.count 44 ≤ 64) (ht : t.length ≤ 4611686018427387904) (hz : ∀ x ∈ cut 44 t, x.length ≤ 64) (hp : ∀ x ∈ ps, x.length ≤ 1000000) (hr : SR w a ps) : Calls Tryz.prog 82 #[.string (Lx.bs t), .slice a n c] w fun e w' => ∃ a' c', e = .returned (.slice a' n c') ∧ Hid (Below w.heap.size w w' ∧ OwnT w' w.heap.size (.slice a' n c') (fieldTx (cut 44 t) ps)) := by
  obtain ⟨i0, hi, hz0, hz1, hz2⟩ := info_partsP infoStr
  obtain ⟨ns, hns⟩ : ∃ ns, ns = cut 44 t := ⟨_, rfl⟩
  obtain ⟨m, hm⟩ : ∃ m, m = ns.length := ⟨_, rfl⟩
  have CS : Hid (Calls Tryz.prog 85 #[.string (Lx.bs t), .string ⟨#[44]⟩] w fun e w' => ∃ g, e = .returned (.slice (some ⟨g, 0, none⟩) m m) ∧ Below w.heap.size w w' ∧ SR w' (some ⟨g, 0, none⟩) ns) := by
    rw [hm, hns]
    exact split_c 44 t ht (by omega) w
  rw [← hns] at hcut hz ⊢
  have HS : Hid (n = ps.length ∧ n ≤ 64 ∧ n ≤ c ∧ n ≤ m ∧ m = ns.length ∧ (∀ x ∈ ns, x.length ≤ 64) ∧ (∀ x ∈ ps, x.length ≤ 1000000) ∧ SR w a ps) := ⟨hn, h64, hc, by omega, hm, hz, hp, hr⟩
  obtain ⟨ts, hts⟩ : ∃ ts, ts = Lx.bs t := ⟨_, rfl⟩
  rw [← hts] at CS ⊢
  have qs1 : (0 : Int) ≤ (n : Int) := by omega
  have qs2 : (n : Int) ≤ (m : Int) := by have := HS.out.2.2.2.1; omega
  clear hts hns hm hn hc hcut hz hp hr ht hk
  go_enter Tryz.func82, Tryz.ntmps82
  go_wp2_with fail
  refine (CS.out).mono ?_
  rintro e w1 ⟨g, rfl, hb1, hr1⟩
  have X1 : Hid (Below w.heap.size w w1 ∧ SR w1 (some ⟨g, 0, none⟩) ns) := ⟨hb1, hr1⟩
  clear hb1 hr1 CS
  go_wp2
  clear qs1 qs2
  go_loopw [5, 14] (fun v i wr => ∃ j : Nat, j ≤ n ∧ i = .int .i64 j ∧ Hid (Below w1.heap.size w1 wr ∧ Below w.heap.size w wr ∧ OwnT wr w1.heap.size v (fieldTx (ns.take j) (ps.take j)))) (fun _ i _ => n - (intOf i).toNat)
  case atStart => exact ⟨0, Nat.zero_le _, rfl, Below.refl _ _, X1.out.1, rfl, .inl ⟨rfl, rfl⟩⟩
  case round =>
    obtain ⟨j, hj, rfl, HI⟩ := hrel
    obtain ⟨nl, hnl⟩ : ∃ nl, nl = fieldTx (ns.take j) (ps.take j) := ⟨_, rfl⟩
    rw [← hnl] at HI
    obtain ⟨na, nc, hnv⟩ := HI.out.2.2.form
    obtain ⟨k, hk⟩ : ∃ k, k = nl.length := ⟨_, rfl⟩
    rw [← hk] at hnv
    have HK : Hid (k = nl.length ∧ k = j ∧ nl = fieldTx (ns.take j) (ps.take j)) := ⟨hk, by rw [hk, hnl, fieldTx, List.length_zipWith, List.length_take, List.length_take]; have := HS.out; omega, hnl⟩
    subst hnv
    clear hk hnl
    by_cases hlt : j < n
    · have q0 : (j : Int) < (n : Int) := by omega
      have q1 : (0 : Int) ≤ (j : Int) := by omega
      obtain ⟨y, hy⟩ : ∃ y, ns[j]? = some y := ⟨_, List.getElem?_eq_getElem (by have := HS.out; omega)⟩
      obtain ⟨p, hp⟩ : ∃ p, ps[j]? = some p := ⟨_, List.getElem?_eq_getElem (by have := HS.out; omega)⟩
      obtain ⟨g', o', e0, c0⟩ := (X1.out.2.call HI.out.1) j y hy
      cases e0
      obtain ⟨g2, o2, rfl, c1⟩ := (HS.out.2.2.2.2.2.2.2.call HI.out.2.1) j p hp
      have hyl := HS.out.2.2.2.2.2.1 y (List.mem_of_getElem? hy)
      have hpl := HS.out.2.2.2.2.2.2.1 p (List.mem_of_getElem? hp)
      rw [Nat.zero_add] at c0
      have HP : Hid (fieldTx (ns.take (j + 1)) (ps.take (j + 1)) = nl ++ [y ++ [58, 32] ++ p] ∧ j < n) := ⟨by rw [HK.out.2.2]; exact field_step hy hp, hlt⟩
      have a1 := add_s (a := Lx.bs y) (b := ⟨#[58, 32]⟩) (x := y) (y := [58, 32]) rfl rfl (by show y.length + 2 ≤ _; omega)
      have a2 := add_s (a := Lx.bs (y ++ [58, 32])) (b := Lx.bs p) (x := y ++ [58, 32]) (y := p) rfl rfl (by rw [List.length_append]; show y.length + 2 + p.length ≤ _; omega)
      obtain ⟨z, hzz⟩ : ∃ z, z = y ++ [58, 32] ++ p := ⟨_, rfl⟩
      rw [← hzz] at a2 HP
      obtain ⟨yy, hyy⟩ : ∃ yy, yy = Lx.bs (y ++ [58, 32]) := ⟨_, rfl⟩
      rw [← hyy] at a1 a2
      have O6 : Hid (wr.ownsRow w1.heap.size 9 1 (.slice na k nc) k (nl.map fun x => Value.string (Lx.bs x))) := by
        have := HI.out.2.2
        unfold OwnT at this
        rw [← HK.out.1] at this
        exact this
      have fit63 : Hid (k + 1 ≤ maxLen) := by show _ ≤ _; have := HK.out; have := HS.out; unfold maxLen; omega
      have fit47 : Hid ((k + 1) * 16 ≤ 140737488355328) := by show _ ≤ _; have := HK.out; have := HS.out; omega
      obtain ⟨j1, hj1⟩ : ∃ j1, j1 = j + 1 := ⟨_, rfl⟩
      have HJ1 : Hid (j1 = j + 1) := hj1
      have HV : Hid (IntKind.i64.wrap ((j : Int) + 1) = (j1 : Int) ∧ wrap64 ((j : Int) + 1) = (j1 : Int)) := wrp (by omega) (by have := HS.out; omega)
      clear hy hp hlt hj hzz hyy hj1 hyl hpl
      go_wp2_with (at_builtin; refine wpList_append_own _ rfl _ _ 50 rfl w1.heap.size 9 i0 (.string ⟨#[]⟩) 1 16 Tryz.underlying50 hi hz0 hz1 hz2 rfl (by decide) _ _ _ rfl (O6.out.alloc _) ⟨wr.heap.size, 0, none⟩ 1 1 [.string (Lx.bs z)] rfl rfl ?c1 ?c2 fit63.out fit47.out ?c5 ?_)
      case c1 =>
        intro j u hj
        match j, hj with
        | 0, hj => simp at hj; subst hj; simp [Addr.add]
      case c2 => intro u hu; simp at hu; subst hu; rfl
      case c5 => have h1 := HI.out.1.size; simp; omega
      intro v' w7 hown7 hgrow7 _
      have I7 : Hid (Below w1.heap.size w1 w7 ∧ Below w.heap.size w w7 ∧ OwnT w7 w1.heap.size v' (fieldTx (ns.take j1) (ps.take j1))) := by
        rw [HJ1.out, HP.out.1]
        obtain ⟨r1, r2⟩ := HI.out.2.2.push HI.out.1 (bnew wr _) hgrow7 (by rw [← HK.out.1]; exact hown7)
        exact ⟨r1, X1.out.1.trans (r1.mono X1.out.1.size), r2⟩
      clear hown7 hgrow7
      obtain ⟨v1, v2⟩ := HV.out
      go_wp2
      clear v1 v2
      go_roundw
      case rel => first | exact ⟨j1, by have := HJ1.out; have := HP.out; omega, rfl, I7.out⟩ | ((repeat apply Exists.intro); exact ⟨⟨j1, by have := HJ1.out; have := HP.out; omega, rfl, I7.out⟩, rfl⟩)
      case measure =>
        simp only [intOf]
        have := HJ1.out
        have := HP.out
        omega
    · have q0 : ¬ (j : Int) < (n : Int) := by omega
      have HE : Hid (k = n ∧ fieldTx ns ps = nl) := by
        have e1 : j = n := by omega
        refine ⟨by rw [HK.out.2.1, e1], ?_⟩
        rw [HK.out.2.2, e1]
        show List.zipWith _ _ _ = List.zipWith _ _ _
        rw [List.take_of_length_le (l := ps) (by have := HS.out.1; omega)]
        rw [HS.out.1]
        exact zip_take ns ps
      clear hlt hj
      go_wp2
      go_ret
      exact ⟨na, nc, by rw [← HE.out.1]; rfl, HI.out.2.1, by rw [HE.out.2, ← HE.out.1]; exact own_to HI.out.2.2 X1.out.1.size⟩
end Ps
end Go.Proofs.YtfhkaffakniioaaGreatDoor
/- A step's text: walked. -/
namespace Go.Proofs.YtfhkaffakniioaaGreatDoor
open Go.RowKit
namespace Ps
theorem tot_bound : ∀ (l : List Bs) (M : Nat), (∀ x ∈ l, x.length ≤ M) → tot l ≤ l.length * M
  | [], _, _ => Nat.zero_le _
  | x :: r, M, h => by
    have h1 := h x (List.mem_cons_self ..)
    have h2 := tot_bound r M (fun y hy => h y (List.mem_cons_of_mem _ hy))
    have e : (x :: r).length * M = r.length * M + M := Nat.succ_mul _ _
    rw [e, tot]
    omega
theorem mem_zip {f : Bs → Bs → Bs} : ∀ {a b : List Bs} {x : Bs}, x ∈ List.zipWith f a b → ∃ u v, u ∈ a ∧ v ∈ b ∧ x = f u v
  | [], _, x, h => by simp at h
  | _ :: _, [], x, h => by simp at h
  | u :: a, v :: b, x, h => by
    rcases List.mem_cons.1 (show x ∈ f u v :: List.zipWith f a b from h) with e | e
    · exact ⟨u, v, List.mem_cons_self .., List.mem_cons_self .., e⟩
    · obtain ⟨u', v', h1, h2, h3⟩ := mem_zip e
      exact ⟨u', v', List.mem_cons_of_mem _ h1, List.mem_cons_of_mem _ h2, h3⟩
theorem show_text (t : Bs) (w : World) (hL : HasL w) : Calls Tryz.prog 81 #[.agg #[.int .u8 4, .string (Lx.bs t), .int .i64 0, .int .i64 0]] w fun e w' => ∃ r : Int, e = .returned (.tuple #[.string (Lx.bs ((Lx.shw 4 t 0).getD [])), .int .i64 r]) ∧ Below w.heap.size w w' := by
  have h := show_c 4 t 0 0 (by decide) w hL
  refine h.mono ?_
  rintro e w' ⟨rfl, hb⟩
  cases hs : Lx.shw 4 t 0 with
  | none => exact ⟨13, rfl, hb⟩
  | some y => exact ⟨0, rfl, hb⟩
set_option maxHeartbeats 8000000 in
set_option maxRecDepth 100000 in
theorem stepText_c (p : Sp) (ps : List Bs) (a : Option Addr) (n c : Nat) (w : World) (hr : rightSp p = true) (hnum : -9223372036854775808 ≤ p.n ∧ p.n ≤ 9223372036854775807) (htx : p.text.length ≤ 4611686018427387904) (hn : n = ps.length) (htk : n = takesSp p) (hc : n ≤ c ∧ c ≤ 9223372036854775807) (hp : ∀ x ∈ ps, x.length ≤ 1000000) (hs : SR w a ps) (hL : HasL w) (hO : HasO w) : Calls Tryz.prog 52 #[.agg #[.int .u8 (p.kind : Int), .string (Lx.bs p.text), .int .i64 p.n], .slice a n c] w fun e w' => e = .returned (.string (Lx.bs (stepTx p ps))) ∧ Below w.heap.size w w' := by
  obtain ⟨pk, pt, pn⟩ := p
  have h64 : n ≤ 64 := by rw [htk]; exact takes_small hr
  obtain ⟨s, hss⟩ : ∃ s, s = Lx.bs pt := ⟨_, rfl⟩
  obtain ⟨w1, hw1⟩ : ∃ w1, w1 = w.alloc (.cells #[.int .u8 (pk : Int), .string s, .int .i64 pn] 29) := ⟨_, rfl⟩
  obtain ⟨T, hT⟩ : ∃ T, T = w.heap.size := ⟨_, rfl⟩
  have X1 : Hid (w1.heap[T]? = some (.cells #[.int .u8 (pk : Int), .string s, .int .i64 pn] 29 (0, 0)) ∧ Below w.heap.size w w1 ∧ HasL w1 ∧ HasO w1 ∧ SR w1 a ps) := by
    have hb : Below w.heap.size w w1 := by rw [hw1]; exact bnew _ _
    exact ⟨by rw [hw1, hT]; exact heap_alloc_new w _, hb, hL.stays hb, hO.stays hb, hs.call hb⟩
  have y0 : w1.cell? ⟨T, 0, none⟩ = some (.int .u8 (pk : Int)) := by rw [cell_of_row _ _ _ _ _ _ X1.out.1]; rfl
  have y1 : w1.cell? ⟨T, 1, none⟩ = some (.string s) := by rw [cell_of_row _ _ _ _ _ _ X1.out.1]; rfl
  have y2 : w1.cell? ⟨T, 2, none⟩ = some (.int .i64 pn) := by rw [cell_of_row _ _ _ _ _ _ X1.out.1]; rfl
  have HS : Hid (n = ps.length ∧ n = takesSp ⟨pk, pt, pn⟩ ∧ n ≤ c ∧ c ≤ 9223372036854775807 ∧ n ≤ 64 ∧ (∀ x ∈ ps, x.length ≤ 1000000) ∧ rightSp ⟨pk, pt, pn⟩ = true ∧ s = Lx.bs pt ∧ pt.length ≤ 4611686018427387904 ∧ (-9223372036854775808 ≤ pn ∧ pn ≤ 9223372036854775807)) := ⟨hn, htk, hc.1, hc.2, h64, hp, hr, hss, htx, hnum⟩
  show Calls Tryz.prog 52 #[.agg #[.int .u8 (pk : Int), .string (Lx.bs pt), .int .i64 pn], .slice a n c] w _
  rw [← hss]
  clear hr hnum htx hn htk hc hp hs hL hO h64 hss
  by_cases h1 : pk = 1
  · have q1 : ((pk : Int) == 1) = true := by rw [h1]; rfl
    have HQ : Hid (stepTx ⟨pk, pt, pn⟩ ps = [78, 85, 76, 76]) := by show _ = _; rw [stepTx, if_pos h1]
    clear h1
    go_enter Tryz.func52, Tryz.ntmps52
    go_upto_region 1 with fail
    rw [← hw1, ← hT]
    clear hw1 hT
    go_wp2
    go_ret
    exact ⟨by rw [HQ.out]; rfl, X1.out.2.1⟩
  have q1 : ((pk : Int) == 1) = false := by simp; omega
  by_cases h2 : pk = 2
  · have q2 : ((pk : Int) == 2) = true := by rw [h2]; rfl
    have HQ : Hid (stepTx ⟨pk, pt, pn⟩ ps = [84, 82, 85, 69]) := by show _ = _; rw [stepTx, if_neg h1, if_pos h2]
    clear h1 h2
    go_enter Tryz.func52, Tryz.ntmps52
    go_upto_region 1 with fail
    rw [← hw1, ← hT]
    clear hw1 hT
    go_wp2
    go_ret
    exact ⟨by rw [HQ.out]; rfl, X1.out.2.1⟩
  have q2 : ((pk : Int) == 2) = false := by simp; omega
  by_cases h3 : pk = 3
  · have q3 : ((pk : Int) == 3) = true := by rw [h3]; rfl
    have HQ : Hid (stepTx ⟨pk, pt, pn⟩ ps = [70, 65, 76, 83, 69]) := by show _ = _; rw [stepTx, if_neg h1, if_neg h2, if_pos h3]
    clear h1 h2 h3
    go_enter Tryz.func52, Tryz.ntmps52
    go_upto_region 1 with fail
    rw [← hw1, ← hT]
    clear hw1 hT
    go_wp2
    go_ret
    exact ⟨by rw [HQ.out]; rfl, X1.out.2.1⟩
  have q3 : ((pk : Int) == 3) = false := by simp; omega
  by_cases h4 : pk = 4
  · have q4 : ((pk : Int) == 4) = true := by rw [h4]; rfl
    have HQ : Hid (stepTx ⟨pk, pt, pn⟩ ps = Lib.itoa pn) := by show _ = _; rw [stepTx, if_neg h1, if_neg h2, if_neg h3, if_pos h4]
    have CF := hidp (format_c pn HS.out.2.2.2.2.2.2.2.2.2.1 HS.out.2.2.2.2.2.2.2.2.2.2 w1 X1.out.2.2.1)
    clear h1 h2 h3 h4
    go_enter Tryz.func52, Tryz.ntmps52
    go_upto_region 1 with fail
    rw [← hw1, ← hT]
    clear hw1 hT
    go_wp2_with fail
    refine (CF.out).mono ?_
    rintro e w2 ⟨rfl, hb2⟩
    have B2 : Hid (Below w.heap.size w w2) := X1.out.2.1.trans (hb2.mono X1.out.2.1.size)
    clear hb2 CF y0 y1 y2
    go_wp2
    go_ret
    exact ⟨by rw [HQ.out]; rfl, B2.out⟩
  have q4 : ((pk : Int) == 4) = false := by simp; omega
  by_cases h5 : pk = 5
  · have q5 : ((pk : Int) == 5) = true := by rw [h5]; rfl
    have HQ : Hid (stepTx ⟨pk, pt, pn⟩ ps = (Lx.shw 4 pt 0).getD []) := by show _ = _; rw [stepTx, if_neg h1, if_neg h2, if_neg h3, if_neg h4, if_pos h5]
    have CF : Hid (Calls Tryz.prog 81 #[.agg #[.int .u8 4, .string s, .int .i64 0, .int .i64 0]] w1 fun e w' => ∃ r : Int, e = .returned (.tuple #[.string (Lx.bs ((Lx.shw 4 pt 0).getD [])), .int .i64 r]) ∧ Below w1.heap.size w1 w') := by
      rw [HS.out.2.2.2.2.2.2.2.1]
      exact show_text pt w1 X1.out.2.2.1
    clear h1 h2 h3 h4 h5
    go_enter Tryz.func52, Tryz.ntmps52
    go_upto_region 1 with fail
    rw [← hw1, ← hT]
    clear hw1 hT
    go_wp2_with fail
    refine (CF.out).mono ?_
    rintro e w2 ⟨r, rfl, hb2⟩
    have B2 : Hid (Below w.heap.size w w2) := X1.out.2.1.trans (hb2.mono X1.out.2.1.size)
    clear hb2 CF y0 y1 y2
    go_wp2
    go_ret
    exact ⟨by rw [HQ.out]; rfl, B2.out⟩
  have q5 : ((pk : Int) == 5) = false := by simp; omega
  by_cases h6 : pk = 6
  · have q6 : ((pk : Int) == 6) = true := by rw [h6]; rfl
    have HQ : Hid (stepTx ⟨pk, pt, pn⟩ ps = pt) := by show _ = _; rw [stepTx, if_neg h1, if_neg h2, if_neg h3, if_neg h4, if_neg h5, if_pos h6]
    clear h1 h2 h3 h4 h5 h6
    go_enter Tryz.func52, Tryz.ntmps52
    go_upto_region 1 with fail
    rw [← hw1, ← hT]
    clear hw1 hT
    go_wp2
    go_ret
    exact ⟨by rw [HQ.out, ← HS.out.2.2.2.2.2.2.2.1]; rfl, X1.out.2.1⟩
  have q6 : ((pk : Int) == 6) = false := by simp; omega
  by_cases h7 : pk = 7
  · have q7 : ((pk : Int) == 7) = true := by rw [h7]; rfl
    have HQ : Hid (stepTx ⟨pk, pt, pn⟩ ps = [91] ++ join [44, 32] ps ++ [93]) := by show _ = _; rw [stepTx, if_neg h1, if_neg h2, if_neg h3, if_neg h4, if_neg h5, if_neg h6, if_pos h7]
    obtain ⟨J, hJ⟩ : ∃ J, J = join [44, 32] ps := ⟨_, rfl⟩
    have HJ : Hid (J.length ≤ 900000000) := by
      show _ ≤ _
      have h1 := tot_join [44, 32] ps
      have h2 := tot_bound ps 1000000 HS.out.2.2.2.2.2.1
      have e : [(44 : UInt8), 32].length = 2 := rfl
      have h3 := HS.out.1
      have h4 := HS.out.2.2.2.2.1
      have h5 : ps.length * 1000000 ≤ 64 * 1000000 := Nat.mul_le_mul_right _ (by omega)
      rw [e] at h1
      rw [hJ]
      omega
    have CF : Hid (Calls Tryz.prog 23 #[.slice a n c, .string ⟨#[44, 32]⟩] w1 fun e w' => e = .returned (.string (Lx.bs J)) ∧ Below w1.heap.size w1 w') := by
      rw [hJ]
      exact join_g 1000000 [44, 32] ps a n c w1 HS.out.1 (by have := HS.out; omega) HS.out.2.2.1 HS.out.2.2.2.1 X1.out.2.2.2.2 (by decide) HS.out.2.2.2.2.2.1 (Nat.le_trans (Nat.mul_le_mul_right _ (show n + 1 ≤ 65 by have := HS.out; omega)) (by decide))
    rw [← hJ] at HQ
    have a1 := add_s (a := ⟨#[91]⟩) (b := Lx.bs J) (x := [91]) (y := J) rfl rfl (by have := HJ.out; show 1 + J.length ≤ _; omega)
    have a2 := add_s (a := Lx.bs ([91] ++ J)) (b := ⟨#[93]⟩) (x := [91] ++ J) (y := [93]) rfl rfl (by have := HJ.out; rw [List.length_append]; show 1 + J.length + 1 ≤ _; omega)
    obtain ⟨z1, hz1⟩ : ∃ z1, z1 = Lx.bs ([91] ++ J) := ⟨_, rfl⟩
    rw [← hz1] at a1 a2
    clear hz1 hJ
    clear h1 h2 h3 h4 h5 h6 h7
    go_enter Tryz.func52, Tryz.ntmps52
    go_upto_region 1 with fail
    rw [← hw1, ← hT]
    clear hw1 hT
    go_wp2_with fail
    refine (CF.out).mono ?_
    rintro e w2 ⟨rfl, hb2⟩
    have B2 : Hid (Below w.heap.size w w2) := X1.out.2.1.trans (hb2.mono X1.out.2.1.size)
    clear hb2 CF y0 y1 y2
    go_wp2
    go_ret
    exact ⟨by rw [HQ.out]; rfl, B2.out⟩
  have q7 : ((pk : Int) == 7) = false := by simp; omega
  by_cases h8 : pk = 8
  · have q8 : ((pk : Int) == 8) = true := by rw [h8]; rfl
    have HQ : Hid (stepTx ⟨pk, pt, pn⟩ ps = [123] ++ join [44, 32] (fieldTx (cut 44 pt) ps) ++ [125]) := by show _ = _; rw [stepTx, if_neg h1, if_neg h2, if_neg h3, if_neg h4, if_neg h5, if_neg h6, if_neg h7, if_pos h8]
    have K8 := struct_cut HS.out.2.2.2.2.2.2.1 h8
    have KF := hidp (fieldTexts_c pt ps a n c w1 HS.out.1 HS.out.2.2.2.2.1 HS.out.2.2.1 (by have := K8.1; rw [← HS.out.2.1] at this; exact this) K8.2.2 HS.out.2.2.2.2.2.2.2.2.1 K8.2.1 HS.out.2.2.2.2.2.1 X1.out.2.2.2.2)
    obtain ⟨fl, hfl⟩ : ∃ fl, fl = fieldTx (cut 44 pt) ps := ⟨_, rfl⟩
    have HFL : Hid (fl.length = n ∧ ∀ x ∈ fl, x.length ≤ 1000066) := by
      refine ⟨?_, fun x hx => ?_⟩
      · have k1 := K8.1
        rw [← HS.out.2.1] at k1
        rw [hfl, fieldTx, List.length_zipWith, ← HS.out.1]
        exact Nat.min_eq_right k1
      · rw [hfl, fieldTx] at hx
        obtain ⟨u, v, hu, hv, rfl⟩ := mem_zip hx
        have q1 := K8.2.1 u hu
        have q2 := HS.out.2.2.2.2.2.1 v hv
        rw [List.length_append, List.length_append]
        show u.length + 2 + v.length ≤ _
        omega
    obtain ⟨J, hJ⟩ : ∃ J, J = join [44, 32] fl := ⟨_, rfl⟩
    have HJ : Hid (J.length ≤ 900000000) := by
      show _ ≤ _
      have h1 := tot_join [44, 32] fl
      have h2 := tot_bound fl 1000066 HFL.out.2
      have e : [(44 : UInt8), 32].length = 2 := rfl
      have h3 := HFL.out.1
      have h4 := HS.out.2.2.2.2.1
      have h5 : fl.length * 1000066 ≤ 64 * 1000066 := Nat.mul_le_mul_right _ (by omega)
      rw [e] at h1
      rw [hJ]
      omega
    have CF : Hid (∀ W a' c', Below w.heap.size w W → OwnT W w1.heap.size (.slice a' n c') fl → Calls Tryz.prog 23 #[.slice a' n c', .string ⟨#[44, 32]⟩] W fun e w' => e = .returned (.string (Lx.bs J)) ∧ Below W.heap.size W w') := fun W a' c' hW ho => by
      rw [hJ]
      obtain ⟨o1, o2, o3, o4⟩ := ho.sr
      have e9 : maxLen = 9223372036854775807 := by decide
      exact join_g 1000066 [44, 32] fl a' n c' W HFL.out.1.symm (by have := HS.out; omega) o2 (by omega) o3 (by decide) HFL.out.2 (Nat.le_trans (Nat.mul_le_mul_right _ (show n + 1 ≤ 65 by have := HS.out; omega)) (by decide))
    rw [← hfl] at KF HQ
    rw [← hJ] at HQ
    rw [← HS.out.2.2.2.2.2.2.2.1] at KF
    have a1 := add_s (a := ⟨#[123]⟩) (b := Lx.bs J) (x := [123]) (y := J) rfl rfl (by have := HJ.out; show 1 + J.length ≤ _; omega)
    have a2 := add_s (a := Lx.bs ([123] ++ J)) (b := ⟨#[125]⟩) (x := [123] ++ J) (y := [125]) rfl rfl (by have := HJ.out; rw [List.length_append]; show 1 + J.length + 1 ≤ _; omega)
    obtain ⟨z1, hz1⟩ : ∃ z1, z1 = Lx.bs ([123] ++ J) := ⟨_, rfl⟩
    rw [← hz1] at a1 a2
    clear hz1 hJ hfl K8
    clear h1 h2 h3 h4 h5 h6 h7 h8
    go_enter Tryz.func52, Tryz.ntmps52
    go_upto_region 1 with fail
    rw [← hw1, ← hT]
    clear hw1 hT
    go_wp2_with fail
    refine (KF.out).mono ?_
    rintro e w2 ⟨a', c', rfl, G2⟩
    have B2 : Hid (Below w.heap.size w w2) := X1.out.2.1.trans (G2.out.1.mono X1.out.2.1.size)
    have CF2 := hidp (CF.out w2 a' c' B2.out G2.out.2)
    clear KF CF y0 y1 y2
    go_wp2_with fail
    refine (CF2.out).mono ?_
    rintro e w3 ⟨rfl, hb3⟩
    have B3 : Hid (Below w.heap.size w w3) := B2.out.trans (hb3.mono B2.out.size)
    clear hb3 CF2
    go_wp2
    go_ret
    exact ⟨by rw [HQ.out]; rfl, B3.out⟩
  have q8 : ((pk : Int) == 8) = false := by simp; omega
  by_cases h9 : pk = 9
  · have q9 : ((pk : Int) == 9) = true := by rw [h9]; rfl
    have HQ : Hid (stepTx ⟨pk, pt, pn⟩ ps = [40, 45] ++ ps.getD 0 [] ++ [41]) := by show _ = _; rw [stepTx, if_neg h1, if_neg h2, if_neg h3, if_neg h4, if_neg h5, if_neg h6, if_neg h7, if_neg h8, if_pos h9]
    have hk1 : n = 1 := by
      rw [HS.out.2.1, takesSp, if_neg (by show ¬ (pk = 7 ∨ pk = 8); omega), if_neg (by show ¬ 12 ≤ pk; omega), if_pos (by show 9 ≤ pk; omega)]
    obtain ⟨x, hx⟩ : ∃ x, ps[0]? = some x := ⟨_, List.getElem?_eq_getElem (by have := HS.out; omega)⟩
    obtain ⟨g, o, rfl, c0⟩ := X1.out.2.2.2.2 0 x hx
    rw [Nat.add_zero] at c0
    have hxl := HS.out.2.2.2.2.2.1 x (List.mem_of_getElem? hx)
    have HX : Hid (stepTx ⟨pk, pt, pn⟩ ps = [40, 45] ++ x ++ [41]) := by show _ = _; rw [HQ.out, List.getD_eq_getElem?_getD, hx]; rfl
    have a1 := add_s (a := ⟨#[40, 45]⟩) (b := Lx.bs x) (x := [40, 45]) (y := x) rfl rfl (by show 2 + x.length ≤ _; omega)
    have a2 := add_s (a := Lx.bs ([40, 45] ++ x)) (b := ⟨#[41]⟩) (x := [40, 45] ++ x) (y := [41]) rfl rfl (by rw [List.length_append]; show 2 + x.length + 1 ≤ _; omega)
    obtain ⟨z1, hz1⟩ : ∃ z1, z1 = Lx.bs ([40, 45] ++ x) := ⟨_, rfl⟩
    rw [← hz1] at a1 a2
    have q0 : (0 : Int) < (n : Int) := by omega
    clear hz1 hx hxl HQ
    clear h1 h2 h3 h4 h5 h6 h7 h8 h9 hk1
    go_enter Tryz.func52, Tryz.ntmps52
    go_upto_region 1 with fail
    rw [← hw1, ← hT]
    clear hw1 hT
    go_wp2
    go_ret
    exact ⟨by rw [HX.out]; rfl, X1.out.2.1⟩
  have q9 : ((pk : Int) == 9) = false := by simp; omega
  by_cases h10 : pk = 10
  · have q10 : ((pk : Int) == 10) = true := by rw [h10]; rfl
    have HQ : Hid (stepTx ⟨pk, pt, pn⟩ ps = [40, 78, 79, 84, 32] ++ ps.getD 0 [] ++ [41]) := by show _ = _; rw [stepTx, if_neg h1, if_neg h2, if_neg h3, if_neg h4, if_neg h5, if_neg h6, if_neg h7, if_neg h8, if_neg h9, if_pos h10]
    have hk1 : n = 1 := by
      rw [HS.out.2.1, takesSp, if_neg (by show ¬ (pk = 7 ∨ pk = 8); omega), if_neg (by show ¬ 12 ≤ pk; omega), if_pos (by show 9 ≤ pk; omega)]
    obtain ⟨x, hx⟩ : ∃ x, ps[0]? = some x := ⟨_, List.getElem?_eq_getElem (by have := HS.out; omega)⟩
    obtain ⟨g, o, rfl, c0⟩ := X1.out.2.2.2.2 0 x hx
    rw [Nat.add_zero] at c0
    have hxl := HS.out.2.2.2.2.2.1 x (List.mem_of_getElem? hx)
    have HX : Hid (stepTx ⟨pk, pt, pn⟩ ps = [40, 78, 79, 84, 32] ++ x ++ [41]) := by show _ = _; rw [HQ.out, List.getD_eq_getElem?_getD, hx]; rfl
    have a1 := add_s (a := ⟨#[40, 78, 79, 84, 32]⟩) (b := Lx.bs x) (x := [40, 78, 79, 84, 32]) (y := x) rfl rfl (by show 5 + x.length ≤ _; omega)
    have a2 := add_s (a := Lx.bs ([40, 78, 79, 84, 32] ++ x)) (b := ⟨#[41]⟩) (x := [40, 78, 79, 84, 32] ++ x) (y := [41]) rfl rfl (by rw [List.length_append]; show 5 + x.length + 1 ≤ _; omega)
    obtain ⟨z1, hz1⟩ : ∃ z1, z1 = Lx.bs ([40, 78, 79, 84, 32] ++ x) := ⟨_, rfl⟩
    rw [← hz1] at a1 a2
    have q0 : (0 : Int) < (n : Int) := by omega
    clear hz1 hx hxl HQ
    clear h1 h2 h3 h4 h5 h6 h7 h8 h9 h10 hk1
    go_enter Tryz.func52, Tryz.ntmps52
    go_upto_region 1 with fail
    rw [← hw1, ← hT]
    clear hw1 hT
    go_wp2
    go_ret
    exact ⟨by rw [HX.out]; rfl, X1.out.2.1⟩
  have q10 : ((pk : Int) == 10) = false := by simp; omega
  by_cases h11 : pk = 11
  · have q11 : ((pk : Int) == 11) = true := by rw [h11]; rfl
    have HQ : Hid (stepTx ⟨pk, pt, pn⟩ ps = [40] ++ ps.getD 0 [] ++ [32, 73, 83, 32, 78, 85, 76, 76, 41]) := by show _ = _; rw [stepTx, if_neg h1, if_neg h2, if_neg h3, if_neg h4, if_neg h5, if_neg h6, if_neg h7, if_neg h8, if_neg h9, if_neg h10, if_pos h11]
    have hk1 : n = 1 := by
      rw [HS.out.2.1, takesSp, if_neg (by show ¬ (pk = 7 ∨ pk = 8); omega), if_neg (by show ¬ 12 ≤ pk; omega), if_pos (by show 9 ≤ pk; omega)]
    obtain ⟨x, hx⟩ : ∃ x, ps[0]? = some x := ⟨_, List.getElem?_eq_getElem (by have := HS.out; omega)⟩
    obtain ⟨g, o, rfl, c0⟩ := X1.out.2.2.2.2 0 x hx
    rw [Nat.add_zero] at c0
    have hxl := HS.out.2.2.2.2.2.1 x (List.mem_of_getElem? hx)
    have HX : Hid (stepTx ⟨pk, pt, pn⟩ ps = [40] ++ x ++ [32, 73, 83, 32, 78, 85, 76, 76, 41]) := by show _ = _; rw [HQ.out, List.getD_eq_getElem?_getD, hx]; rfl
    have a1 := add_s (a := ⟨#[40]⟩) (b := Lx.bs x) (x := [40]) (y := x) rfl rfl (by show 1 + x.length ≤ _; omega)
    have a2 := add_s (a := Lx.bs ([40] ++ x)) (b := ⟨#[32, 73, 83, 32, 78, 85, 76, 76, 41]⟩) (x := [40] ++ x) (y := [32, 73, 83, 32, 78, 85, 76, 76, 41]) rfl rfl (by rw [List.length_append]; show 1 + x.length + 9 ≤ _; omega)
    obtain ⟨z1, hz1⟩ : ∃ z1, z1 = Lx.bs ([40] ++ x) := ⟨_, rfl⟩
    rw [← hz1] at a1 a2
    have q0 : (0 : Int) < (n : Int) := by omega
    clear hz1 hx hxl HQ
    clear h1 h2 h3 h4 h5 h6 h7 h8 h9 h10 h11 hk1
    go_enter Tryz.func52, Tryz.ntmps52
    go_upto_region 1 with fail
    rw [← hw1, ← hT]
    clear hw1 hT
    go_wp2
    go_ret
    exact ⟨by rw [HX.out]; rfl, X1.out.2.1⟩
  have q11 : ((pk : Int) == 11) = false := by simp; omega
  have HQ : Hid (stepTx ⟨pk, pt, pn⟩ ps = [40] ++ ps.getD 0 [] ++ [32] ++ opTx pk ++ [32] ++ ps.getD 1 [] ++ [41]) := by show _ = _; rw [stepTx, if_neg h1, if_neg h2, if_neg h3, if_neg h4, if_neg h5, if_neg h6, if_neg h7, if_neg h8, if_neg h9, if_neg h10, if_neg h11]
  have hk12 : 12 ≤ pk := by
    have := HS.out.2.2.2.2.2.2.1
    rw [rightSp, if_neg h4, if_neg h5, if_neg h6, if_neg h7, if_neg h8, Bool.and_eq_true, Bool.and_eq_true, Bool.and_eq_true, decide_eq_true_iff] at this
    have h0 : 0 < pk := this.1.1.1
    omega
  have hk2 : n = 2 := by
    rw [HS.out.2.1, takesSp, if_neg (by show ¬ (pk = 7 ∨ pk = 8); omega), if_pos hk12]
  obtain ⟨x, hx⟩ : ∃ x, ps[0]? = some x := ⟨_, List.getElem?_eq_getElem (by have := HS.out; omega)⟩
  obtain ⟨y, hy⟩ : ∃ y, ps[1]? = some y := ⟨_, List.getElem?_eq_getElem (by have := HS.out; omega)⟩
  obtain ⟨g, o, rfl, c0⟩ := X1.out.2.2.2.2 0 x hx
  obtain ⟨g', o', e', c1⟩ := X1.out.2.2.2.2 1 y hy
  cases e'
  rw [Nat.add_zero] at c0
  have hxl := HS.out.2.2.2.2.2.1 x (List.mem_of_getElem? hx)
  have hyl := HS.out.2.2.2.2.2.1 y (List.mem_of_getElem? hy)
  obtain ⟨op, hop⟩ : ∃ op, op = opTx pk := ⟨_, rfl⟩
  have hol : op.length ≤ 3 := by rw [hop]; exact opTx_len pk
  have CO : Hid (∀ q : BelowOf w1.heap.size w1, Calls Tryz.prog 83 #[.int .u8 (pk : Int)] q.W fun e W' => e = .returned (.string (Lx.bs (opTx pk))) ∧ Below q.W.heap.size q.W W') := fun q => operatorOf_c pk q.W (X1.out.2.2.2.1.stays q.h)
  rw [← hop] at CO HQ
  have HX : Hid (stepTx ⟨pk, pt, pn⟩ ps = [40] ++ x ++ [32] ++ op ++ [32] ++ y ++ [41]) := by show _ = _; rw [HQ.out, List.getD_eq_getElem?_getD, List.getD_eq_getElem?_getD, hx, hy]; rfl
  have a1 := add_s (a := ⟨#[40]⟩) (b := Lx.bs x) (x := [40]) (y := x) rfl rfl (by show 1 + x.length ≤ _; omega)
  obtain ⟨z1, hz1⟩ : ∃ z, z = Lx.bs ([40] ++ x) := ⟨_, rfl⟩
  rw [← hz1] at a1
  have a2 := add_s (a := z1) (b := ⟨#[32]⟩) (x := [40] ++ x) (y := [32]) hz1 rfl (by rw [List.length_append]; show 1 + x.length + 1 ≤ _; omega)
  obtain ⟨z2, hz2⟩ : ∃ z, z = Lx.bs ([40] ++ x ++ [32]) := ⟨_, rfl⟩
  rw [← hz2] at a2
  have a3 := add_s (a := z2) (b := Lx.bs op) (x := [40] ++ x ++ [32]) (y := op) hz2 rfl (by rw [List.length_append, List.length_append]; show 1 + x.length + 1 + op.length ≤ _; omega)
  obtain ⟨z3, hz3⟩ : ∃ z, z = Lx.bs ([40] ++ x ++ [32] ++ op) := ⟨_, rfl⟩
  rw [← hz3] at a3
  have a4 := add_s (a := z3) (b := ⟨#[32]⟩) (x := [40] ++ x ++ [32] ++ op) (y := [32]) hz3 rfl (by rw [List.length_append, List.length_append, List.length_append]; show 1 + x.length + 1 + op.length + 1 ≤ _; omega)
  obtain ⟨z4, hz4⟩ : ∃ z, z = Lx.bs ([40] ++ x ++ [32] ++ op ++ [32]) := ⟨_, rfl⟩
  rw [← hz4] at a4
  have a5 := add_s (a := z4) (b := Lx.bs y) (x := [40] ++ x ++ [32] ++ op ++ [32]) (y := y) hz4 rfl (by rw [List.length_append, List.length_append, List.length_append, List.length_append]; show 1 + x.length + 1 + op.length + 1 + y.length ≤ _; omega)
  obtain ⟨z5, hz5⟩ : ∃ z, z = Lx.bs ([40] ++ x ++ [32] ++ op ++ [32] ++ y) := ⟨_, rfl⟩
  rw [← hz5] at a5
  have a6 := add_s (a := z5) (b := ⟨#[41]⟩) (x := [40] ++ x ++ [32] ++ op ++ [32] ++ y) (y := [41]) hz5 rfl (by rw [List.length_append, List.length_append, List.length_append, List.length_append, List.length_append]; show 1 + x.length + 1 + op.length + 1 + y.length + 1 ≤ _; omega)
  obtain ⟨z6, hz6⟩ : ∃ z, z = Lx.bs ([40] ++ x ++ [32] ++ op ++ [32] ++ y ++ [41]) := ⟨_, rfl⟩
  rw [← hz6] at a6
  have q0 : (0 : Int) < (n : Int) := by omega
  have q1' : (1 : Int) < (n : Int) := by omega
  have hgl := block_lt_of_cell c0
  have htl := row_lt X1.out.1
  have HZ : Hid (Lx.bs (stepTx ⟨pk, pt, pn⟩ ps) = z6) := by show _ = _; rw [HX.out, hz6]
  clear hz6 hz1 hz2 hz3 hz4 hz5 hx hy hxl hyl hol hop HQ hk12 hk2 h1 h2 h3 h4 h5 h6 h7 h8 h9 h10 h11
  go_enter Tryz.func52, Tryz.ntmps52
  go_upto_region 1 with fail
  rw [← hw1, ← hT]
  clear hw1 hT
  go_upto_region 25 with fail
  have yc0 : ∀ q : BelowOf w1.heap.size w1, q.W.cell? ⟨g, o, none⟩ = some (.string (Lx.bs x)) := fun q => (q.h.cell (p := ⟨g, o, none⟩) hgl).trans c0
  have yc1 : ∀ q : BelowOf w1.heap.size w1, q.W.cell? ⟨g, o + 1, none⟩ = some (.string (Lx.bs y)) := fun q => (q.h.cell (p := ⟨g, o + 1, none⟩) hgl).trans c1
  have yk : ∀ q : BelowOf w1.heap.size w1, q.W.cell? ⟨T, 0, none⟩ = some (.int .u8 (pk : Int)) := fun q => (q.h.cell (p := ⟨T, 0, none⟩) htl).trans y0
  clear y0 y1 y2 c0 c1 hgl htl
  refine wp_region_below w1.heap.size w1 (Below.refl _ _) (by kernel_rfl) (by kernel_rfl) ?_
  repeat (go_big_quiet_step (first | (go_at_call 83; exact below_call _ (Nat.le_refl _) (CO.out _))))
  refine wpQuiet_nil ?_
  intro _ hw'
  obtain ⟨pq, hw''⟩ := hw'
  subst hw''
  have B9 : Hid (Below w.heap.size w pq.W) := X1.out.2.1.trans (pq.h.mono X1.out.2.1.size)
  go_wp2
  go_ret
  exact ⟨by rw [HZ.out]; rfl, B9.out⟩
end Ps
end Go.Proofs.YtfhkaffakniioaaGreatDoor
