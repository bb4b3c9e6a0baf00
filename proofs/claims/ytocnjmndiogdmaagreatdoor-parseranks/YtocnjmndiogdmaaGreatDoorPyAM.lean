/- A step's text: walked. -/
import Derived.Test.YtocnjmndiogdmaaGreatDoorQ38M
import Derived.Test.YtocnjmndiogdmaaGreatDoorQ14M
import Derived.Test.YtocnjmndiogdmaaGreatDoorPrNM
namespace Go.Proofs.YtocnjmndiogdmaaGreatDoor
open Go.RowKit
namespace Ps
theorem add_s {a b : ByteArray} {x y : Bs} (ha : a = Lx.bs x) (hb : b = Lx.bs y) (h : x.length + y.length ≤ 9223372036854775807) (W : World) : (Op.stringOp .add a b).run Tryz.prog W = .ok (.string (Lx.bs (x ++ y))) W := by
  subst ha hb
  rw [run_string_add_sum W _ _ (by rw [Lx.bs_size, Lx.bs_size]; exact h)]
  congr 2
theorem kd_at : ∀ j, j < 11 → okd.getD j 0 = 12 + j := by decide
theorem opTx_at {k j : Nat} (hj : j < 11) (h : okd.getD j 0 = k) : opTx k = otx.getD j [] := by
  rw [kd_at j hj] at h
  rw [opTx, if_pos (by omega), show k - 12 = j by omega]
theorem opTx_none {k : Nat} (h : ∀ j, j < 11 → okd.getD j 0 ≠ k) : opTx k = [] := by
  rw [opTx, if_neg]
  intro q
  exact h (k - 12) (by omega) (by rw [kd_at (k - 12) (by omega)]; omega)
set_option maxHeartbeats 2000000 in
set_option maxRecDepth 100000 in
theorem operatorOf_c (k : Nat) (W : World) (hO : HasO W) : Calls Tryz.prog 109 #[.int .u8 (k : Int)] W fun e W' => e = .returned (.string (Lx.bs (opTx k))) ∧ Below W.heap.size W W' := by
  go_enter Tryz.func109, Tryz.ntmps109
  go_upto_region 1 with fail
  first | refine wp_seq ?_ | skip
  refine wp_region_lit ?_
  refine wpList_load_mid rfl 154 (.global 3) rfl 3 0 rfl opsV.toList _ (range_ops hO) Tryz.underlying154 rfl (by kernel_rfl) ?_
  clear hO
  obtain ⟨A, hA⟩ : ∃ A : Array Value, A = opsV.toList.toArray := ⟨_, rfl⟩
  rw [← hA]
  have HIX : Hid (∀ j : Nat, j < 11 → ∀ wx : World, (Instr.index 154 (.agg A) (.int .i64 (j : Int))).run Tryz.prog wx = .ok (.agg #[.string (Lx.bs (otx.getD j [])), .int .u8 ((okd.getD j 0 : Nat) : Int)]) wx) := by
    intro j hj wx
    rw [hA]
    exact index_ops j hj wx
  clear hA
  go_wp2
  go_loopw [6] (fun i wr => ∃ j : Nat, j ≤ 11 ∧ i = .int .i64 j ∧ (∀ m, m < j → okd.getD m 0 ≠ k) ∧ Below W.heap.size W wr) (fun i _ => 11 - (intOf i).toNat)
  case atStart => exact ⟨0, Nat.zero_le _, rfl, fun k hk => by omega, Below.refl _ _⟩
  case round =>
    obtain ⟨j, hj, rfl, hno, hwr⟩ := hrel
    have HW : Hid ((∀ m, m < j → okd.getD m 0 ≠ k) ∧ Below W.heap.size W wr) := ⟨hno, hwr⟩
    clear hno hwr
    by_cases hlt : j < 11
    · have q0 : (j : Int) < 11 := by omega
      have ix := HIX.out j hlt
      obtain ⟨y, hy⟩ : ∃ y, y = otx.getD j [] := ⟨_, rfl⟩
      obtain ⟨ys, hys⟩ : ∃ ys, ys = Lx.bs y := ⟨_, rfl⟩
      obtain ⟨kd, hkd⟩ : ∃ kd, kd = okd.getD j 0 := ⟨_, rfl⟩
      rw [← hy, ← hys, ← hkd] at ix
      have HY : Hid (y = otx.getD j [] ∧ ys = Lx.bs y ∧ kd = okd.getD j 0 ∧ j < 11) := ⟨hy, hys, hkd, hlt⟩
      clear hy hys hkd hlt hj
      go_upto_region 4 with fail
      obtain ⟨w3, hw3⟩ : ∃ w3, w3 = wr.alloc (.cells #[.string ys, .int .u8 (kd : Int)] 153) := ⟨_, rfl⟩
      obtain ⟨T, hT⟩ : ∃ T, T = wr.heap.size := ⟨_, rfl⟩
      have X3 : Hid (w3.heap[T]? = some (.cells #[.string ys, .int .u8 (kd : Int)] 153 (0, 0)) ∧ Below W.heap.size W w3) := by
        have hb : Below wr.heap.size wr w3 := by rw [hw3]; exact bnew _ _
        exact ⟨by rw [hw3, hT]; exact heap_alloc_new wr _, HW.out.2.trans (hb.mono HW.out.2.size)⟩
      rw [← hw3, ← hT]
      clear hw3 hT ix
      have y0 : w3.cell? ⟨T, 0, none⟩ = some (.string ys) := by rw [cell_of_row _ _ _ _ _ _ X3.out.1]; rfl
      have y1 : w3.cell? ⟨T, 1, none⟩ = some (.int .u8 (kd : Int)) := by rw [cell_of_row _ _ _ _ _ _ X3.out.1]; rfl
      by_cases he : kd = k
      · have t0 : ((kd : Int) == (k : Int)) = true := by rw [he]; simp
        have HK : Hid (Lx.bs (opTx k) = ys) := by
          show _ = _
          rw [opTx_at HY.out.2.2.2 (HY.out.2.2.1.symm.trans he), ← HY.out.1, HY.out.2.1]
        clear he
        go_wp2
        go_ret
        exact ⟨by rw [HK.out]; rfl, X3.out.2⟩
      · have t0 : ((kd : Int) == (k : Int)) = false := by simp; omega
        obtain ⟨j1, hj1⟩ : ∃ j1, j1 = j + 1 := ⟨_, rfl⟩
        have HJ : Hid (j1 = j + 1) := hj1
        have HV : Hid (IntKind.i64.wrap ((j : Int) + 1) = (j1 : Int) ∧ wrap64 ((j : Int) + 1) = (j1 : Int)) := wrp (by omega) (by have := HY.out; omega)
        have HNO2 : Hid (∀ m, m < j1 → okd.getD m 0 ≠ k) := fun m hm => by
          rcases Nat.lt_or_ge m j with q | q
          · exact HW.out.1 m q
          · have hkj : m = j := by have := HJ.out; omega
            rw [hkj, ← HY.out.2.2.1]
            exact he
        clear he hj1
        obtain ⟨v1, v2⟩ := HV.out
        go_wp2
        clear v1 v2
        go_roundw
        case rel => first | exact ⟨j1, by have := HJ.out; have := HY.out; omega, rfl, HNO2.out, X3.out.2⟩ | ((repeat apply Exists.intro); exact ⟨⟨j1, by have := HJ.out; have := HY.out; omega, rfl, HNO2.out, X3.out.2⟩, rfl⟩)
        case measure =>
          simp only [intOf]
          have := HJ.out
          have := HY.out
          omega
    · have hj11 : j = 11 := by omega
      subst hj11
      have HK : Hid (opTx k = []) := opTx_none HW.out.1
      clear hlt hj
      go_wp2
      go_ret
      exact ⟨by rw [HK.out]; rfl, HW.out.2⟩
/-- texts that are own, one more -/
theorem OwnT.push {w W W5 : World} {sv v' : Value} {l : List Bs} {x : Bs} (h : OwnT W w.heap.size sv l) (hb : Below w.heap.size w W) {W4 : World} (h4 : Below W.heap.size W W4) (hg : W4.grownBy W5 sv.ownBlock) (hn : W5.ownsRow w.heap.size 9 1 v' (l.length + 1) ((l.map fun x => Value.string (Lx.bs x)) ++ [.string (Lx.bs x)])) : Below w.heap.size w W5 ∧ OwnT W5 w.heap.size v' (l ++ [x]) := by
  have b4 : Below w.heap.size w W4 := hb.trans (h4.mono hb.size)
  refine ⟨b4.grown hg b4.size fun q hq => (h.ty hq).1, ?_⟩
  unfold OwnT
  rw [List.length_append, List.length_singleton, List.map_append]
  exact hn
theorem field_step {ns ps : List Bs} {j : Nat} {n p : Bs} (hn : ns[j]? = some n) (hp : ps[j]? = some p) : fieldTx (ns.take (j + 1)) (ps.take (j + 1)) = fieldTx (ns.take j) (ps.take j) ++ [n ++ [58, 32] ++ p] := by
  have h1 := (List.getElem?_eq_some_iff.1 hn).1
  have h2 := (List.getElem?_eq_some_iff.1 hp).1
  rw [List.take_add_one, List.take_add_one, hn, hp, fieldTx, fieldTx]
  show List.zipWith _ (ns.take j ++ [n]) (ps.take j ++ [p]) = _
  rw [List.zipWith_append (by rw [List.length_take, List.length_take]; omega)]
  rfl
theorem zip_take : ∀ ns ps : List Bs, List.zipWith (fun n p : Bs => n ++ [58, 32] ++ p) ns ps = List.zipWith (fun n p : Bs => n ++ [58, 32] ++ p) (ns.take ps.length) ps
  | [], _ => by simp
  | _ :: _, [] => by simp
  | n :: ns, p :: ps => by
    have := zip_take ns ps
    show _ :: _ = _ :: _
    rw [this]
set_option maxHeartbeats 4000000 in
set_option maxRecDepth 100000 in
theorem fieldTexts_c (t : Bs) (ps : List Bs) (a : Option Addr) (n c : Nat) (w : World) (hn : n = ps.length) (h64 : n ≤ 64) (hc : n ≤ c) (hcut : n ≤ (cut 44 t).length) (hk : t.count 44 ≤ 64) (ht : t.length ≤ 4611686018427387904) (hz : ∀ x ∈ cut 44 t, x.length ≤ 64) (hp : ∀ x ∈ ps, x.length ≤ 1000000) (hr : SR w a ps) : Calls Tryz.prog 108 #[.string (Lx.bs t), .slice a n c] w fun e w' => ∃ a' c', e = .returned (.slice a' n c') ∧ Hid (Below w.heap.size w w' ∧ OwnT w' w.heap.size (.slice a' n c') (fieldTx (cut 44 t) ps)) := by
  obtain ⟨i0, hi, hz0, hz1, hz2⟩ := info_partsP infoStr
  obtain ⟨ns, hns⟩ : ∃ ns, ns = cut 44 t := ⟨_, rfl⟩
  obtain ⟨m, hm⟩ : ∃ m, m = ns.length := ⟨_, rfl⟩
  have CS : Hid (Calls Tryz.prog 51 #[.string (Lx.bs t), .string ⟨#[44]⟩] w fun e w' => ∃ g, e = .returned (.slice (some ⟨g, 0, none⟩) m m) ∧ Below w.heap.size w w' ∧ SR w' (some ⟨g, 0, none⟩) ns) := by
    rw [hm, hns]
    exact split_c 44 t ht (by omega) w
  rw [← hns] at hcut hz ⊢
  have HS : Hid (n = ps.length ∧ n ≤ 64 ∧ n ≤ c ∧ n ≤ m ∧ m = ns.length ∧ (∀ x ∈ ns, x.length ≤ 64) ∧ (∀ x ∈ ps, x.length ≤ 1000000) ∧ SR w a ps) := ⟨hn, h64, hc, by omega, hm, hz, hp, hr⟩
  obtain ⟨ts, hts⟩ : ∃ ts, ts = Lx.bs t := ⟨_, rfl⟩
  rw [← hts] at CS ⊢
  have qs1 : (0 : Int) ≤ (n : Int) := by omega
  have qs2 : (n : Int) ≤ (m : Int) := by have := HS.out.2.2.2.1; omega
  clear hts hns hm hn hc hcut hz hp hr ht hk
  go_enter Tryz.func108, Tryz.ntmps108
  go_wp2_with fail
  refine (CS.out).mono ?_
  rintro e w1 ⟨g, rfl, hb1, hr1⟩
  have X1 : Hid (Below w.heap.size w w1 ∧ SR w1 (some ⟨g, 0, none⟩) ns) := ⟨hb1, hr1⟩
  clear hb1 hr1 CS
  go_wp2
  clear qs1 qs2
  go_loopw [5, 14] (fun v i wr => ∃ j : Nat, j ≤ n ∧ i = .int .i64 j ∧ Hid (Below w1.heap.size w1 wr ∧ Below w.heap.size w wr ∧ OwnT wr w1.heap.size v (fieldTx (ns.take j) (ps.take j)))) (fun _ i _ => n - (intOf i).toNat)
  case atStart => exact ⟨0, Nat.zero_le _, rfl, Below.refl _ _, X1.out.1, rfl, .inl ⟨rfl, rfl⟩⟩
  case round =>
    obtain ⟨j, hj, rfl, HI⟩ := hrel
    obtain ⟨nl, hnl⟩ : ∃ nl, nl = fieldTx (ns.take j) (ps.take j) := ⟨_, rfl⟩
    rw [← hnl] at HI
    obtain ⟨na, nc, hnv⟩ := HI.out.2.2.form
    obtain ⟨k, hk⟩ : ∃ k, k = nl.length := ⟨_, rfl⟩
    rw [← hk] at hnv
    have HK : Hid (k = nl.length ∧ k = j ∧ nl = fieldTx (ns.take j) (ps.take j)) := ⟨hk, by rw [hk, hnl, fieldTx, List.length_zipWith, List.length_take, List.length_take]; have := HS.out; omega, hnl⟩
    subst hnv
    clear hk hnl
    by_cases hlt : j < n
    · have q0 : (j : Int) < (n : Int) := by omega
      have q1 : (0 : Int) ≤ (j : Int) := by omega
      obtain ⟨y, hy⟩ : ∃ y, ns[j]? = some y := ⟨_, List.getElem?_eq_getElem (by have := HS.out; omega)⟩
      obtain ⟨p, hp⟩ : ∃ p, ps[j]? = some p := ⟨_, List.getElem?_eq_getElem (by have := HS.out; omega)⟩
      obtain ⟨g', o', e0, c0⟩ := (X1.out.2.call HI.out.1) j y hy
      cases e0
      obtain ⟨g2, o2, rfl, c1⟩ := (HS.out.2.2.2.2.2.2.2.call HI.out.2.1) j p hp
      have hyl := HS.out.2.2.2.2.2.1 y (List.mem_of_getElem? hy)
      have hpl := HS.out.2.2.2.2.2.2.1 p (List.mem_of_getElem? hp)
      rw [Nat.zero_add] at c0
      have HP : Hid (fieldTx (ns.take (j + 1)) (ps.take (j + 1)) = nl ++ [y ++ [58, 32] ++ p] ∧ j < n) := ⟨by rw [HK.out.2.2]; exact field_step hy hp, hlt⟩
      have a1 := add_s (a := Lx.bs y) (b := ⟨#[58, 32]⟩) (x := y) (y := [58, 32]) rfl rfl (by show y.length + 2 ≤ _; omega)
      have a2 := add_s (a := Lx.bs (y ++ [58, 32])) (b := Lx.bs p) (x := y ++ [58, 32]) (y := p) rfl rfl (by rw [List.length_append]; show y.length + 2 + p.length ≤ _; omega)
      obtain ⟨z, hzz⟩ : ∃ z, z = y ++ [58, 32] ++ p := ⟨_, rfl⟩
      rw [← hzz] at a2 HP
      obtain ⟨yy, hyy⟩ : ∃ yy, yy = Lx.bs (y ++ [58, 32]) := ⟨_, rfl⟩
      rw [← hyy] at a1 a2
      have O6 : Hid (wr.ownsRow w1.heap.size 9 1 (.slice na k nc) k (nl.map fun x => Value.string (Lx.bs x))) := by
        have := HI.out.2.2
        unfold OwnT at this
        rw [← HK.out.1] at this
        exact this
      have fit63 : Hid (k + 1 ≤ maxLen) := by show _ ≤ _; have := HK.out; have := HS.out; unfold maxLen; omega
      have fit47 : Hid ((k + 1) * 16 ≤ 140737488355328) := by show _ ≤ _; have := HK.out; have := HS.out; omega
      obtain ⟨j1, hj1⟩ : ∃ j1, j1 = j + 1 := ⟨_, rfl⟩
      have HJ1 : Hid (j1 = j + 1) := hj1
      have HV : Hid (IntKind.i64.wrap ((j : Int) + 1) = (j1 : Int) ∧ wrap64 ((j : Int) + 1) = (j1 : Int)) := wrp (by omega) (by have := HS.out; omega)
      clear hy hp hlt hj hzz hyy hj1 hyl hpl
      go_wp2_with (at_builtin; refine wpList_append_own _ rfl _ _ 40 rfl w1.heap.size 9 i0 (.string ⟨#[]⟩) 1 16 Tryz.underlying40 hi hz0 hz1 hz2 rfl (by decide) _ _ _ rfl (O6.out.alloc _) ⟨wr.heap.size, 0, none⟩ 1 1 [.string (Lx.bs z)] rfl rfl ?c1 ?c2 fit63.out fit47.out ?c5 ?_)
      case c1 =>
        intro j u hj
        match j, hj with
        | 0, hj => simp at hj; subst hj; simp [Addr.add]
      case c2 => intro u hu; simp at hu; subst hu; rfl
      case c5 => have h1 := HI.out.1.size; simp; omega
      intro v' w7 hown7 hgrow7 _
      have I7 : Hid (Below w1.heap.size w1 w7 ∧ Below w.heap.size w w7 ∧ OwnT w7 w1.heap.size v' (fieldTx (ns.take j1) (ps.take j1))) := by
        rw [HJ1.out, HP.out.1]
        obtain ⟨r1, r2⟩ := HI.out.2.2.push HI.out.1 (bnew wr _) hgrow7 (by rw [← HK.out.1]; exact hown7)
        exact ⟨r1, X1.out.1.trans (r1.mono X1.out.1.size), r2⟩
      clear hown7 hgrow7
      obtain ⟨v1, v2⟩ := HV.out
      go_wp2
      clear v1 v2
      go_roundw
      case rel => first | exact ⟨j1, by have := HJ1.out; have := HP.out; omega, rfl, I7.out⟩ | ((repeat apply Exists.intro); exact ⟨⟨j1, by have := HJ1.out; have := HP.out; omega, rfl, I7.out⟩, rfl⟩)
      case measure =>
        simp only [intOf]
        have := HJ1.out
        have := HP.out
        omega
    · have q0 : ¬ (j : Int) < (n : Int) := by omega
      have HE : Hid (k = n ∧ fieldTx ns ps = nl) := by
        have e1 : j = n := by omega
        refine ⟨by rw [HK.out.2.1, e1], ?_⟩
        rw [HK.out.2.2, e1]
        show List.zipWith _ _ _ = List.zipWith _ _ _
        rw [List.take_of_length_le (l := ps) (by have := HS.out.1; omega)]
        rw [HS.out.1]
        exact zip_take ns ps
      clear hlt hj
      go_wp2
      go_ret
      exact ⟨na, nc, by rw [← HE.out.1]; rfl, HI.out.2.1, by rw [HE.out.2, ← HE.out.1]; exact own_to HI.out.2.2 X1.out.1.size⟩
end Ps
end Go.Proofs.YtocnjmndiogdmaaGreatDoor
