/- Get, walked once more: what it answers lies in blocks that were not there ahead of the call. -/
import Derived.Test.YtbogggnnmbjlfaaDoorGet
namespace Go.Proofs.YtbogggnnmbjlfaaDoor
open Go.RowKit
open Vl (V)
/-- what Get answers, in blocks from B on -/
def GotA (B : Nat) (o : Option V) (e : Ending) (w' : World) : Prop := match o with
  | some x => ∃ v', e = .returned (.tuple #[v', .bool true]) ∧ RepA w' (fun g => B ≤ g ∧ g < w'.heap.size) x v'
  | none => e = .returned (.tuple #[.agg #[.int .u8 0, .bool false, .int .i64 0, .string ⟨#[]⟩, .slice none 0 0, .slice none 0 0], .bool false])
set_option maxHeartbeats 8000000 in
set_option maxRecDepth 100000 in
theorem get16a (t : V) (ht : Vl.small t) (ss : List ByteArray) (ao : Option Addr) (cap : Nat) (w : World) (hT : HasT w) (H : Nat) (v : Value) (hH : H ≤ w.heap.size) (hR : Rep w H t v) (hP : LiesP w ao ss) :
    Calls Tryd.prog 10 #[v, .slice ao ss.length cap] w fun e w' => GotA w.heap.size (getV t ss) e w' ∧ Below w.heap.size w w' := by
  obtain ⟨xk, xb, xn, xs, xa, xl, xc, ya, yl, yc, hv⟩ := repA_form (rep_repA t v hR)
  subst hv
  obtain ⟨w1, hw1, hb1, hr1, hz1⟩ := two_new w (.int .u8 (xk : Int)) (.bool xb) (.int .i64 xn) (.string xs) (.slice xa xl xc) (.slice ya yl yc)
  have G1 : Hid (GS w w1 H t) := ⟨hb1, hz1, ht, _, _, _, _, _, _, hr1, rep_stays (hb1.mono hH) (Nat.le_refl _) t _ hR⟩
  have HW1 : Hid (w1 = _) := hw1
  have HT : Hid (HasT w) := hT
  have HP : Hid (LiesP w ao ss) := hP
  have hl := maxLen_lt hP.1
  obtain ⟨np, hnp⟩ : ∃ n, n = ss.length := ⟨_, rfl⟩
  have HNP : Hid (np = ss.length) := hnp
  rw [← hnp] at hl ⊢
  obtain ⟨go, hgo⟩ : ∃ o, o = getV t ss := ⟨_, rfl⟩
  have HGO : Hid (go = getV t ss) := hgo
  rw [← hgo]
  clear hb1 hr1 hz1 hw1 hT hP hR ht hnp hgo
  go_enter Tryd.func10, Tryd.ntmps10
  go_wp2
  rw [← HW1.out]
  go_loopw [12] (fun i wr => ∃ (j : Nat) (t' : V), j ≤ np ∧ i = .int .i64 j ∧ GS w wr H t' ∧ getV t ss = getV t' (ss.drop j)) (fun i _ => np - (intOf i).toNat)
  case atStart => exact ⟨0, t, Nat.zero_le _, rfl, G1.out, rfl⟩
  case round =>
    obtain ⟨j, t', hj, rfl, hG, hgv⟩ := hrel
    clear G1 HW1
    have HG : Hid (GS w wr H t') := hG
    have HV : Hid (getV t ss = getV t' (ss.drop j)) := hgv
    obtain ⟨hB, hZ, hsm, z0, z1, z2, z3, z4, z5, hrow, hrep⟩ := hG
    obtain ⟨k1, b1, n1, s1, a1, l1, e1, a2, l2, e2, rfl, rfl, rfl, rfl, rfl, rfl⟩ := rep_form hrep
    obtain ⟨p0, p1, p2, p3, p4, p5⟩ := hrow.cells
    by_cases hlt : j < np
    · have hlt' : j < ss.length := by rw [← HNP.out]; exact hlt
      obtain ⟨g, o, rfl, hg, hc⟩ := HP.out.2.2 (by omega)
      obtain ⟨m, hm⟩ : ∃ m, ss[j]? = some m := ⟨_, List.getElem?_eq_getElem hlt'⟩
      have hms : m.size ≤ 140737488351232 := HP.out.2.1 m (List.mem_of_getElem? hm)
      have hcell : wr.cell? ⟨g, o + j, none⟩ = some (.string m) := (hB.cell (p := ⟨g, o + j, none⟩) hg).trans (hc j m hm)
      have hdrop : ss.drop j = m :: ss.drop (j + 1) := by
        have := List.drop_eq_getElem_cons hlt'
        rw [this]
        congr 1
        exact Option.some.inj ((List.getElem?_eq_getElem hlt').symm.trans hm)
      have C40 : Hid (∀ W, Below wr.heap.size wr W → Calls Tryd.prog 30 #[.agg #[.int .u8 (k1 : Int), .bool b1, .int .i64 n1, .string s1, .slice a1 l1 e1, .slice a2 l2 e2], .string m] W fun e w' => Stepped H (stepV t' m) e w' ∧ Below W.heap.size W w') := fun W hW =>
        step40 m hms t' W ((HT.out.stays hB).stays hW) H _ (by have := hB.size; have := hW.size; omega) (rep_stays (hW.mono (by have := hB.size; omega)) (Nat.le_refl _) t' _ hrep)
      have HDR : Hid (getV t ss = (stepV t' m).bind fun x => getV x (ss.drop (j + 1))) := by
        show _ = _
        rw [HV.out, hdrop, getV]
        cases stepV t' m <;> rfl
      have HSM : Hid (∀ x, stepV t' m = some x → Vl.small x) := fun x hx => small_step hsm hx
      clear hB hZ hsm hrow hrep hgv hdrop hc hm hms hlt'
      go_wp2_with fail
      refine (C40.out _ (Below.refl _ _)).mono ?_
      rintro e w2 ⟨hst, hb2⟩
      have HG2 : Hid (GS w w2 H t') := HG.out.call hH hb2
      obtain ⟨ho, hoe⟩ : ∃ ho, ho = stepV t' m := ⟨_, rfl⟩
      rw [← hoe] at hst
      have hgo : go = ho.bind fun x => getV x (ss.drop (j + 1)) := by rw [HGO.out, HDR.out, hoe]
      have HOE : Hid (ho = stepV t' m) := hoe
      clear hb2 hoe
      have Z2 := HG2.out.2.1
      rcases ho with _ | x
      · have hst' : e = .returned (.tuple #[.agg #[.int .u8 0, .bool false, .int .i64 0, .string ⟨#[]⟩, .slice none 0 0, .slice none 0 0], .bool false]) := hst
        subst hst'
        have hgo' : go = none := hgo
        subst hgo'
        obtain ⟨q0, q1, q2, q3, q4, q5⟩ := Row6.cells Z2
        have fz := Row6.free Z2
        have lt2 := Z2.1
        have HE : Hid (((w2.setCells (w.heap.size + 1) 0 [.int .u8 0, .bool false, .int .i64 0, .string ⟨#[]⟩, .slice none 0 0, .slice none 0 0]).alloc (.cells #[.int .u8 0, .bool false, .int .i64 0, .string ⟨#[]⟩, .slice none 0 0, .slice none 0 0] 26)).heap[w.heap.size + 1]? = some (.cells #[.int .u8 0, .bool false, .int .i64 0, .string ⟨#[]⟩, .slice none 0 0, .slice none 0 0] 26 (0, 0)) ∧ Below w.heap.size w ((w2.setCells (w.heap.size + 1) 0 [.int .u8 0, .bool false, .int .i64 0, .string ⟨#[]⟩, .slice none 0 0, .slice none 0 0]).alloc (.cells #[.int .u8 0, .bool false, .int .i64 0, .string ⟨#[]⟩, .slice none 0 0, .slice none 0 0] 26))) :=
          ⟨(Below.heap_alloc _ _ _ (by rw [size_setCells']; exact lt2)).trans Z2.same, (below_setCells (by omega) _ _ HG2.out.1).alloc (by rw [size_setCells']; exact HG2.out.1.size) _⟩
        clear hst hgo Z2 p0 p1 p2 p3 p4 p5
        go_wp2
        rw [sets6]
        exact bodyPost_ret (v := .tuple #[.agg #[.int .u8 0, .bool false, .int .i64 0, .string ⟨#[]⟩, .slice none 0 0, .slice none 0 0], .bool false]) ((results_row_tmp (fn := Tryd.f10) (p := 4) (u := 5) (ty := 26) (by rfl) _ _ (w.heap.size + 1) 26 _ (0, 0) _ (by rfl) HE.out.1 Tryd.underlying26 rfl info26).trans (by rfl)) rfl ⟨rfl, HE.out.2⟩
      · obtain ⟨v', hst', hrx⟩ : ∃ v', e = .returned (.tuple #[v', .bool true]) ∧ Rep w2 H x v' := hst
        subst hst'
        obtain ⟨k3, b3, n3, s3, a3, l3, e3, a4, l4, e4, hv'⟩ := repA_form (rep_repA x v' hrx)
        subst hv'
        have hgo' : go = getV x (ss.drop (j + 1)) := hgo
        have HGX : Hid (getV t ss = getV x (ss.drop (j + 1))) := HGO.out.symm.trans hgo'
        have HN : Hid (GS w ((w2.setCells w.heap.size 0 [.int .u8 (k3 : Int), .bool b3, .int .i64 n3, .string s3, .slice a3 l3 e3, .slice a4 l4 e4]).alloc (.cells #[.int .u8 (k3 : Int), .bool b3, .int .i64 n3, .string s3, .slice a3 l3 e3, .slice a4 l4 e4] 26)) H x) :=
          (HG2.out.set hH (HSM.out x HOE.out.symm) hrx).call hH (below_new _ _)
        obtain ⟨_, _, _, y0, y1, y2, y3, y4, y5, hrow2, _⟩ := HG2.out
        obtain ⟨q0, q1, q2, q3, q4, q5⟩ := hrow2.cells
        have fz := hrow2.free
        have lt2 := hrow2.1
        clear hgo hgo' Z2 hrow2 hrx p0 p1 p2 p3 p4 p5
        go_wp2
        go_roundw
        case rel =>
          rw [sets6]
          exact ⟨j + 1, x, by omega, by go_num, HN.out, HGX.out⟩
        case measure => simp [intOf]; omega
    · have hj' : j = np := by omega
      subst hj'
      have hgo : go = some t' := by rw [HGO.out, HV.out, HNP.out, List.drop_length, getV]
      subst hgo
      have C34 : Hid (Calls Tryd.prog 31 #[.agg #[.int .u8 (k1 : Int), .bool b1, .int .i64 n1, .string s1, .slice a1 l1 e1, .slice a2 l2 e2]] wr fun e w' => ∃ v', e = .returned v' ∧ Below wr.heap.size wr w' ∧ RepA w' (fun g => wr.heap.size ≤ g ∧ g < w'.heap.size) t' v') :=
        (clone34 _ t' (Nat.le_refl _) hsm wr H _ (by have := hB.size; omega) hrep).mono fun e w' h => by
          obtain ⟨v', M, rfl, hb, hc⟩ := h
          exact ⟨v', rfl, hb, hc.rep hsm⟩
      have HZB : Hid (Z6 wr (w.heap.size + 1) ∧ Below w.heap.size w wr) := ⟨hZ, hB⟩
      clear hB hZ hsm hrow hrep hgv HG HV HGO HP
      go_wp2_with fail
      refine C34.out.mono ?_
      rintro e w2 ⟨v', rfl, hb2, hr2⟩
      obtain ⟨k3, b3, n3, s3, a3, l3, e3, a4, l4, e4, hv'⟩ := repA_form hr2
      subst hv'
      have Z2 := HZB.out.1.call hb2
      obtain ⟨q0, q1, q2, q3, q4, q5⟩ := Row6.cells Z2
      have fz := Row6.free Z2
      have lt2 := Z2.1
      have HE : Hid ((w2.setCells (w.heap.size + 1) 0 [.int .u8 (k3 : Int), .bool b3, .int .i64 n3, .string s3, .slice a3 l3 e3, .slice a4 l4 e4]).heap[w.heap.size + 1]? = some (.cells #[.int .u8 (k3 : Int), .bool b3, .int .i64 n3, .string s3, .slice a3 l3 e3, .slice a4 l4 e4] 26 (0, 0)) ∧ Below w.heap.size w (w2.setCells (w.heap.size + 1) 0 [.int .u8 (k3 : Int), .bool b3, .int .i64 n3, .string s3, .slice a3 l3 e3, .slice a4 l4 e4]) ∧
          RepA (w2.setCells (w.heap.size + 1) 0 [.int .u8 (k3 : Int), .bool b3, .int .i64 n3, .string s3, .slice a3 l3 e3, .slice a4 l4 e4]) (fun g => w.heap.size ≤ g ∧ g < (w2.setCells (w.heap.size + 1) 0 [.int .u8 (k3 : Int), .bool b3, .int .i64 n3, .string s3, .slice a3 l3 e3, .slice a4 l4 e4]).heap.size) t' (.agg #[.int .u8 (k3 : Int), .bool b3, .int .i64 n3, .string s3, .slice a3 l3 e3, .slice a4 l4 e4])) :=
        ⟨Z2.put _ _ _ _ _ _, below_setCells (by omega) _ _ (HZB.out.2.trans (hb2.mono HZB.out.2.size)),
          (repA_stays (B := fun g => w.heap.size ≤ g ∧ g < (w2.setCells (w.heap.size + 1) 0 [.int .u8 (k3 : Int), .bool b3, .int .i64 n3, .string s3, .slice a3 l3 e3, .slice a4 l4 e4]).heap.size) (fun g hg => heap_setCells_ne _ g (by have h1 := hg.1; have h2 := HZB.out.1.1; omega) _ _ _) (fun g hg => ⟨Nat.le_trans HZB.out.2.size hg.1, by rw [size_setCells']; exact hg.2⟩) t' _ hr2)⟩
      clear hb2 hr2 Z2 p0 p1 p2 p3 p4 p5
      go_wp2
      rw [sets6]
      exact bodyPost_ret (v := .tuple #[.agg #[.int .u8 (k3 : Int), .bool b3, .int .i64 n3, .string s3, .slice a3 l3 e3, .slice a4 l4 e4], .bool true]) ((results_row_tmp (fn := Tryd.f10) (p := 4) (u := 5) (ty := 26) (by rfl) _ _ (w.heap.size + 1) 26 _ (0, 0) _ (by rfl) HE.out.1 Tryd.underlying26 rfl info26).trans (by rfl)) rfl ⟨⟨_, rfl, HE.out.2.2⟩, HE.out.2.1⟩
end Go.Proofs.YtbogggnnmbjlfaaDoor
