/- LexJoins, walked. -/
import Derived.Test.YtdejnphiejkglaaDoorLxY
namespace Go.Proofs.YtdejnphiejkglaaDoor
open Go.RowKit
/-- the tokens of both texts, and of the joined one -/
structure JS (w W : World) (B1 B2 B3 : Nat) (lv mv kv : Value) (ts us ks : List Lx.Tk) : Prop where
  below : Below w.heap.size w W
  sz : B3 ≤ W.heap.size
  l : W.ownsRow B1 26 4 lv ts.length (Lx.tcs ts)
  m : W.ownsRow B2 26 4 mv us.length (Lx.tcs us)
  k : W.ownsRow B3 26 4 kv ks.length (Lx.tcs ks)
theorem JS.set {w W : World} {B1 B2 B3 g cap j p : Nat} {lv kv : Value} {ts us ks : List Lx.Tk} {t : Lx.Tk} {n : Nat} (h : JS w W B1 B2 B3 lv (.slice (some ⟨g, 0, none⟩) n cap) kv ts us ks) (hn : n = us.length) (ht : us[j]? = some t) (hw : w.heap.size ≤ g) (hl : some g ≠ lv.ownBlock) (hk : some g ≠ kv.ownBlock) :
    JS w (W.setCell ⟨g, j * 4 + 3, none⟩ (.int .i64 (p : Int))) B1 B2 B3 lv (.slice (some ⟨g, 0, none⟩) n cap) kv ts (us.set j ⟨t.kind, t.text, t.n, p⟩) ks := by
  subst hn
  refine ⟨h.below.setCell hw _, by simpa [World.setCell] using h.sz, own_setL h.l hl, ?_, own_setL h.k hk⟩
  rw [List.length_set, Lx.tcs_set us j t p ht]
  exact own_stored h.m
theorem Lx.cat (a b : Lx.Bs) : (Lx.bs a ++ { data := #[32] } ++ Lx.bs b : ByteArray) = Lx.bs (a ++ 32 :: b) := by
  apply ByteArray.ext
  simp [Lx.bs, ByteArray.data_append]
theorem cat_run (x y : ByteArray) (h : x.size + y.size ≤ 9223372036854775807) (w : World) : (binOp .add 9 (.string x) (.string y)).run Tryd.prog w = .ok (.string (x ++ y)) w := by
  have h1 := run_string_add_sum (P := Tryd.prog) w x y h
  simp [binOp, h1]
theorem Lx.arE {a b : Nat} {na nb : Int} (ha : na = (a : Int)) (hb : nb = (b : Int)) (h1 : a ≤ 140737488351232) (h2 : b ≤ 140737488351232) : wrap64 (na + nb) = ((a + b : Nat) : Int) := by unfold wrap64; omega
theorem Lx.arF {a p : Nat} {na : Int} (ha : na = (a : Int)) (h1 : a ≤ 16384) (hp : p ≤ 16384) : wrap64 (wrap64 ((p : Int) + na) + 1) = ((p + (a + 1) : Nat) : Int) := by unfold wrap64; omega
theorem Lx.arG {a : Nat} {na : Int} (ha : na = (a : Int)) (h1 : a ≤ 16384) : wrap64 (na + 1) = ((a + 1 : Nat) : Int) := by unfold wrap64; omega
theorem Lx.arH {a p : Nat} (h1 : a ≤ 16384) (hp : p ≤ 16384) : wrap64 ((p : Int) + ((a + 1 : Nat) : Int)) = ((p + (a + 1) : Nat) : Int) := by unfold wrap64; omega
set_option maxHeartbeats 8000000 in
set_option maxRecDepth 100000 in
theorem joins_c (a b : Lx.Bs) (ha : a.length ≤ 140737488351232) (hb : b.length ≤ 140737488351232) (w : World) (hL : HasL w) : Calls Tryd.prog 5 #[.string (Lx.bs a), .string (Lx.bs b)] w fun e w' => e = .returned (.bool true) ∧ Below w.heap.size w w' := by
  have HL : Hid (∀ W, Below w.heap.size w W → HasL W) := fun W hW => hL.stays hW
  have CL : Hid (Calls Tryd.prog 7 #[] w fun e w' => e = .returned (.bool true) ∧ Below w.heap.size w w') := livesL_c w hL
  have CA : Hid (∀ W, Below w.heap.size w W → Calls Tryd.prog 9 #[.string (Lx.bs a)] W (Lx.LexGave (Lx.lex a) W)) := fun W hW => lex_c a ha W (HL.out W hW)
  have CB : Hid (∀ W, Below w.heap.size w W → Calls Tryd.prog 9 #[.string (Lx.bs b)] W (Lx.LexGave (Lx.lex b) W)) := fun W hW => lex_c b hb W (HL.out W hW)
  have CC : Hid (a.length + b.length < 16384 → ∀ W, Below w.heap.size w W → Calls Tryd.prog 9 #[.string (Lx.bs a ++ { data := #[32] } ++ Lx.bs b)] W (Lx.LexGave (Lx.lex (a ++ 32 :: b)) W)) := fun hq W hW => by rw [Lx.cat]; exact lex_c (a ++ 32 :: b) (by simp; omega) W (HL.out W hW)
  obtain ⟨s1, hs1⟩ : ∃ s, s = Lx.bs a := ⟨_, rfl⟩
  obtain ⟨s2, hs2⟩ : ∃ s, s = Lx.bs b := ⟨_, rfl⟩
  obtain ⟨na, hna⟩ : ∃ n : Int, n = (a.length : Int) := ⟨_, rfl⟩
  obtain ⟨nb, hnb⟩ : ∃ n : Int, n = (b.length : Int) := ⟨_, rfl⟩
  have hsz1 : (s1.size : Int) = na := by rw [hs1, Lx.bs_size, hna]
  have hsz2 : (s2.size : Int) = nb := by rw [hs2, Lx.bs_size, hnb]
  have hc0 : Hid (s1.size ≤ 140737488351232 ∧ s2.size ≤ 140737488351232) := ⟨by rw [hs1, Lx.bs_size]; exact ha, by rw [hs2, Lx.bs_size]; exact hb⟩
  rw [← hs1] at CA
  rw [← hs2] at CB
  rw [← hs1, ← hs2] at CC
  rw [← hs1, ← hs2]
  have hsum := Lx.arE hna hnb ha hb
  obtain ⟨nab, hnab⟩ : ∃ n : Int, n = ((a.length + b.length : Nat) : Int) := ⟨_, rfl⟩
  rw [← hnab] at hsum
  have HNA : Hid (na = (a.length : Int)) := hna
  clear hs1 hs2 hna hnb hL ha hb
  go_enter Tryd.func5, Tryd.ntmps5
  go_wp2_with fail
  refine Calls.mono CL.out ?_
  rintro e w1 ⟨rfl, hb1⟩
  have HB1 : Hid (Below w.heap.size w w1) := hb1
  clear hb1 CL
  by_cases hbig : 16384 ≤ a.length + b.length
  · have q0 : (16384 : Int) ≤ nab := by rw [hnab]; omega
    clear hnab
    have HF := HB1.out
    go_wp2
    go_ret
    exact ⟨rfl, HF⟩
  · have q0 : ¬ (16384 : Int) ≤ nab := by rw [hnab]; omega
    have hlt : a.length + b.length < 16384 := by omega
    have HLT : Hid (a.length + b.length < 16384) := hlt
    have HAP : Hid ((Lx.lex a).err = 0 → Lx.lex (a ++ 32 :: b) = Lx.join (Lx.lex a).toks ⟨(Lx.lex b).toks.map (Lx.sh (a.length + 1)), (Lx.lex b).err, if (Lx.lex b).err ≠ 0 then (Lx.lex b).pos + (a.length + 1) else 0⟩) := fun h => Lx.lex_app hlt h
    have HT1 : Hid ((Lx.lex a).err = 0 → (Lx.lex a).toks.length ≤ 16384) := fun h => by
      have h1 := Lx.lex_toks h
      have := Lx.toks_len h1.2
      omega
    have HT2 : Hid ((Lx.lex b).err = 0 → (Lx.lex b).toks.length ≤ 16384 ∧ ∀ (j : Nat) (t : Lx.Tk), (Lx.lex b).toks[j]? = some t → t.at' ≤ 16384) := fun h => by
      have h1 := Lx.lex_toks h
      have := Lx.toks_len h1.2
      exact ⟨by omega, fun j t ht => by have := (Lx.tok_ok h1.1 h1.2 j t ht).lt; omega⟩
    have HP2 : Hid ((Lx.lex b).err ≠ 0 → (Lx.lex b).pos ≤ 16384) := fun h => by
      have := (Lx.lex_bad h).2
      omega
    obtain ⟨o1, ho1⟩ : ∃ o, o = Lx.lex a := ⟨_, rfl⟩
    obtain ⟨o2, ho2⟩ : ∃ o, o = Lx.lex b := ⟨_, rfl⟩
    obtain ⟨o3, ho3⟩ : ∃ o, o = Lx.lex (a ++ 32 :: b) := ⟨_, rfl⟩
    have CC2 : Hid (∀ W, Below w.heap.size w W → Calls Tryd.prog 9 #[.string (s1 ++ { data := #[32] } ++ s2)] W (Lx.LexGave (Lx.lex (a ++ 32 :: b)) W)) := CC.out hlt
    clear CC
    rw [← ho1] at HAP HT1 CA
    rw [← ho2] at HAP HT2 HP2 CB
    rw [← ho3] at HAP CC2
    clear ho1 ho2 ho3 hbig hlt hnab
    obtain ⟨ts, e1, p1⟩ := o1
    obtain ⟨us, e2, p2⟩ := o2
    obtain ⟨ks, e3, p3⟩ := o3
    go_wp2_with fail
    refine Calls.mono (CA.out _ HB1.out) ?_
    rintro e w2 ⟨hb2, lv, rfl, hrow1⟩
    simp only at hrow1 ⊢
    have HB2 : Hid (Below w.heap.size w w2) := HB1.out.trans (hb2.mono HB1.out.size)
    have HR1 : Hid (w2.ownsRow w1.heap.size 26 4 lv ts.length (Lx.tcs ts)) := hrow1
    have HB12 : Hid (Below w1.heap.size w1 w2) := hb2
    clear hb2 hrow1 CA
    go_wp2_with fail
    refine Calls.mono (CB.out _ HB2.out) ?_
    rintro e w3 ⟨hb3, mv, rfl, hrow2⟩
    simp only at hrow2 ⊢
    have HB3 : Hid (Below w2.heap.size w2 w3) := hb3
    have HR2 : Hid (w3.ownsRow w2.heap.size 26 4 mv us.length (Lx.tcs us)) := hrow2
    clear hb3 hrow2 CB
    have HC1 : ¬ 9223372036854775807 < s1.size + 1 := by have := hc0.out; omega
    have HC2 : ¬ 9223372036854775806 < s1.size := by have := hc0.out; omega
    have HC3 : ¬ 9223372036854775807 ≤ s1.size := by have := hc0.out; omega
    have HC4 : ¬ 9223372036854775807 < s1.size + 1 + s2.size := by have := hc0.out; omega
    go_wp2_with fail
    refine Calls.mono (CC2.out _ (HB2.out.trans (HB3.out.mono HB2.out.size))) ?_
    rintro e w4 ⟨hb4, kv, rfl, hrow3⟩
    simp only at hrow3 ⊢
    have HB4 : Hid (Below w3.heap.size w3 w4) := hb4
    have HR3 : Hid (w4.ownsRow w3.heap.size 26 4 kv ks.length (Lx.tcs ks)) := hrow3
    clear hb4 hrow3 CC2 HC1 HC2 HC3 HC4 hc0
    have HBW : Hid (Below w.heap.size w w4) := (HB2.out.trans (HB3.out.mono HB2.out.size)).trans (HB4.out.mono (HB2.out.trans (HB3.out.mono HB2.out.size)).size)
    by_cases he1 : e1 = 0
    · subst he1
      have HAQ := HAP.out rfl
      by_cases he2 : e2 = 0
      · subst he2
        have hq : e3 = 0 ∧ ks = ts ++ us.map (Lx.sh (a.length + 1)) := by
          simp [Lx.join] at HAQ
          exact ⟨HAQ.2.1, HAQ.1⟩
        obtain ⟨rfl, rfl⟩ := hq
        clear HAQ HAP HP2
        have HS : Hid (JS w w4 w1.heap.size w2.heap.size w3.heap.size lv mv kv ts us (ts ++ us.map (Lx.sh (a.length + 1)))) := ⟨HBW.out, HB4.out.size, own_callL (own_callL HR1.out HB3.out) HB4.out, own_callL HR2.out HB4.out, HR3.out⟩
        have HLV : Hid (∀ q, lv.ownBlock = some q → q < w2.heap.size) := fun q hq => (own_lt HR1.out q hq).2
        have HMV : Hid (∀ q, mv.ownBlock = some q → w2.heap.size ≤ q ∧ q < w3.heap.size) := fun q hq => own_lt HR2.out q hq
        have HKV : Hid (∀ q, kv.ownBlock = some q → w3.heap.size ≤ q) := fun q hq => (own_lt HR3.out q hq).1
        obtain ⟨ma, mc, rfl⟩ := own_slcL HR2.out
        obtain ⟨m, hm⟩ : ∃ m, m = us.length := ⟨_, rfl⟩
        have HM : Hid (m = us.length) := hm
        rw [← hm] at HS HMV
        rw [← hm]
        clear hm HR1 HR2 HR3
        have HT1' : Hid (ts.length ≤ 16384) := HT1.out rfl
        have HT2' : Hid (us.length ≤ 16384 ∧ ∀ (j : Nat) (t : Lx.Tk), us[j]? = some t → t.at' ≤ 16384) := HT2.out rfl
        clear HT1 HT2
        have HT1 := HT1'
        have HT2 := HT2'
        clear HT1' HT2'
        have hmb : m ≤ 16384 := by rw [HM.out]; exact HT2.out.1
        go_wp2
        go_loopw [62] (fun i wr => ∃ j : Nat, j ≤ m ∧ i = .int .i64 (j : Int) ∧ JS w wr w1.heap.size w2.heap.size w3.heap.size lv (.slice ma m mc) kv ts (Lx.mv (a.length + 1) j us) (ts ++ us.map (Lx.sh (a.length + 1)))) (fun i _ => m - (intOf i).toNat)
        case atStart => exact ⟨0, Nat.zero_le _, rfl, by rw [Lx.mv_zero]; exact HS.out⟩
        case round =>
          obtain ⟨j, hj, rfl, hS⟩ := hrel
          have S : Hid (JS w wr w1.heap.size w2.heap.size w3.heap.size lv (.slice ma m mc) kv ts (Lx.mv (a.length + 1) j us) (ts ++ us.map (Lx.sh (a.length + 1)))) := hS
          clear hS HS
          by_cases hjm : j < m
          · have q1 : (j : Int) < (m : Int) := by omega
            obtain ⟨t, ht⟩ : ∃ t, us[j]? = some t := ⟨_, List.getElem?_eq_getElem (by rw [← HM.out]; exact hjm)⟩
            have hta : t.at' ≤ 16384 := HT2.out.2 j t ht
            have HT : Hid ((Lx.mv (a.length + 1) j us)[j]? = some t) := Lx.mv_at ht
            have HNX : Hid (Lx.mv (a.length + 1) (j + 1) us = (Lx.mv (a.length + 1) j us).set j ⟨t.kind, t.text, t.n, t.at' + (a.length + 1)⟩) := Lx.mv_next ht
            have hml : (Lx.mv (a.length + 1) j us).length = m := by rw [Lx.mv_len, HM.out]
            have HML : Hid ((Lx.mv (a.length + 1) j us).length = m) := hml
            obtain ⟨g, rfl, hg, hc⟩ : ∃ g, ma = some ⟨g, 0, none⟩ ∧ g < wr.heap.size ∧ ∀ (i : Nat) (u : Value), (Lx.tcs (Lx.mv (a.length + 1) j us))[i]? = some u → wr.cell? ⟨g, i, none⟩ = some u := by
              obtain ⟨g, cap, e, h1, h2⟩ := own_cellsL (by rw [hml]; omega) S.out.m
              cases e
              exact ⟨g, rfl, h1, h2⟩
            have d3 : wr.cell? ⟨g, j * 4 + 3, none⟩ = some (.int .i64 (t.at' : Int)) := hc _ _ (Lx.tcs_at _ j t HT.out 3 _ rfl)
            have fz : wr.frozen? ⟨g, j * 4 + 3, none⟩ = false := by
              have h := S.out.m
              rw [hml] at h
              exact own_unfrozen h _
            have hG : Hid (w2.heap.size ≤ g ∧ g < w3.heap.size) := HMV.out g rfl
            obtain ⟨ta, hta2⟩ : ∃ ta, ta = t.at' := ⟨_, rfl⟩
            rw [← hta2] at d3 hta HNX
            have hw1 := Lx.arG HNA.out (by have := HLT.out; omega)
            obtain ⟨c, hcc⟩ : ∃ c, c = a.length + 1 := ⟨_, rfl⟩
            have hw2 := Lx.arH (a := a.length) (p := ta) (by have := HLT.out; omega) hta
            rw [← hcc] at hw1 hw2
            obtain ⟨tc, htc⟩ : ∃ tc, tc = ta + c := ⟨_, rfl⟩
            rw [← htc] at hw2
            have S2 : Hid (JS w (wr.setCell ⟨g, j * 4 + 3, none⟩ (.int .i64 (tc : Int))) w1.heap.size w2.heap.size w3.heap.size lv (.slice (some ⟨g, 0, none⟩) m mc) kv ts (Lx.mv (a.length + 1) (j + 1) us) (ts ++ us.map (Lx.sh (a.length + 1)))) := by
              have hq := HB2.out.size
              rw [HNX.out, htc, hcc]
              refine S.out.set HML.out.symm HT.out (by have := hG.out; omega) (fun e => ?_) (fun e => ?_)
              · have h1 := HLV.out g e.symm
                have h2 := hG.out
                omega
              · have h1 := HKV.out g e.symm
                have h2 := hG.out
                omega
            clear hc hg ht HT HNX hml HML hcc htc hta hta2 hG
            go_upto_region 16 with fail
            obtain ⟨w5, hw5⟩ : ∃ w5, w5 = wr.setCell ⟨g, j * 4 + 3, none⟩ (.int .i64 (tc : Int)) := ⟨_, rfl⟩
            rw [← hw5] at S2
            rw [← hw5]
            clear hw5 d3 fz
            go_wp2
            go_roundw
            case rel => first | exact ⟨j + 1, Nat.succ_le_of_lt hjm, by go_num, S2.out⟩ | ((repeat apply Exists.intro); exact ⟨⟨j + 1, Nat.succ_le_of_lt hjm, by go_num, S2.out⟩, rfl⟩)
            case measure =>
              simp only [intOf]
              exact Lx.arD hjm
          · have q1 : ¬ (j : Int) < (m : Int) := by omega
            have hjm2 : j = us.length := by rw [← HM.out]; omega
            have S2 : Hid (JS w wr w1.heap.size w2.heap.size w3.heap.size lv (.slice ma m mc) kv ts (us.map (Lx.sh (a.length + 1))) (ts ++ us.map (Lx.sh (a.length + 1)))) := by
              have h := S.out
              rw [hjm2, Lx.mv_all] at h
              exact h
            clear S hjm2
            obtain ⟨us2, hus⟩ : ∃ us2, us2 = us.map (Lx.sh (a.length + 1)) := ⟨_, rfl⟩
            have HU : Hid (us2.length = m) := by rw [hus, List.length_map]; exact HM.out.symm
            rw [← hus] at S2
            clear hus
            have HN : Hid (ts.length + us2.length ≤ 1048576) := by
              have h1 := HT1.out
              have h2 := HU.out
              show _ ≤ _
              omega
            have HLK : Hid (lv.ownBlock = none ∨ kv.ownBlock = none ∨ kv.ownBlock ≠ lv.ownBlock) := by
              cases e1 : lv.ownBlock with
              | none => exact Or.inl rfl
              | some x =>
                cases e2 : kv.ownBlock with
                | none => exact Or.inr (Or.inl rfl)
                | some y =>
                  refine Or.inr (Or.inr ?_)
                  have h1 := HLV.out x e1
                  have h2 := HKV.out y e2
                  have h3 := HB3.out.size
                  intro e
                  cases e
                  omega
            have HB1S : Hid (w1.heap.size ≤ wr.heap.size ∧ w.heap.size ≤ w1.heap.size) := by
              have h1 := S2.out.sz
              have h2 := HB3.out.size
              have h3 := HB12.out.size
              exact ⟨by omega, HB1.out.size⟩
            have CSM : Hid (∀ v' W, W.ownsRow w1.heap.size 26 4 v' (ts.length + us2.length) (Lx.tcs (ts ++ us2)) → wr.grownBy W lv.ownBlock → Calls Tryd.prog 10 #[kv, v'] W fun e w' => e = .returned (.bool true) ∧ Below w.heap.size w w') := fun v' W h1 h2 => by
              have hk : W.ownsRow w3.heap.size 26 4 kv (ts ++ us2).length (Lx.tcs (ts ++ us2)) := by
                refine S2.out.k.kept (row := lv.ownBlock) h2 ?_
                rcases HLK.out with e | e | e
                · rw [e]
                  cases kv.ownBlock <;> simp
                · exact Or.inl e
                · exact Or.inr e
              have hb : Below w.heap.size w W := S2.out.below.trans ((Below.refl _ _).grown h2 (by have := S2.out.below.size; exact this) (fun k hk => by have := (own_lt S2.out.l k hk).1; have := HB1S.out.2; omega))
              refine Calls.mono (sameT_c (ts ++ us2) (by rw [List.length_append]; have := HN.out; omega) kv v' W (TR.of hk) (TR.of (by rw [List.length_append]; exact h1))) ?_
              rintro e w' ⟨rfl, h5⟩
              exact ⟨rfl, hb.trans (h5.mono hb.size)⟩
            have HTR : Hid (TR wr (.slice ma m mc) us2) := by
              have h := S2.out.m
              exact TR.of h
            go_upto_region 17 with fail
            go_wp2_with (first | (at_builtin; refine BigFrame.wpList_want rfl fun K hK => ?_; refine wp_append_tok _ _ rfl w1.heap.size _ _ ts rfl S2.out.l _ us2 rfl HTR.out HN.out HB1S.out.1 ?_; intro v' w5 hrow5 hgr5; refine hK _ _ ?_))
            refine Calls.mono (CSM.out _ _ hrow5 hgr5) ?_
            rintro e w6 ⟨rfl, HF⟩
            clear hrow5 hgr5
            go_wp2
            go_ret
            exact ⟨rfl, HF⟩
      · have HP := HP2.out he2
        have hq : e3 = e2 ∧ p3 = p2 + (a.length + 1) := by
          simp [Lx.join, he2] at HAQ
          exact ⟨HAQ.2.1, HAQ.2.2⟩
        obtain ⟨rfl, rfl⟩ := hq
        have q1 : ((e3 : Int) == 0) = false := by rw [beq_eq_false_iff_ne]; omega
        have q2 : ((e3 : Int) != 0) = true := by rw [bne, q1]; rfl
        have q3 : ((e3 : Int) == (e3 : Int)) = true := beq_self_eq_true _
        have hw1 := Lx.arF (p := p2) HNA.out (by have := HLT.out; omega) HP
        have HF := HBW.out
        clear HAQ HP he2
        obtain ⟨pp, hpp⟩ : ∃ pp, pp = p2 + (a.length + 1) := ⟨_, rfl⟩
        rw [← hpp] at hw1
        rw [← hpp]
        clear hpp
        go_wp2
        go_ret
        exact ⟨rfl, HF⟩
    · have q1 : ((e1 : Int) == 0) = false := by rw [beq_eq_false_iff_ne]; omega
      have q2 : ((e1 : Int) != 0) = true := by rw [bne, q1]; rfl
      have HF := HBW.out
      clear he1
      go_wp2
      go_ret
      exact ⟨rfl, HF⟩
end Go.Proofs.YtdejnphiejkglaaDoor
