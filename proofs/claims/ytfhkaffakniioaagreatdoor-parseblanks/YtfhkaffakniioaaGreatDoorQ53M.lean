/- Several texts, joined: QfM, QgM, QhM -/
import Derived.Test.YtfhkaffakniioaaGreatDoorQ52M
/- A statement that is printed is read as it was, or an expression nests too deep: plain mathematics. -/
namespace Go.Proofs.YtfhkaffakniioaaGreatDoor
namespace Ps
/-- a parser that has found no fault -/
def T (r : List Tk) (st : List Sp) : S := ⟨r, 0, false, 0, 0, 0, st⟩
section
variable {t : Tk} {r : List Tk} {st : List Sp}
theorem t_must {x : Bs} {ts : List Bs} (ht : hd [t] = some x) (hx : x ∈ ts) : must ts (T (t :: r) st) = T r st := must_of (s := T (t :: r) st) rfl rfl ht hx
theorem t_mustT {x : Bs} {ts : List Bs} (ht : hd [t] = some x) (hx : x ∈ ts) : mustT ts (T (t :: r) st) = t.text := by
  unfold mustT
  rw [is_true (s := T (t :: r) st) (t := x) ht hx, if_pos rfl]
  rfl
theorem t_name {n : Bs} {l : List Bs} (hl : l.contains n = false) : name l (T (wd n :: r) st) = T r st ∧ nameT l (T (wd n :: r) st) = n := name_of (s := T (wd n :: r) st) rfl rfl rfl hl
theorem t_name0 {n : Bs} : name [] (T (wd n :: r) st) = T r st ∧ nameT [] (T (wd n :: r) st) = n := t_name rfl
theorem t_expr {g : Seg} (hg : Good g) (h128 : g.sl.length ≤ 128) {R : List Tk} (hR : Stop B5 (hd R)) : (g.sd ≤ 16 → exprS (T (g.sk ++ R) st) = T R g.sl) ∧ (16 < g.sd → Dead (exprS (T (g.sk ++ R) st))) := by
  have key : ∀ n, 20000 ≤ n → (g.sd ≤ 16 → ors (n + 1) (T (g.sk ++ R) []) = T R g.sl) ∧ (16 < g.sd → Dead (ors (n + 1) (T (g.sk ++ R) []))) := fun n hn => by
    obtain ⟨h1, h2⟩ := hg.ors n (T (g.sk ++ R) []) R rfl ⟨rfl, rfl, Nat.zero_le _, hn⟩ hR (by show 0 + _ ≤ _; omega)
    have a0 : (T (g.sk ++ R) []).around = 0 := rfl
    rw [a0] at h1 h2
    exact ⟨fun k => h1 (by omega), fun k => h2 (by omega)⟩
  exact key 20000 (Nat.le_refl _)
end
/-- words with blanks -/
def J (l : List Bs) : Bs := l.flatMap fun w => 32 :: w
theorem join_J : ∀ (w : Bs) (l : List Bs), join [32] (w :: l) = w ++ J l
  | w, [] => by simp [join, J]
  | w, v :: r => by
    rw [join, join_J v r]
    · simp [J]
    · simp
theorem J_app (a b : List Bs) : J (a ++ b) = J a ++ J b := List.flatMap_append
theorem J_cons (w : Bs) (l : List Bs) : J (w :: l) = 32 :: (w ++ J l) := by simp [J]
section
variable {s : S}
theorem Dead.whereS (h : Dead s) : Dead (whereS s) := by
  unfold Ps.whereS
  rw [h.is, if_neg (by decide)]
  exact h
theorem Dead.fromS (h : Dead s) : Dead (fromS s) := by
  have hb : histB s = false := h.is _
  unfold Ps.fromS histS
  rw [hb, if_neg (by decide), if_neg (by decide)]
  exact h.name _
theorem Dead.orderS (h : Dead s) : Dead (orderS s) := by
  have hb : orderB s = false := h.is _
  unfold Ps.orderS
  rw [hb, if_neg (by decide)]
  exact h
theorem Dead.endS (h : Dead s) : (endS s).why = 10 := by
  unfold Ps.endS
  rw [h.rest, if_neg (by decide)]
  split
  · exact (h.fail 3).why
  · exact h.why
end
theorem read_ok {x : St} {ks : List Tk} {st : List Sp} (hr : rightX x = true) (h1 : stmtS (T ks []) = T [] st) (h2 : stmtX (T ks []) = x) : readX ks = (x, 0) := by
  have e1 : stmtS (start [] ks) = T [] st := h1
  have e2 : stmtX (start [] ks) = x := h2
  unfold readX
  have e3 : (endS (T [] st)).why = 0 := rfl
  rw [e1, e2, e3, hr, if_neg (by decide), if_pos rfl]
theorem read_dead {ks : List Tk} (h1 : Dead (stmtS (T ks []))) : readX ks = (stZero, 10) := by
  have h2 : Dead (stmtS (start [] ks)) := h1
  unfold readX
  rw [h2.endS, if_pos (by decide)]
/-- a condition -/
structure Cond (l : List Sp) (ks : List Tk) (d : Nat) : Prop where
  lex : LexC (J (condTx l)) ks
  stop : ∀ R, Stop (B5 ++ [[44]]) (hd R) → Stop (B5 ++ [[44]]) (hd (ks ++ R))
  does : ∀ R st, Stop (B5 ++ [[87, 72, 69, 82, 69]]) (hd R) → (d ≤ 16 → ∃ st', whereS (T (ks ++ R) st) = T R st' ∧ whereE (T (ks ++ R) st) = l) ∧ (16 < d → Dead (whereS (T (ks ++ R) st)))
  need : 16 < d → 9 ≤ l.length
theorem cond_ex {l : List Sp} (hi : ∀ p ∈ l, p.n ≤ 9223372036854775807) (hr : rightC l = true) : ∃ ks d, Cond l ks d := by
  by_cases h0 : l = []
  · subst h0
    refine ⟨[], 0, ⟨fun c ts _ h => h⟩, fun R h => h, fun R st hR => ⟨fun _ => ⟨st, ?_, ?_⟩, fun k => by omega⟩, fun k => by omega⟩
    · unfold whereS
      rw [is_false (s := T ([] ++ R) st) (B := B5 ++ [[87, 72, 69, 82, 69]]) hR (by decide), if_neg (by decide)]
      rfl
    · unfold whereE
      rw [is_false (s := T ([] ++ R) st) (B := B5 ++ [[87, 72, 69, 82, 69]]) hR (by decide), if_neg (by decide)]
  · have hr2 : rightE l = true := by
      rw [rightC, Bool.or_eq_true, decide_eq_true_iff] at hr
      exact hr.resolve_left h0
    have h128 : l.length ≤ 128 := by
      rw [rightE, Bool.and_eq_true, decide_eq_true_iff] at hr2
      exact hr2.1
    obtain ⟨g, g1, g2, g3⟩ := shown_good hi hr2
    refine ⟨ky [87, 72, 69, 82, 69] :: g.sk, g.sd, ⟨fun c ts hs h => ?_⟩, fun R _ => stop_ky (by decide) _, fun R st hR => ?_, fun k => by have := g1.need; rw [g2] at this; omega⟩
    · have e : J (condTx l) ++ c = 32 :: ([87, 72, 69, 82, 69] ++ 32 :: (shownE l ++ c)) := by
        rw [condTx, if_neg h0]
        simp [J]
      rw [e, ← g3]
      exact .blank (.kw (by decide) ⟨_, _, rfl, rfl⟩ rfl rfl (g1.lex.lz _ _ hs h))
    · obtain ⟨h1, h2⟩ := t_expr (st := st) g1 (by rw [g2]; exact h128) (R := R) (hR.weak fun t k => List.mem_append_left _ k)
      have i1 : is [[87, 72, 69, 82, 69]] (T (ky [87, 72, 69, 82, 69] :: g.sk ++ R) st) = true := is_true (t := [87, 72, 69, 82, 69]) rfl (by decide)
      have e1 : next (T (ky [87, 72, 69, 82, 69] :: g.sk ++ R) st) = T (g.sk ++ R) st := rfl
      unfold whereS whereE
      rw [i1, if_pos rfl, if_pos rfl, e1]
      refine ⟨fun k => ⟨g.sl, h1 k, ?_⟩, fun k => h2 k⟩
      rw [h1 k, ← g2]
      rfl
/-- items -/
abbrev IS := It × Seg
def uK (x : IS) : List Tk := wd x.1.name :: sg [61] :: x.2.sk
def sK (x : IS) : List Tk := x.2.sk ++ [ky [65, 83], wd x.1.name]
structure GoodI (x : IS) : Prop where
  name : isNm x.1.name = true
  good : Good x.2
  same : x.2.sl = x.1.expr
  len : x.1.expr.length ≤ 128
def PItm (part : S → List It → S × List It) (ks : List Tk) (d : Nat) (e e' : List It) : Prop :=
  ∀ R st, Stop B5 (hd R) → (d ≤ 16 → ∃ st', part (T (ks ++ R) st) e = (T R st', e')) ∧ (16 < d → Dead (part (T (ks ++ R) st) e).1)
theorem pi_upd {x : IS} (hx : GoodI x) {acc : List It} (hc : (acc.map It.name).contains x.1.name = false) : PItm updP (uK x) x.2.sd acc (acc ++ [x.1]) := fun R st hR => by
  obtain ⟨h1, h2⟩ := t_expr (st := st) hx.good (by rw [hx.same]; exact hx.len) hR
  have e0 : T (uK x ++ R) st = T (wd x.1.name :: (sg [61] :: (x.2.sk ++ R))) st := rfl
  obtain ⟨n1, n2⟩ := t_name (r := sg [61] :: (x.2.sk ++ R)) (st := st) hc
  have e1 : must [[61]] (T (sg [61] :: (x.2.sk ++ R)) st) = T (x.2.sk ++ R) st := t_must (x := [61]) rfl (by decide)
  unfold updP
  rw [e0, n1, n2, e1]
  refine ⟨fun k => ⟨x.2.sl, ?_⟩, fun k => h2 k⟩
  rw [h1 k]
  show (T R x.2.sl, acc ++ [It.mk x.1.name x.2.sl]) = _
  rw [hx.same]
theorem pi_sel {x : IS} (hx : GoodI x) {acc : List It} (hc : (acc.map It.name).contains x.1.name = false) : PItm selP (sK x) x.2.sd acc (acc ++ [x.1]) := fun R st _ => by
  have e0 : T (sK x ++ R) st = T (x.2.sk ++ (ky [65, 83] :: wd x.1.name :: R)) st := by
    unfold sK
    rw [List.append_assoc]
    rfl
  obtain ⟨h1, h2⟩ := t_expr (st := st) hx.good (by rw [hx.same]; exact hx.len) (R := ky [65, 83] :: wd x.1.name :: R) (stop_ky (by decide) _)
  obtain ⟨n1, n2⟩ := t_name (r := R) (st := x.2.sl) hc
  have e1 : must [[65, 83]] (T (ky [65, 83] :: wd x.1.name :: R) x.2.sl) = T (wd x.1.name :: R) x.2.sl := t_must (x := [65, 83]) rfl (by decide)
  unfold selP
  rw [e0]
  refine ⟨fun k => ⟨x.2.sl, ?_⟩, fun k => ((h2 k).must _).name _⟩
  rw [h1 k, e1, n1, n2]
  show (T R x.2.sl, acc ++ [It.mk x.1.name x.2.sl]) = _
  rw [hx.same]
theorem items_do (part : S → List It → S × List It) (K : IS → List Tk) (hp : ∀ x acc, GoodI x → (acc.map It.name).contains x.1.name = false → PItm part (K x) x.2.sd acc (acc ++ [x.1])) : ∀ (xs : List IS) (acc : List It) (N m : Nat) (R : List Tk) (st : List Sp), xs ≠ [] → (∀ x ∈ xs, GoodI x) → areNs (acc.map It.name) (xs.map fun x => x.1.name) = true → xs.length ≤ N → m + xs.length ≤ 64 → Stop (B5 ++ [[44]]) (hd R) →
    (maxD (xs.map Prod.snd) ≤ 16 → ∃ st', partsL part N m (T (commaK (xs.map K) ++ R) st) acc = (T R st', acc ++ xs.map Prod.fst, m + xs.length)) ∧ (16 < maxD (xs.map Prod.snd) → Dead (partsL part N m (T (commaK (xs.map K) ++ R) st) acc).1)
  | [], _, _, _, _, _, h, _, _, _, _, _ => absurd rfl h
  | [x], acc, N, m, R, st, _, hx, hn, hN, hm, hR => by
    rw [List.map_cons, areNs, Bool.and_eq_true, Bool.and_eq_true, Bool.not_eq_true'] at hn
    have hN1 : 1 ≤ N := hN
    have hm1 : m + 1 ≤ 64 := hm
    have e2 : maxD ([x].map Prod.snd) = x.2.sd := Nat.max_zero _
    have e3 : commaK ([x].map K) = K x := rfl
    obtain ⟨h1, h2⟩ := hp x acc (hx x (List.mem_cons_self ..)) hn.1.2 R st (hR.weak fun t k => List.mem_append_left _ k)
    rw [e2, e3]
    cases N with
    | zero => omega
    | succ N =>
      rw [partsL, open_of rfl (by omega)]
      refine ⟨fun k => ?_, fun k => ?_⟩
      · obtain ⟨st', h3⟩ := h1 k
        rw [h3]
        refine ⟨st', ?_⟩
        show (if is [[44]] (T R st') = true then _ else _) = _
        rw [is_comma B5 (s := T R st') hR, if_neg (by decide)]
        rfl
      · rw [(h2 k).is, if_neg (by decide)]
        exact h2 k
  | x :: y :: q, acc, N, m, R, st, _, hx, hn, hN, hm, hR => by
    rw [List.map_cons, areNs, Bool.and_eq_true, Bool.and_eq_true, Bool.not_eq_true'] at hn
    have hN1 : q.length + 1 + 1 ≤ N := hN
    have hm1 : m + (q.length + 1 + 1) ≤ 64 := hm
    have e3 : T (commaK ((x :: y :: q).map K) ++ R) st = T (K x ++ (sg [44] :: (commaK ((y :: q).map K) ++ R))) st := by
      rw [List.map_cons, List.map_cons, commaK]
      simp
    have e2 : maxD ((x :: y :: q).map Prod.snd) = max x.2.sd (maxD ((y :: q).map Prod.snd)) := rfl
    obtain ⟨h1, h2⟩ := hp x acc (hx x (List.mem_cons_self ..)) hn.1.2 (sg [44] :: (commaK ((y :: q).map K) ++ R)) st (stop_sg (by decide) _)
    rw [e2, e3]
    cases N with
    | zero => omega
    | succ N =>
      have ih := fun st' => items_do part K hp (y :: q) (acc ++ [x.1]) N (m + 1) R st' (by simp) (fun z k => hx z (List.mem_cons_of_mem _ k)) (by rw [List.map_append]; exact hn.2) (by show q.length + 1 ≤ N; omega) (by show m + 1 + (q.length + 1) ≤ 64; omega) hR
      rw [partsL, open_of rfl (by omega)]
      have i1 : ∀ st', is [[44]] (T (sg [44] :: (commaK ((y :: q).map K) ++ R)) st') = true := fun st' => is_true (t := [44]) rfl (by decide)
      refine ⟨fun k => ?_, fun k => ?_⟩
      · obtain ⟨st', h3⟩ := h1 (by omega)
        obtain ⟨st2, h4⟩ := (ih st').1 (by omega)
        refine ⟨st2, ?_⟩
        rw [h3]
        show (if is [[44]] (T (sg [44] :: (commaK ((y :: q).map K) ++ R)) st') = true then partsL part N (m + 1) (T (commaK ((y :: q).map K) ++ R) st') (acc ++ [x.1]) else _) = _
        rw [i1, if_pos rfl, h4, List.append_assoc]
        show (_, _, m + 1 + (q.length + 1)) = (_, _, m + (q.length + 1 + 1))
        rw [show m + 1 + (q.length + 1) = m + (q.length + 1 + 1) by omega]
        rfl
      · by_cases hda : x.2.sd ≤ 16
        · obtain ⟨st', h3⟩ := h1 hda
          rw [h3]
          show Dead (if is [[44]] (T (sg [44] :: (commaK ((y :: q).map K) ++ R)) st') = true then partsL part N (m + 1) (T (commaK ((y :: q).map K) ++ R) st') (acc ++ [x.1]) else _).1
          rw [i1, if_pos rfl]
          exact (ih st').2 (by omega)
        · have h5 := h2 (by omega)
          rw [h5.is, if_neg (by decide)]
          exact h5
/-- the items of a right statement, with their parts -/
theorem its_ex : ∀ l : List It, (∀ i ∈ l, (∀ p ∈ i.expr, p.n ≤ 9223372036854775807) ∧ rightE i.expr = true ∧ isNm i.name = true) → ∃ xs : List IS, xs.map Prod.fst = l ∧ (∀ x ∈ xs, GoodI x ∧ x.2.st = shownE x.1.expr)
  | [], _ => ⟨[], rfl, fun _ k => by cases k⟩
  | i :: r, h => by
    obtain ⟨xs, h1, h2⟩ := its_ex r (fun j k => h j (List.mem_cons_of_mem _ k))
    obtain ⟨a1, a2, a3⟩ := h i (List.mem_cons_self ..)
    obtain ⟨g, g1, g2, g3⟩ := shown_good a1 a2
    have h128 : i.expr.length ≤ 128 := by
      rw [rightE, Bool.and_eq_true, decide_eq_true_iff] at a2
      exact a2.1
    refine ⟨(i, g) :: xs, by rw [List.map_cons, h1], fun x k => ?_⟩
    rcases List.mem_cons.1 k with rfl | k
    · exact ⟨⟨a3, g1, g2, h128⟩, g3⟩
    · exact h2 x k
theorem max_item : ∀ xs : List IS, (∀ x ∈ xs, GoodI x) → 16 < maxD (xs.map Prod.snd) → ∃ i ∈ xs.map Prod.fst, 9 ≤ i.expr.length
  | [], _, h => by exact absurd h (by decide)
  | x :: r, hx, h => by
    have e : maxD ((x :: r).map Prod.snd) = max x.2.sd (maxD (r.map Prod.snd)) := rfl
    rw [e] at h
    by_cases h1 : 16 < x.2.sd
    · have h2 := (hx x (List.mem_cons_self ..)).good.need
      rw [(hx x (List.mem_cons_self ..)).same] at h2
      exact ⟨x.1, List.mem_cons_self .., by omega⟩
    · obtain ⟨i, k1, k2⟩ := max_item r (fun z k => hx z (List.mem_cons_of_mem _ k)) (by omega)
      exact ⟨i, List.mem_cons_of_mem _ k1, k2⟩
theorem lexc_upd {x : IS} (hx : GoodI x) (hs : x.2.st = shownE x.1.expr) : LexC (x.1.name ++ [32, 61, 32] ++ shownE x.1.expr) (uK x) := ⟨fun c ts hc h => by
  have e : x.1.name ++ [32, 61, 32] ++ shownE x.1.expr ++ c = x.1.name ++ (32 :: ([61] ++ 32 :: (shownE x.1.expr ++ c))) := by simp
  rw [e, ← hs]
  exact .name hx.name (sep_blank _) (.blank (Lz.op (k := 15) (by decide) (hx.good.lex.lz _ _ hc h)))⟩
theorem lexc_sel {x : IS} (hx : GoodI x) (hs : x.2.st = shownE x.1.expr) : LexC (shownE x.1.expr ++ [32, 65, 83, 32] ++ x.1.name) (sK x) := ⟨fun c ts hc h => by
  have e : shownE x.1.expr ++ [32, 65, 83, 32] ++ x.1.name ++ c = shownE x.1.expr ++ (32 :: ([65, 83] ++ 32 :: (x.1.name ++ c))) := by simp
  have e2 : sK x ++ ts = x.2.sk ++ (ky [65, 83] :: wd x.1.name :: ts) := by simp [sK]
  rw [e, e2, ← hs]
  exact hx.good.lex.lz _ _ (sep_blank _) (.blank (.kw (by decide) ⟨_, _, rfl, rfl⟩ rfl rfl (.name hx.name hc h)))⟩
theorem lexc_items (set : Bool) (xs : List IS) (hx : ∀ x ∈ xs, GoodI x ∧ x.2.st = shownE x.1.expr) : LexC (join [44, 32] (itemsTx set (xs.map Prod.fst))) (commaK (xs.map (if set then uK else sK))) := by
  have e : itemsTx set (xs.map Prod.fst) = xs.map fun x => if set then x.1.name ++ [32, 61, 32] ++ shownE x.1.expr else shownE x.1.expr ++ [32, 65, 83, 32] ++ x.1.name := by
    rw [itemsTx, List.map_map]
    rfl
  rw [e]
  cases set with
  | true => exact lexc_join (fun x : IS => x.1.name ++ [32, 61, 32] ++ shownE x.1.expr) uK xs fun x k => lexc_upd (hx x k).1 (hx x k).2
  | false => exact lexc_join (fun x : IS => shownE x.1.expr ++ [32, 65, 83, 32] ++ x.1.name) sK xs fun x k => lexc_sel (hx x k).1 (hx x k).2
end Ps
end Go.Proofs.YtfhkaffakniioaaGreatDoor
/- A right statement's text is read as the statement, or an expression nests too deep: plain mathematics. -/
namespace Go.Proofs.YtfhkaffakniioaaGreatDoor
namespace Ps
theorem stmt_at {k : Bs} {r : List Tk} (hk : k ∈ stmtK) : mustT stmtK (T (ky k :: r) []) = k ∧ must stmtK (T (ky k :: r) []) = T r [] := ⟨t_mustT (x := k) rfl hk, t_must (x := k) rfl hk⟩
theorem sep_J : ∀ l : List Bs, Sep (J l)
  | [] => sep_nil
  | w :: l => by rw [J_cons]; exact sep_blank _
theorem commaK_len : ∀ l : List (List Tk), l.length ≤ (commaK l).length + 1
  | [] => Nat.zero_le _
  | [x] => by simp
  | x :: y :: r => by
    have := commaK_len (y :: r)
    have e : (sg [44] :: commaK (y :: r)).length = (commaK (y :: r)).length + 1 := rfl
    have e2 : (x :: y :: r).length = (y :: r).length + 1 := rfl
    rw [commaK, List.length_append, e, e2]
    omega
/-- what the parser comes to, of a statement and its tokens -/
structure RP (x : St) (ks : List Tk) (d : Nat) : Prop where
  lex : Lz (printX x) ks
  ok : d ≤ 16 → readX ks = (x, 0)
  deep : 16 < d → readX ks = (stZero, 10)
  need : 16 < d → 9 ≤ x.expr.length ∨ ∃ i ∈ x.items, 9 ≤ i.expr.length
def Fits0 (x : St) : Prop := (∀ p ∈ x.expr, p.n ≤ 9223372036854775807) ∧ ∀ i ∈ x.items, ∀ p ∈ i.expr, p.n ≤ 9223372036854775807
section
variable {t f : Bs} {its : List It} {e : List Sp} {h d : Bool}
theorem rp1 (hr : rightX ⟨1, t, f, its, e, h, d⟩ = true) : ∃ ks n, RP ⟨1, t, f, its, e, h, d⟩ ks n := by
  have hr0 := hr
  unfold rightX at hr0
  simp only [Bool.and_eq_true, Bool.or_eq_true, Bool.not_eq_true', decide_eq_true_iff, if_pos] at hr0
  obtain ⟨⟨hn, h2⟩, ⟨rfl, rfl⟩, rfl⟩ := hr0
  obtain ⟨rfl, rfl⟩ := h2.resolve_left (by decide)
  refine ⟨[ky [67, 82, 69, 65, 84, 69], ky [84, 65, 66, 76, 69], wd t], 0, ?_, fun _ => ?_, fun k => by omega, fun k => by omega⟩
  · have et : printX ⟨1, t, [], [], [], false, false⟩ = [67, 82, 69, 65, 84, 69] ++ 32 :: ([84, 65, 66, 76, 69] ++ 32 :: (t ++ [])) := by
      rw [printX, if_pos hr]
      simp [wordsTx, join]
    rw [et]
    exact .kw (by decide) ⟨_, _, rfl, rfl⟩ rfl rfl (.kw (by decide) ⟨_, _, rfl, rfl⟩ rfl rfl (.name hn sep_nil .nil))
  · obtain ⟨a1, a2⟩ := stmt_at (k := [67, 82, 69, 65, 84, 69]) (r := [ky [84, 65, 66, 76, 69], wd t]) (by decide)
    have b1 : mustT createK (T [ky [84, 65, 66, 76, 69], wd t] []) = [84, 65, 66, 76, 69] := t_mustT (x := [84, 65, 66, 76, 69]) rfl (by decide)
    have b2 : must createK (T [ky [84, 65, 66, 76, 69], wd t] []) = T [wd t] [] := t_must (x := [84, 65, 66, 76, 69]) rfl (by decide)
    refine read_ok (st := []) hr ?_ ?_
    · unfold stmtS
      rw [a1, a2, if_pos rfl]
      unfold createS
      rw [b1, b2, if_pos rfl, t_name0.1]
    · unfold stmtX
      rw [a1, a2, if_pos rfl]
      unfold createX
      rw [b1, b2, if_pos rfl, t_name0.2]
theorem rp2 (hr : rightX ⟨2, t, f, its, e, h, d⟩ = true) : ∃ ks n, RP ⟨2, t, f, its, e, h, d⟩ ks n := by
  have hr0 := hr
  unfold rightX at hr0
  dsimp only at hr0
  rw [if_neg (by decide), if_pos rfl] at hr0
  simp only [Bool.and_eq_true, Bool.or_eq_true, Bool.not_eq_true', decide_eq_true_iff] at hr0
  obtain ⟨⟨hn, h2⟩, ⟨hf, rfl⟩, rfl⟩ := hr0
  obtain ⟨rfl, rfl⟩ := h2.resolve_left (by decide)
  refine ⟨[ky [67, 82, 69, 65, 84, 69], ky [73, 78, 68, 69, 88], ky [79, 78], wd t, sg [40], wd f, sg [41]], 0, ?_, fun _ => ?_, fun k => by omega, fun k => by omega⟩
  · have et : printX ⟨2, t, f, [], [], false, false⟩ = [67, 82, 69, 65, 84, 69] ++ 32 :: ([73, 78, 68, 69, 88] ++ 32 :: ([79, 78] ++ 32 :: (t ++ (32 :: 40 :: (f ++ [41]))))) := by
      rw [printX, if_pos hr]
      simp [wordsTx, join]
    rw [et]
    exact .kw (by decide) ⟨_, _, rfl, rfl⟩ rfl rfl (.kw (by decide) ⟨_, _, rfl, rfl⟩ rfl rfl (.kw (by decide) ⟨_, _, rfl, rfl⟩ rfl rfl (.name hn (sep_blank _) (.blank (.open (.name hf (sep_close _) (.close .nil)))))))
  · obtain ⟨a1, a2⟩ := stmt_at (k := [67, 82, 69, 65, 84, 69]) (r := [ky [73, 78, 68, 69, 88], ky [79, 78], wd t, sg [40], wd f, sg [41]]) (by decide)
    have b1 : mustT createK (T [ky [73, 78, 68, 69, 88], ky [79, 78], wd t, sg [40], wd f, sg [41]] []) = [73, 78, 68, 69, 88] := t_mustT (x := [73, 78, 68, 69, 88]) rfl (by decide)
    have b2 : must createK (T [ky [73, 78, 68, 69, 88], ky [79, 78], wd t, sg [40], wd f, sg [41]] []) = T [ky [79, 78], wd t, sg [40], wd f, sg [41]] [] := t_must (x := [73, 78, 68, 69, 88]) rfl (by decide)
    have b3 : must [[79, 78]] (T [ky [79, 78], wd t, sg [40], wd f, sg [41]] []) = T [wd t, sg [40], wd f, sg [41]] [] := t_must (x := [79, 78]) rfl (by decide)
    have b4 : must [[40]] (T [sg [40], wd f, sg [41]] []) = T [wd f, sg [41]] [] := t_must (x := [40]) rfl (by decide)
    have b5 : must [[41]] (T [sg [41]] []) = T [] [] := t_must (x := [41]) rfl (by decide)
    refine read_ok (st := []) hr ?_ ?_
    · unfold stmtS
      rw [a1, a2, if_pos rfl]
      unfold createS
      rw [b1, b2, if_neg (by decide), b3, t_name0.1, b4, t_name0.1, b5]
    · unfold stmtX
      rw [a1, a2, if_pos rfl]
      unfold createX
      rw [b1, b2, if_neg (by decide), b3, t_name0.1, t_name0.2, b4, t_name0.2]
theorem rp3 (hi : ∀ p ∈ e, p.n ≤ 9223372036854775807) (hr : rightX ⟨3, t, f, its, e, h, d⟩ = true) : ∃ ks n, RP ⟨3, t, f, its, e, h, d⟩ ks n := by
  have hr0 := hr
  unfold rightX at hr0
  dsimp only at hr0
  rw [if_neg (by decide), if_neg (by decide), if_pos rfl] at hr0
  simp only [Bool.and_eq_true, Bool.or_eq_true, Bool.not_eq_true', decide_eq_true_iff] at hr0
  obtain ⟨⟨hn, h2⟩, ⟨⟨rfl, rfl⟩, he⟩, hc⟩ := hr0
  obtain ⟨rfl, rfl⟩ := h2.resolve_left (by decide)
  obtain ⟨g, g1, g2, g3⟩ := shown_good hi he
  have h128 : e.length ≤ 128 := by
    rw [rightE, Bool.and_eq_true, decide_eq_true_iff] at he
    exact he.1
  obtain ⟨a1, a2⟩ := stmt_at (k := [73, 78, 83, 69, 82, 84]) (r := ky [73, 78, 84, 79] :: wd t :: (g.sk ++ [])) (by decide)
  have b1 : must [[73, 78, 84, 79]] (T (ky [73, 78, 84, 79] :: wd t :: (g.sk ++ [])) []) = T (wd t :: (g.sk ++ [])) [] := t_must (x := [73, 78, 84, 79]) rfl (by decide)
  obtain ⟨c1, c2⟩ := t_expr (st := []) g1 (by rw [g2]; exact h128) (R := []) (fun u k _ => by cases k)
  have es : stmtS (T (ky [73, 78, 83, 69, 82, 84] :: ky [73, 78, 84, 79] :: wd t :: (g.sk ++ [])) []) = exprS (T (g.sk ++ []) []) := by
    unfold stmtS
    rw [a1, a2, if_neg (by decide), if_pos rfl]
    unfold insertS
    rw [b1, t_name0.1]
  refine ⟨ky [73, 78, 83, 69, 82, 84] :: ky [73, 78, 84, 79] :: wd t :: (g.sk ++ []), g.sd, ?_, fun k => ?_, fun k => read_dead (by rw [es]; exact c2 k), fun k => ?_⟩
  · have et : printX ⟨3, t, [], [], e, false, false⟩ = [73, 78, 83, 69, 82, 84] ++ 32 :: ([73, 78, 84, 79] ++ 32 :: (t ++ (32 :: (shownE e ++ [])))) := by
      rw [printX, if_pos hr]
      simp [wordsTx, join]
    rw [et, ← g3]
    exact .kw (by decide) ⟨_, _, rfl, rfl⟩ rfl rfl (.kw (by decide) ⟨_, _, rfl, rfl⟩ rfl rfl (.name hn (sep_blank _) (.blank (g1.lex.lz _ _ sep_nil .nil))))
  · refine read_ok (st := g.sl) hr (by rw [es, c1 k]) ?_
    unfold stmtX
    rw [a1, a2, if_neg (by decide), if_pos rfl]
    unfold insertX insertS
    rw [b1, t_name0.1, t_name0.2, c1 k, ← g2]
    rfl
  · have := g1.need
    rw [g2] at this
    exact .inl (by show 9 ≤ e.length; omega)
theorem rp5 (hi : ∀ p ∈ e, p.n ≤ 9223372036854775807) (hr : rightX ⟨5, t, f, its, e, h, d⟩ = true) : ∃ ks n, RP ⟨5, t, f, its, e, h, d⟩ ks n := by
  have hr0 := hr
  unfold rightX at hr0
  dsimp only at hr0
  rw [if_neg (by decide), if_neg (by decide), if_neg (by decide), if_neg (by decide), if_pos rfl] at hr0
  simp only [Bool.and_eq_true, Bool.or_eq_true, Bool.not_eq_true', decide_eq_true_iff] at hr0
  obtain ⟨⟨hn, h2⟩, ⟨rfl, rfl⟩, he⟩ := hr0
  obtain ⟨rfl, rfl⟩ := h2.resolve_left (by decide)
  obtain ⟨kc, n, hc⟩ := cond_ex hi he
  obtain ⟨a1, a2⟩ := stmt_at (k := [68, 69, 76, 69, 84, 69]) (r := ky [70, 82, 79, 77] :: wd t :: (kc ++ [])) (by decide)
  have b1 : must [[70, 82, 79, 77]] (T (ky [70, 82, 79, 77] :: wd t :: (kc ++ [])) []) = T (wd t :: (kc ++ [])) [] := t_must (x := [70, 82, 79, 77]) rfl (by decide)
  obtain ⟨c1, c2⟩ := hc.does [] [] (fun u k _ => by cases k)
  have es : stmtS (T (ky [68, 69, 76, 69, 84, 69] :: ky [70, 82, 79, 77] :: wd t :: (kc ++ [])) []) = whereS (T (kc ++ []) []) := by
    unfold stmtS
    rw [a1, a2, if_neg (by decide), if_neg (by decide), if_neg (by decide), if_pos rfl]
    unfold deleteS
    rw [b1, t_name0.1]
  refine ⟨ky [68, 69, 76, 69, 84, 69] :: ky [70, 82, 79, 77] :: wd t :: (kc ++ []), n, ?_, fun k => ?_, fun k => read_dead (by rw [es]; exact c2 k), fun k => .inl (hc.need k)⟩
  · have et : printX ⟨5, t, [], [], e, false, false⟩ = [68, 69, 76, 69, 84, 69] ++ 32 :: ([70, 82, 79, 77] ++ 32 :: (t ++ (J (condTx e) ++ []))) := by
      rw [printX, if_pos hr]
      show join [32] ([68, 69, 76, 69, 84, 69, 32, 70, 82, 79, 77] :: (t :: condTx e)) = _
      rw [join_J, J_cons, List.append_nil]
      rfl
    rw [et]
    exact .kw (by decide) ⟨_, _, rfl, rfl⟩ rfl rfl (.kw (by decide) ⟨_, _, rfl, rfl⟩ rfl rfl (.name hn (by rw [List.append_nil]; exact sep_J _) (hc.lex.lz _ _ sep_nil .nil)))
  · obtain ⟨st, d1, d2⟩ := c1 k
    refine read_ok (st := st) hr (by rw [es, d1]) ?_
    unfold stmtX
    rw [a1, a2, if_neg (by decide), if_neg (by decide), if_neg (by decide), if_pos rfl]
    unfold deleteX
    rw [b1, t_name0.1, t_name0.2, d2]
/-- the items of a statement -/
theorem items_ex (hi : ∀ i ∈ its, ∀ p ∈ i.expr, p.n ≤ 9223372036854775807) (hr : rightIts its = true) : ∃ xs : List IS, xs.map Prod.fst = its ∧ (∀ x ∈ xs, GoodI x ∧ x.2.st = shownE x.1.expr) ∧ areNs [] (xs.map fun x => x.1.name) = true ∧ xs.length ≤ 64 := by
  rw [rightIts, Bool.and_eq_true, Bool.and_eq_true, decide_eq_true_iff, List.all_eq_true] at hr
  obtain ⟨⟨h1, h2⟩, h3⟩ := hr
  obtain ⟨xs, k1, k2⟩ := its_ex its (fun i hm => ⟨hi i hm, h2 i hm, areNs_nm _ _ h3 _ (List.mem_map_of_mem hm)⟩)
  refine ⟨xs, k1, k2, ?_, by rw [← k1, List.length_map] at h1; exact h1⟩
  rw [← k1, List.map_map] at h3
  exact h3
theorem rp4 (hi : (∀ p ∈ e, p.n ≤ 9223372036854775807) ∧ ∀ i ∈ its, ∀ p ∈ i.expr, p.n ≤ 9223372036854775807) (hr : rightX ⟨4, t, f, its, e, h, d⟩ = true) : ∃ ks n, RP ⟨4, t, f, its, e, h, d⟩ ks n := by
  have hr0 := hr
  unfold rightX at hr0
  dsimp only at hr0
  rw [if_neg (by decide), if_neg (by decide), if_neg (by decide), if_pos rfl] at hr0
  simp only [Bool.and_eq_true, Bool.or_eq_true, Bool.not_eq_true', decide_eq_true_iff, decide_eq_false_iff_not] at hr0
  obtain ⟨⟨hn, h2⟩, ⟨⟨rfl, h0⟩, hits⟩, he⟩ := hr0
  obtain ⟨rfl, rfl⟩ := h2.resolve_left (by decide)
  obtain ⟨kc, n, hc⟩ := cond_ex hi.1 he
  obtain ⟨xs, k1, k2, k3, k4⟩ := items_ex hi.2 hits
  have hx0 : xs ≠ [] := by rintro rfl; exact h0 (by rw [← k1]; rfl)
  obtain ⟨ik, hik⟩ : ∃ ik, ik = commaK (xs.map uK) := ⟨_, rfl⟩
  obtain ⟨a1, a2⟩ := stmt_at (k := [85, 80, 68, 65, 84, 69]) (r := wd t :: ky [83, 69, 84] :: (ik ++ (kc ++ []))) (by decide)
  have b1 : must [[83, 69, 84]] (T (ky [83, 69, 84] :: (ik ++ (kc ++ []))) []) = T (ik ++ (kc ++ [])) [] := t_must (x := [83, 69, 84]) rfl (by decide)
  have hN : xs.length ≤ (T (ik ++ (kc ++ [])) []).rest.length + 1 := by
    have := commaK_len (xs.map uK)
    rw [List.length_map, ← hik] at this
    show xs.length ≤ (ik ++ (kc ++ [])).length + 1
    rw [List.length_append]
    omega
  obtain ⟨d1, d2⟩ := items_do updP uK (fun x acc hx hcn => pi_upd hx hcn) xs [] _ 0 (kc ++ []) [] hx0 (fun x k => (k2 x k).1) k3 hN (by omega) (hc.stop [] (fun u k _ => by cases k))
  rw [← hik, k1, List.nil_append] at d1
  rw [← hik] at d2
  have eu : updateR (T (wd t :: ky [83, 69, 84] :: (ik ++ (kc ++ []))) []) = partsL updP ((T (ik ++ (kc ++ [])) []).rest.length + 1) 0 (T (ik ++ (kc ++ [])) []) [] := by
    unfold updateR
    rw [t_name0.1, b1]
    rfl
  have es : stmtS (T (ky [85, 80, 68, 65, 84, 69] :: wd t :: ky [83, 69, 84] :: (ik ++ (kc ++ []))) []) = whereS (partsL updP ((T (ik ++ (kc ++ [])) []).rest.length + 1) 0 (T (ik ++ (kc ++ [])) []) []).1 := by
    unfold stmtS
    rw [a1, a2, if_neg (by decide), if_neg (by decide), if_pos rfl]
    unfold updateS
    rw [eu]
  refine ⟨ky [85, 80, 68, 65, 84, 69] :: wd t :: ky [83, 69, 84] :: (ik ++ (kc ++ [])), max (maxD (xs.map Prod.snd)) n, ?_, fun k => ?_, fun k => read_dead ?_, fun k => ?_⟩
  · have et : printX ⟨4, t, [], its, e, false, false⟩ = [85, 80, 68, 65, 84, 69] ++ 32 :: (t ++ (32 :: ([83, 69, 84] ++ 32 :: (join [44, 32] (itemsTx true its) ++ (J (condTx e) ++ []))))) := by
      rw [printX, if_pos hr]
      show join [32] ([85, 80, 68, 65, 84, 69] :: (t :: [83, 69, 84] :: join [44, 32] (itemsTx true its) :: condTx e)) = _
      rw [join_J, J_cons, J_cons, J_cons, List.append_nil]
    have hl := lexc_items true xs k2
    rw [if_pos rfl, k1, ← hik] at hl
    rw [et]
    exact .kw (by decide) ⟨_, _, rfl, rfl⟩ rfl rfl (.name hn (sep_blank _) (.blank (.kw (by decide) ⟨_, _, rfl, rfl⟩ rfl rfl (hl.lz _ _ (by rw [List.append_nil]; exact sep_J _) (hc.lex.lz _ _ sep_nil .nil)))))
  · obtain ⟨st, e1⟩ := d1 (by omega)
    obtain ⟨c1, _⟩ := hc.does [] st (fun u k _ => by cases k)
    obtain ⟨st2, e2, e3⟩ := c1 (by omega)
    refine read_ok (st := st2) hr (by rw [es, e1, e2]) ?_
    unfold stmtX
    rw [a1, a2, if_neg (by decide), if_neg (by decide), if_pos rfl]
    unfold updateX
    rw [t_name0.2, eu, e1]
    show St.mk 4 t [] its (whereE (T (kc ++ []) st)) false false = _
    rw [e3]
  · rw [es]
    by_cases hm : maxD (xs.map Prod.snd) ≤ 16
    · obtain ⟨st, e1⟩ := d1 hm
      rw [e1]
      exact (hc.does [] st (fun u k _ => by cases k)).2 (by omega)
    · exact (d2 (by omega)).whereS
  · by_cases hm : maxD (xs.map Prod.snd) ≤ 16
    · exact .inl (hc.need (by omega))
    · have := max_item xs (fun x k => (k2 x k).1) (by omega)
      rw [k1] at this
      exact .inr this
end
/-- an order -/
def oK (f : Bs) (d : Bool) : List Tk := if f = [] then [] else ky [79, 82, 68, 69, 82] :: ky [66, 89] :: wd f :: (if d then [ky [68, 69, 83, 67]] else [])
theorem order_lex {x : St} (hf : isNm x.field = true ∨ x.field = []) : LexC (J (orderTx x)) (oK x.field x.desc) := by
  obtain ⟨k, t, f, its, e, h, d⟩ := x
  unfold orderTx oK
  simp only at hf ⊢
  by_cases h0 : f = []
  · rw [if_pos h0, if_pos h0]
    exact ⟨fun _ _ _ h => h⟩
  · have hn := hf.resolve_right h0
    rw [if_neg h0, if_neg h0]
    refine ⟨fun c ts hs hz => ?_⟩
    cases d with
    | true =>
      have e1 : J (if true = true then [[79, 82, 68, 69, 82, 32, 66, 89], f, [68, 69, 83, 67]] else [[79, 82, 68, 69, 82, 32, 66, 89], f]) ++ c = 32 :: ([79, 82, 68, 69, 82] ++ 32 :: ([66, 89] ++ 32 :: (f ++ (32 :: ([68, 69, 83, 67] ++ c))))) := by
        rw [if_pos rfl]
        simp [J]
      rw [e1]
      exact .blank (.kw (by decide) ⟨_, _, rfl, rfl⟩ rfl rfl (.kw (by decide) ⟨_, _, rfl, rfl⟩ rfl rfl (.name hn (sep_blank _) (.blank ((lexc_key (t := [68, 69, 83, 67]) (by decide) ⟨_, _, rfl, rfl⟩ rfl rfl).lz _ _ hs hz)))))
    | false =>
      have e1 : J (if false = true then [[79, 82, 68, 69, 82, 32, 66, 89], f, [68, 69, 83, 67]] else [[79, 82, 68, 69, 82, 32, 66, 89], f]) ++ c = 32 :: ([79, 82, 68, 69, 82] ++ 32 :: ([66, 89] ++ 32 :: (f ++ c))) := by
        rw [if_neg (by decide)]
        simp [J]
      rw [e1]
      exact .blank (.kw (by decide) ⟨_, _, rfl, rfl⟩ rfl rfl (.kw (by decide) ⟨_, _, rfl, rfl⟩ rfl rfl (.name hn hs hz)))
theorem order_does (f : Bs) (d : Bool) (hd0 : f = [] → d = false) (st : List Sp) : orderS (T (oK f d) st) = T [] st ∧ (if orderB (T (oK f d) st) then nameT [] (byS (T (oK f d) st)) else []) = f ∧ (if orderB (T (oK f d) st) then descB (T (oK f d) st) else false) = d := by
  unfold oK
  by_cases h0 : f = []
  · subst h0
    obtain rfl := hd0 rfl
    exact ⟨rfl, rfl, rfl⟩
  · rw [if_neg h0]
    obtain ⟨q, hq⟩ : ∃ q, q = (if d = true then [ky [68, 69, 83, 67]] else []) := ⟨_, rfl⟩
    rw [← hq]
    have i1 : orderB (T (ky [79, 82, 68, 69, 82] :: ky [66, 89] :: wd f :: q) st) = true := is_true (t := [79, 82, 68, 69, 82]) rfl (by decide)
    have e1 : next (T (ky [79, 82, 68, 69, 82] :: ky [66, 89] :: wd f :: q) st) = T (ky [66, 89] :: wd f :: q) st := rfl
    have e2 : byS (T (ky [79, 82, 68, 69, 82] :: ky [66, 89] :: wd f :: q) st) = T (wd f :: q) st := by
      unfold byS
      rw [e1]
      exact t_must (x := [66, 89]) rfl (by decide)
    rw [i1, if_pos rfl, if_pos rfl, e2]
    unfold orderS descB
    rw [i1, if_pos rfl, e2, t_name0.1, t_name0.2]
    refine ⟨?_, rfl, ?_⟩
    · cases d with
      | true => rw [hq]; rfl
      | false => rw [hq]; rfl
    · cases d with
      | true => rw [hq]; rfl
      | false => rw [hq]; rfl
def aK (t : Bs) (h : Bool) : List Tk := if h then [ky [72, 73, 83, 84, 79, 82, 89], sg [40], wd t, sg [41]] else [wd t]
theorem from_does (t : Bs) (h : Bool) (R : List Tk) (st : List Sp) : fromS (T (aK t h ++ R) st) = T R st ∧ histB (T (aK t h ++ R) st) = h ∧ nameT [] (histS (T (aK t h ++ R) st)) = t := by
  cases h with
  | true =>
    have e0 : T (aK t true ++ R) st = T (ky [72, 73, 83, 84, 79, 82, 89] :: sg [40] :: wd t :: sg [41] :: R) st := rfl
    have i1 : histB (T (ky [72, 73, 83, 84, 79, 82, 89] :: sg [40] :: wd t :: sg [41] :: R) st) = true := is_true (t := [72, 73, 83, 84, 79, 82, 89]) rfl (by decide)
    have e1 : next (T (ky [72, 73, 83, 84, 79, 82, 89] :: sg [40] :: wd t :: sg [41] :: R) st) = T (sg [40] :: wd t :: sg [41] :: R) st := rfl
    have e2 : must [[40]] (T (sg [40] :: wd t :: sg [41] :: R) st) = T (wd t :: sg [41] :: R) st := t_must (x := [40]) rfl (by decide)
    have e3 : must [[41]] (T (sg [41] :: R) st) = T R st := t_must (x := [41]) rfl (by decide)
    have e4 : histS (T (ky [72, 73, 83, 84, 79, 82, 89] :: sg [40] :: wd t :: sg [41] :: R) st) = T (wd t :: sg [41] :: R) st := by
      unfold histS
      rw [i1, if_pos rfl, e1, e2]
    rw [e0, e4, i1, t_name0.2]
    refine ⟨?_, rfl, rfl⟩
    unfold fromS
    rw [i1, if_pos rfl, e4, t_name0.1, e3]
  | false =>
    have e0 : T (aK t false ++ R) st = T (wd t :: R) st := rfl
    have i1 : histB (T (wd t :: R) st) = false := is_false (B := [[72, 73, 83, 84, 79, 82, 89]]) (stop_none (t := wd t) (.inl rfl) R) (fun _ k => k)
    have e4 : histS (T (wd t :: R) st) = T (wd t :: R) st := by
      unfold histS
      rw [i1, if_neg (by decide)]
    rw [e0, e4, i1, t_name0.2]
    refine ⟨?_, rfl, rfl⟩
    unfold fromS
    rw [i1, if_neg (by decide), e4, t_name0.1]
end Ps
end Go.Proofs.YtfhkaffakniioaaGreatDoor
/- What is printed is read; what blanks and brackets matter: plain mathematics. -/
namespace Go.Proofs.YtfhkaffakniioaaGreatDoor
namespace Ps
/-- what is selected, as tokens -/
def wK (xs : List IS) : List Tk := if xs = [] then [sg [42]] else commaK (xs.map sK)
theorem what_lex (xs : List IS) (hx : ∀ x ∈ xs, GoodI x ∧ x.2.st = shownE x.1.expr) : LexC (whatTx (xs.map Prod.fst)) (wK xs) := by
  unfold whatTx wK
  by_cases h0 : xs = []
  · subst h0
    rw [if_pos rfl, if_pos (show List.map Prod.fst ([] : List IS) = [] from rfl)]
    exact ⟨fun c ts _ h => .sign (by decide) (by decide) rfl rfl rfl (by decide) h⟩
  · rw [if_neg (by simpa using h0), if_neg h0]
    have := lexc_items false xs hx
    rw [if_neg (by decide)] at this
    exact this
theorem what_does (xs : List IS) (hx : ∀ x ∈ xs, GoodI x) (hn : areNs [] (xs.map fun x => x.1.name) = true) (h64 : xs.length ≤ 64) (R : List Tk) : (maxD (xs.map Prod.snd) ≤ 16 → ∃ st, itemsS (T (wK xs ++ ky [70, 82, 79, 77] :: R) []) = T (ky [70, 82, 79, 77] :: R) st ∧ itemsX (T (wK xs ++ ky [70, 82, 79, 77] :: R) []) = xs.map Prod.fst) ∧ (16 < maxD (xs.map Prod.snd) → Dead (itemsS (T (wK xs ++ ky [70, 82, 79, 77] :: R) []))) := by
  unfold wK
  by_cases h0 : xs = []
  · subst h0
    rw [if_pos rfl]
    have i1 : is [[42]] (T ([sg [42]] ++ ky [70, 82, 79, 77] :: R) []) = true := is_true (t := [42]) rfl (by decide)
    unfold itemsS itemsX
    rw [i1, if_pos rfl, if_pos rfl]
    exact ⟨fun _ => ⟨[], rfl, rfl⟩, fun k => absurd k (by decide)⟩
  · rw [if_neg h0]
    have hh : Head H0 (commaK (xs.map sK)) := commaK_head _ (by simpa using h0) (fun k hk => by
      obtain ⟨x, h1, rfl⟩ := List.mem_map.1 hk
      exact (hx x h1).good.head.app _)
    have i1 : is [[42]] (T (commaK (xs.map sK) ++ ky [70, 82, 79, 77] :: R) []) = false := hh.no (s := T (commaK (xs.map sK) ++ ky [70, 82, 79, 77] :: R) []) rfl (by decide)
    have hN : xs.length ≤ (T (commaK (xs.map sK) ++ ky [70, 82, 79, 77] :: R) []).rest.length + 1 := by
      have := commaK_len (xs.map sK)
      rw [List.length_map] at this
      show xs.length ≤ (commaK (xs.map sK) ++ ky [70, 82, 79, 77] :: R).length + 1
      rw [List.length_append]
      omega
    obtain ⟨d1, d2⟩ := items_do selP sK (fun x acc hx hcn => pi_sel hx hcn) xs [] _ 0 (ky [70, 82, 79, 77] :: R) [] h0 hx hn hN (by omega) (stop_ky (by decide) _)
    unfold itemsS itemsX parts
    rw [i1, if_neg (by decide), if_neg (by decide)]
    refine ⟨fun k => ?_, fun k => d2 k⟩
    obtain ⟨st, e1⟩ := d1 k
    rw [e1]
    exact ⟨st, rfl, rfl⟩
section
variable {t f : Bs} {its : List It} {e : List Sp} {h d : Bool}
theorem oK_stop (f : Bs) (d : Bool) (B : List Bs) (hB : [79, 82, 68, 69, 82] ∉ B) : Stop B (hd (oK f d)) := by
  unfold oK
  by_cases h0 : f = []
  · rw [if_pos h0]
    exact fun u k _ => by cases k
  · rw [if_neg h0]
    exact stop_ky hB _
theorem rp6 (hi : (∀ p ∈ e, p.n ≤ 9223372036854775807) ∧ ∀ i ∈ its, ∀ p ∈ i.expr, p.n ≤ 9223372036854775807) (hr : rightX ⟨6, t, f, its, e, h, d⟩ = true) : ∃ ks n, RP ⟨6, t, f, its, e, h, d⟩ ks n := by
  have hr0 := hr
  unfold rightX at hr0
  dsimp only at hr0
  rw [if_neg (by decide), if_neg (by decide), if_neg (by decide), if_neg (by decide), if_neg (by decide), if_pos rfl] at hr0
  simp only [Bool.and_eq_true, Bool.or_eq_true, Bool.not_eq_true', decide_eq_true_iff] at hr0
  obtain ⟨⟨hn, _⟩, ⟨hf, hits⟩, he⟩ := hr0
  have hf1 : isNm f = true ∨ f = [] := hf.imp_right (fun k => k.1)
  have hd0 : f = [] → d = false := fun k => by
    rcases hf with h1 | h1
    · subst k
      obtain ⟨x, r, e0, _⟩ := nm_word h1
      cases e0
    · exact h1.2
  obtain ⟨kc, n, hc⟩ := cond_ex hi.1 he
  obtain ⟨xs, k1, k2, k3, k4⟩ := items_ex hi.2 hits
  have hx : ∀ x ∈ xs, GoodI x := fun x k => (k2 x k).1
  obtain ⟨a1, a2⟩ := stmt_at (k := [83, 69, 76, 69, 67, 84]) (r := wK xs ++ ky [70, 82, 79, 77] :: (aK t h ++ (kc ++ oK f d))) (by decide)
  obtain ⟨w1, w2⟩ := what_does xs hx k3 k4 (aK t h ++ (kc ++ oK f d))
  have hso : Stop (B5 ++ [[87, 72, 69, 82, 69]]) (hd (oK f d)) := oK_stop f d _ (by decide)
  have es : stmtS (T (ky [83, 69, 76, 69, 67, 84] :: (wK xs ++ ky [70, 82, 79, 77] :: (aK t h ++ (kc ++ oK f d)))) []) = selectS (T (wK xs ++ ky [70, 82, 79, 77] :: (aK t h ++ (kc ++ oK f d))) []) := by
    unfold stmtS
    rw [a1, a2, if_neg (by decide), if_neg (by decide), if_neg (by decide), if_neg (by decide), if_pos rfl]
  have ea : ∀ st, must [[70, 82, 79, 77]] (T (ky [70, 82, 79, 77] :: (aK t h ++ (kc ++ oK f d))) st) = T (aK t h ++ (kc ++ oK f d)) st := fun st => t_must (x := [70, 82, 79, 77]) rfl (by decide)
  refine ⟨ky [83, 69, 76, 69, 67, 84] :: (wK xs ++ ky [70, 82, 79, 77] :: (aK t h ++ (kc ++ oK f d))), max (maxD (xs.map Prod.snd)) n, ?_, fun k => ?_, fun k => read_dead ?_, fun k => ?_⟩
  · have hl := what_lex xs k2
    rw [k1] at hl
    have hlo : LexC (J (orderTx ⟨6, t, f, its, e, h, d⟩)) (oK f d) := order_lex (x := ⟨6, t, f, its, e, h, d⟩) hf1
    have hz : Lz (J (condTx e) ++ (J (orderTx ⟨6, t, f, its, e, h, d⟩) ++ [])) (kc ++ (oK f d ++ [])) := hc.lex.lz _ _ (by rw [List.append_nil]; exact sep_J _) (hlo.lz _ _ sep_nil .nil)
    have hs : Sep (J (condTx e) ++ (J (orderTx ⟨6, t, f, its, e, h, d⟩) ++ [])) := by rw [List.append_nil, ← J_app]; exact sep_J _
    have hza : Lz (fromTx ⟨6, t, f, its, e, h, d⟩ ++ (J (condTx e) ++ (J (orderTx ⟨6, t, f, its, e, h, d⟩) ++ []))) (aK t h ++ (kc ++ (oK f d ++ []))) := by
      cases h with
      | false => exact .name hn hs hz
      | true =>
        have e1 : fromTx ⟨6, t, f, its, e, true, d⟩ ++ (J (condTx e) ++ (J (orderTx ⟨6, t, f, its, e, true, d⟩) ++ [])) = [72, 73, 83, 84, 79, 82, 89] ++ (40 :: (t ++ (41 :: (J (condTx e) ++ (J (orderTx ⟨6, t, f, its, e, true, d⟩) ++ []))))) := by
          rw [fromTx, if_pos rfl]
          simp
        rw [e1]
        exact (lexc_key (t := [72, 73, 83, 84, 79, 82, 89]) (by decide) ⟨_, _, rfl, rfl⟩ rfl rfl).lz _ _ (sep_cons rfl (by decide)) (.open (.name hn (sep_close _) (.close hz)))
    have et : printX ⟨6, t, f, its, e, h, d⟩ = [83, 69, 76, 69, 67, 84] ++ 32 :: (whatTx its ++ (32 :: ([70, 82, 79, 77] ++ 32 :: (fromTx ⟨6, t, f, its, e, h, d⟩ ++ (J (condTx e) ++ (J (orderTx ⟨6, t, f, its, e, h, d⟩) ++ [])))))) := by
      rw [printX, if_pos hr]
      have ew : wordsTx ⟨6, t, f, its, e, h, d⟩ = [83, 69, 76, 69, 67, 84] :: (whatTx its :: [70, 82, 79, 77] :: fromTx ⟨6, t, f, its, e, h, d⟩ :: (condTx e ++ orderTx ⟨6, t, f, its, e, h, d⟩)) := by
        unfold wordsTx
        rw [if_neg (by simp), if_neg (by simp), if_neg (by simp), if_neg (by simp), if_neg (by simp)]
        rfl
      rw [ew, join_J, J_cons, J_cons, J_cons, J_app, List.append_nil]
    rw [List.append_nil] at hza
    rw [et]
    exact .kw (by decide) ⟨_, _, rfl, rfl⟩ rfl rfl (hl.lz _ _ (sep_blank _) (.blank (.kw (by decide) ⟨_, _, rfl, rfl⟩ rfl rfl (by rw [List.append_nil] at hza ⊢; exact hza))))
  · obtain ⟨st, e1, e2⟩ := w1 (by omega)
    obtain ⟨f1, f2, f3⟩ := from_does t h (kc ++ oK f d) st
    obtain ⟨c1, _⟩ := hc.does (oK f d) st hso
    obtain ⟨st2, c2, c3⟩ := c1 (by omega)
    obtain ⟨o1, o2, o3⟩ := order_does f d hd0 st2
    have eA : selectA (T (wK xs ++ ky [70, 82, 79, 77] :: (aK t h ++ (kc ++ oK f d))) []) = T (aK t h ++ (kc ++ oK f d)) st := by
      unfold selectA
      rw [e1, ea]
    refine read_ok (st := st2) hr ?_ ?_
    · rw [es]
      unfold selectS
      rw [eA, f1, c2, o1]
    · unfold stmtX
      rw [a1, a2, if_neg (by decide), if_neg (by decide), if_neg (by decide), if_neg (by decide), if_pos rfl]
      unfold selectX
      rw [eA, f1, f2, f3, c2, c3, o2, o3, e2, k1]
  · rw [es]
    unfold selectS selectA
    by_cases hm : maxD (xs.map Prod.snd) ≤ 16
    · obtain ⟨st, e1, _⟩ := w1 hm
      obtain ⟨f1, _, _⟩ := from_does t h (kc ++ oK f d) st
      rw [e1, ea, f1]
      exact ((hc.does (oK f d) st hso).2 (by omega)).orderS
    · exact (((w2 (by omega)).must _).fromS.whereS).orderS
  · by_cases hm : maxD (xs.map Prod.snd) ≤ 16
    · exact .inl (hc.need (by omega))
    · have := max_item xs hx (by omega)
      rw [k1] at this
      exact .inr this
end
theorem rp_all {x : St} (hi : Fits0 x) (hr : rightX x = true) : ∃ ks n, RP x ks n := by
  obtain ⟨k, t, f, its, e, h, d⟩ := x
  have hk : k = 1 ∨ k = 2 ∨ k = 3 ∨ k = 4 ∨ k = 5 ∨ k = 6 := by
    have hr0 := hr
    unfold rightX at hr0
    dsimp only at hr0
    by_cases h1 : k = 1
    · exact .inl h1
    by_cases h2 : k = 2
    · exact .inr (.inl h2)
    by_cases h3 : k = 3
    · exact .inr (.inr (.inl h3))
    by_cases h4 : k = 4
    · exact .inr (.inr (.inr (.inl h4)))
    by_cases h5 : k = 5
    · exact .inr (.inr (.inr (.inr (.inl h5))))
    by_cases h6 : k = 6
    · exact .inr (.inr (.inr (.inr (.inr h6))))
    rw [if_neg h1, if_neg h2, if_neg h3, if_neg h4, if_neg h5, if_neg h6, Bool.and_false] at hr0
    cases hr0
  rcases hk with rfl | rfl | rfl | rfl | rfl | rfl
  · exact rp1 hr
  · exact rp2 hr
  · exact rp3 hi.1 hr
  · exact rp4 hi hr
  · exact rp5 hi.1 hr
  · exact rp6 hi hr
/-- what is printed is read -/
theorem print_read {x : St} (hi : Fits0 x) (hr : rightX x = true) (hl : (printX x).length ≤ 16384) : ((parseX (printX x)).1 = x ∧ (parseX (printX x)).2.1 = 0) ∨ ((parseX (printX x)).1 = stZero ∧ (parseX (printX x)).2.1 = 10 ∧ (9 ≤ x.expr.length ∨ ∃ i ∈ x.items, 9 ≤ i.expr.length)) := by
  obtain ⟨ks, n, h⟩ := rp_all hi hr
  obtain ⟨l1, l2⟩ := h.lex.lex hl
  have hp := parse_read (printX x)
  rw [l1, if_neg (by decide), l2] at hp
  by_cases hd1 : n ≤ 16
  · rw [h.ok hd1] at hp
    exact .inl ⟨congrArg Prod.fst hp, congrArg Prod.snd hp⟩
  · rw [h.deep (by omega)] at hp
    exact .inr ⟨congrArg Prod.fst hp, congrArg Prod.snd hp, h.need (by omega)⟩
theorem long_read {t : Bs} (h : 16384 < t.length) : (parseX t).1 = stZero ∧ (parseX t).2.1 = 4 := by
  have e : Lx.lex t = ⟨[], 4, 0⟩ := by rw [Lx.lex, if_pos h]
  have hp := parse_read t
  rw [e, if_pos (by decide)] at hp
  exact ⟨congrArg Prod.fst hp, congrArg Prod.snd hp⟩
/-- what is read is right -/
theorem read_right {t : Bs} (h : (parseX t).2.1 = 0) : rightX (parseX t).1 = true := by
  unfold parseX at h ⊢
  split at h
  · rename_i h1; exact absurd h h1
  rename_i h1
  rw [if_neg h1]
  split at h
  · rename_i h2; exact absurd h h2
  rename_i h2
  rw [if_neg h2]
  split at h
  · rename_i h3
    rw [if_pos h3]
    exact h3
  · cases h
theorem read_zero {t : Bs} (h : (parseX t).2.1 ≠ 0) : (parseX t).1 = stZero := by
  unfold parseX at h ⊢
  split at h
  · rename_i h1; rw [if_pos h1]
  rename_i h1
  rw [if_neg h1]
  split at h
  · rename_i h2; rw [if_pos h2]
  rename_i h2
  rw [if_neg h2]
  split at h
  · exact absurd rfl h
  · rename_i h3
    rw [if_neg h3]
end Ps
end Go.Proofs.YtfhkaffakniioaaGreatDoor
