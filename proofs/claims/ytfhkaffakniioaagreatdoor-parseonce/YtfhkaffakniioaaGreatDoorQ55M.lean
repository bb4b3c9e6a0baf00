/- Several texts, joined: QiM, QlM -/
import Derived.Test.YtfhkaffakniioaaGreatDoorQ53M
/- Blanks at both ends are no matter, brackets around a condition but for their depth: plain mathematics. -/
namespace Go.Proofs.YtfhkaffakniioaaGreatDoor
namespace Lx
theorem lx_ahead (n : Nat) (s : Bs) (a : Nat) : lx n (32 :: 10 :: s) a = lx n s (a + 2) := by
  have e : bl (32 :: 10 :: s) = bl s + 2 := by rw [bl, if_pos (.inl rfl), bl, if_pos (.inr (.inr (.inl rfl)))]
  have e2 : (32 :: 10 :: s).drop (bl s + 2) = s.drop (bl s) := by rw [show bl s + 2 = (bl s + 1) + 1 by omega, List.drop_succ_cons, List.drop_succ_cons]
  rw [lx_blank n (32 :: 10 :: s), lx_blank n s, e, e2, show a + (bl s + 2) = a + 2 + bl s by omega]
def tl2 : Bs := [9, 32]
theorem tl_sep : Ps.Sep tl2 := Ps.sep_cons rfl (by decide)
theorem quo_tail : ∀ (n : Nat) (r : Bs), r.length ≤ n → quo (r ++ tl2) = quo r := by
  intro n
  induction n with
  | zero =>
    intro r hr
    have : r = [] := List.eq_nil_of_length_eq_zero (by omega)
    subst this
    rfl
  | succ n ih =>
    intro r hr
    match r, hr with
    | [], _ => rfl
    | x :: r, hr =>
      have hr1 : r.length ≤ n := Nat.le_of_succ_le_succ hr
      by_cases hx : x = 39
      · subst hx
        match r, hr1 with
        | [], _ => rfl
        | y :: r, hr1 =>
          by_cases hy : y = 39
          · subst hy
            rw [List.cons_append, List.cons_append, quo_twice, quo_twice, ih r (by simp at hr1; omega)]
          · rw [List.cons_append, List.cons_append, quo_end (fun c hc => by simp at hc; rw [← hc]; exact hy), quo_end (fun c hc => by simp at hc; rw [← hc]; exact hy)]
      · rw [List.cons_append, quo_plain hx, quo_plain hx, ih r hr1]
theorem sgn_tail (x : UInt8) (r : Bs) : sgn (x :: (r ++ tl2)) = sgn (x :: r) := by
  cases r with
  | nil =>
    have h : ∀ a c : UInt8, (c == 9) = false → pre2 a c (x :: tl2) = false := fun a c hc => by
      show (x == a && (9 : UInt8) == c) = false
      have : ((9 : UInt8) == c) = false := by rw [beq_eq_false_iff_ne] at hc ⊢; exact fun e => hc e.symm
      rw [this, Bool.and_false]
    rw [sgn_one, List.nil_append, sgn, h 60 62 rfl, h 60 61 rfl, h 62 61 rfl]
    rfl
  | cons y r => rfl
theorem sgn_len (x : UInt8) (r : Bs) : sgn (x :: r) ≤ (x :: r).length := by
  rw [sgn]
  cases r with
  | nil => simp [pre2]; split <;> omega
  | cons y r => simp; split <;> (try split) <;> omega
theorem frst_tail (x : UInt8) (r : Bs) : frst (x :: (r ++ tl2)) = frst (x :: r) := by
  have hw := wsz_le (x :: r)
  have hwa : wsz (x :: (r ++ tl2)) = wsz (x :: r) := Ps.wsz_sep (x :: r) tl2 tl_sep
  have hta : (x :: (r ++ tl2)).take (wsz (x :: r)) = (x :: r).take (wsz (x :: r)) := by
    rw [← List.cons_append]; exact take_app hw
  rw [frst, frst]
  by_cases h1 : isL x.toNat
  · rw [if_pos h1, if_pos h1, word, word, hwa, hta]
  rw [if_neg h1, if_neg h1]
  by_cases h2 : isD x.toNat
  · rw [if_pos h2, if_pos h2, numb, numb, hwa, hta]
  rw [if_neg h2, if_neg h2]
  by_cases h3 : x = 39
  · rw [if_pos h3, if_pos h3, text, text]
    simp only [List.drop_succ_cons, List.drop_zero]
    rw [quo_tail _ r (Nat.le_refl _)]
  rw [if_neg h3, if_neg h3, sgn_tail]
  by_cases h4 : 0 < sgn (x :: r)
  · rw [if_pos h4, if_pos h4, sign, sign, sgn_tail]
    congr 1
    rw [← List.cons_append]
    exact take_app (sgn_len x r)
  · rw [if_neg h4, if_neg h4]
theorem lx_tail : ∀ (n m : Nat) (l : Bs) (a : Nat), l.length < n → (l ++ tl2).length < m → lx m (l ++ tl2) a = lx n l a := by
  intro n
  induction n with
  | zero => intro m l a h; omega
  | succ n ih =>
    intro m l a hn hm
    cases m with
    | zero => omega
    | succ m =>
      rw [lx, lx]
      cases hd : l.drop (bl l) with
      | nil =>
        have hb : bl (l ++ tl2) = l.length + 2 := bl_all _ hd
        have e : (l ++ tl2).drop (bl (l ++ tl2)) = [] := List.drop_of_length_le (by rw [hb, List.length_append]; exact Nat.le_refl _)
        rw [e]
      | cons x r =>
        obtain ⟨h1, h2⟩ := bl_app tl2 hd
        rw [h1, h2]
        simp only
        rw [frst_tail]
        by_cases h0 : (frst (x :: r)).err = 0
        · rw [if_neg (by simp [h0]), if_neg (by simp [h0])]
          have hs := frst_size h0
          have hlt := drop_lt hd h0
          have ed : (x :: (r ++ tl2)).drop (frst (x :: r)).size = (x :: r).drop (frst (x :: r)).size ++ tl2 := by
            rw [← List.cons_append, List.drop_append_of_le_length hs.2]
          rw [ed, ih m _ _ (by omega) (by rw [List.length_append] at hm ⊢; omega)]
        · rw [if_pos h0, if_pos h0]
theorem lex_blanks {s : Bs} (h : s.length + 9 ≤ 16384) : (lex ([32, 10] ++ s ++ tl2)).err = (lex s).err ∧ (lex ([32, 10] ++ s ++ tl2)).toks.map Ps.z = (lex s).toks.map Ps.z := by
  have hl : ([32, 10] ++ s ++ tl2).length = s.length + 4 := by simp [tl2]
  have e1 : lex s = lx (s.length + 1) s 0 := by rw [lex, if_neg (by omega)]
  have e2 : lex ([32, 10] ++ s ++ tl2) = lx (s.length + 5) ([32, 10] ++ (s ++ tl2)) 0 := by rw [lex, if_neg (by omega), hl, List.append_assoc]
  have e3 : lx (s.length + 5) ([32, 10] ++ (s ++ tl2)) 0 = lx (s.length + 5) (s ++ tl2) (0 + 2) := lx_ahead _ _ _
  have e4 : lx (s.length + 5) (s ++ tl2) (0 + 2) = lx (s.length + 1) s (0 + 2) := lx_tail _ _ _ _ (by omega) (by rw [List.length_append]; show s.length + 2 < _; omega)
  have e5 := lx_shift (s.length + 1) s 0 2
  rw [e1, e2, e3, e4, e5]
  exact ⟨rfl, by rw [List.map_map]; rfl⟩
end Lx
namespace Ps
theorem blanks_read {s : Bs} (h : s.length + 9 ≤ 16384) : (parseX ([32, 10] ++ s ++ [9, 32])).1 = (parseX s).1 ∧ (parseX ([32, 10] ++ s ++ [9, 32])).2.1 = (parseX s).2.1 := by
  obtain ⟨h1, h2⟩ := Lx.lex_blanks h
  have p1 := parse_read ([32, 10] ++ s ++ Lx.tl2)
  have p2 := parse_read s
  rw [h1, h2, ← p2] at p1
  have q1 : (parseX ([32, 10] ++ s ++ Lx.tl2)).1 = (parseX s).1 := (Prod.mk.inj p1).1
  have q2 : (parseX ([32, 10] ++ s ++ Lx.tl2)).2.1 = (parseX s).2.1 := (Prod.mk.inj p1).2
  exact ⟨q1, q2⟩
/-- an expression's text in brackets -/
structure Good0 (g : Seg) : Prop where
  lex : LexC g.st g.sk
  head : Head H0 g.sk
  does : ∀ n, Does (primary (ors n)) n g.sk g.sl g.sd B0
theorem Good0.closed {g : Seg} (h : Good0 g) : Good0 ⟨g.sl, 40 :: (g.st ++ [41]), sg [40] :: (g.sk ++ [sg [41]]), g.sd + 1⟩ := by
  refine ⟨⟨fun c ts hs hz => ?_⟩, head_of (stop_sg (by decide) _), fun n => ?_⟩
  · have e : (40 :: (g.st ++ [41])) ++ c = 40 :: (g.st ++ (41 :: c)) := by simp
    have e2 : (sg [40] :: (g.sk ++ [sg [41]])) ++ ts = sg [40] :: (g.sk ++ (sg [41] :: ts)) := by simp
    show Lz ((40 :: (g.st ++ [41])) ++ c) ((sg [40] :: (g.sk ++ [sg [41]])) ++ ts)
    rw [e, e2]
    exact .open (h.lex.lz _ _ (sep_close _) (.close hz))
  · cases n with
    | zero => exact does_zero _ _ _ _ _
    | succ n =>
      have h1 : Does (Ps.closed (ors (n + 1))) n (g.sk ++ [sg [41]]) g.sl g.sd [] := does_closed (f := ors (n + 1)) (to_ors (h.does n) h.head) []
      exact (prim_nest (g := Ps.closed (ors (n + 1))) rfl (.inl rfl) rfl (does_nest (n := n + 1) h1 (Nat.le_refl _) (sg [40]))).weak (by simp)
theorem t_expr0 {g : Seg} (hg : Good0 g) (h128 : g.sl.length ≤ 128) {st : List Sp} : (g.sd ≤ 16 → exprS (T g.sk st) = T [] g.sl) ∧ (16 < g.sd → Dead (exprS (T g.sk st))) := by
  have key : ∀ n, 20000 ≤ n → (g.sd ≤ 16 → ors (n + 1) (T g.sk []) = T [] g.sl) ∧ (16 < g.sd → Dead (ors (n + 1) (T g.sk []))) := fun n hn => by
    obtain ⟨h1, h2⟩ := to_ors (hg.does n) hg.head (T g.sk []) [] (List.append_nil _).symm ⟨rfl, rfl, Nat.zero_le _, hn⟩ (fun u k _ => by cases k) (by show 0 + _ ≤ _; omega)
    have a0 : (T g.sk []).around = 0 := rfl
    rw [a0] at h1 h2
    exact ⟨fun k => h1 (by omega), fun k => h2 (by omega)⟩
  exact key 20000 (Nat.le_refl _)
def delT (l : List Sp) : St := ⟨5, [116], [], [], l, false, false⟩
theorem nm_t : isNm [116] = true := by decide +kernel
def delK (ks : List Tk) : List Tk := ky [68, 69, 76, 69, 84, 69] :: ky [70, 82, 79, 77] :: wd [116] :: ky [87, 72, 69, 82, 69] :: ks
theorem del_read {g : Seg} (hg : Good0 g) (hr : rightE g.sl = true) : (g.sd ≤ 16 → readX (delK g.sk) = (delT g.sl, 0)) ∧ (16 < g.sd → readX (delK g.sk) = (stZero, 10)) := by
  have h128 : g.sl.length ≤ 128 := by
    rw [rightE, Bool.and_eq_true, decide_eq_true_iff] at hr
    exact hr.1
  have hx : rightX (delT g.sl) = true := by
    unfold rightX delT
    dsimp only
    rw [if_neg (by decide), if_neg (by decide), if_neg (by decide), if_neg (by decide), if_pos rfl, nm_t, rightC, hr, Bool.or_true]
    rfl
  obtain ⟨a1, a2⟩ := stmt_at (k := [68, 69, 76, 69, 84, 69]) (r := ky [70, 82, 79, 77] :: wd [116] :: ky [87, 72, 69, 82, 69] :: g.sk) (by decide)
  have b1 : must [[70, 82, 79, 77]] (T (ky [70, 82, 79, 77] :: wd [116] :: ky [87, 72, 69, 82, 69] :: g.sk) []) = T (wd [116] :: ky [87, 72, 69, 82, 69] :: g.sk) [] := t_must (x := [70, 82, 79, 77]) rfl (by decide)
  have i1 : is [[87, 72, 69, 82, 69]] (T (ky [87, 72, 69, 82, 69] :: g.sk) []) = true := is_true (t := [87, 72, 69, 82, 69]) rfl (by decide)
  have e1 : next (T (ky [87, 72, 69, 82, 69] :: g.sk) []) = T g.sk [] := rfl
  have es : stmtS (T (delK g.sk) []) = exprS (T g.sk []) := by
    unfold stmtS delK
    rw [a1, a2, if_neg (by decide), if_neg (by decide), if_neg (by decide), if_pos rfl]
    unfold deleteS
    rw [b1, t_name0.1]
    unfold whereS
    rw [i1, if_pos rfl, e1]
  obtain ⟨c1, c2⟩ := t_expr0 hg h128 (st := [])
  refine ⟨fun k => read_ok (st := g.sl) hx (by rw [es, c1 k]) ?_, fun k => read_dead (by rw [es]; exact c2 k)⟩
  unfold stmtX delK
  rw [a1, a2, if_neg (by decide), if_neg (by decide), if_neg (by decide), if_pos rfl]
  unfold deleteX
  rw [b1, t_name0.1, t_name0.2]
  unfold whereE
  rw [i1, if_pos rfl, e1, c1 k]
  rfl
def wide (l : Bs) : Bs := [68, 69, 76, 69, 84, 69, 32, 70, 82, 79, 77, 32, 116, 32, 87, 72, 69, 82, 69, 32] ++ l
def tight (l : Bs) : Bs := [100, 101, 108, 101, 116, 101, 32, 102, 114, 111, 109, 32, 116, 32, 119, 104, 101, 114, 101, 32, 40, 40] ++ l ++ [41, 41]
theorem Lz.kl {t : Bs} {c : Bs} {ts : List Tk} (u : Bs) (hk : Lx.isKey t = true) (hL : ∃ x r, t = x :: r ∧ Lx.isL x.toNat = true) (hw : Lx.wsz t = t.length) (hg : Lx.great t = u) (h : Lz c ts) : Lz (t ++ 32 :: c) (ky u :: ts) := by
  rw [← hg]
  exact .key hk hL hw (sep_blank _) (.blank h)
theorem wide_lex {g : Seg} (hg : Good0 g) : Lz (wide g.st) (delK g.sk) := by
  have h := hg.lex.lz [] [] sep_nil .nil
  rw [List.append_nil, List.append_nil] at h
  exact .kw (t := [68, 69, 76, 69, 84, 69]) (by decide) ⟨_, _, rfl, rfl⟩ rfl rfl (.kw (t := [70, 82, 79, 77]) (by decide) ⟨_, _, rfl, rfl⟩ rfl rfl (.name (t := [116]) nm_t (sep_blank _) (.blank (.kw (t := [87, 72, 69, 82, 69]) (by decide) ⟨_, _, rfl, rfl⟩ rfl rfl h))))
theorem tight_lex {g : Seg} (hg : Good0 g) : Lz (tight g.st) (delK (sg [40] :: ((sg [40] :: (g.sk ++ [sg [41]])) ++ [sg [41]]))) := by
  have h := hg.closed.closed.lex.lz [] [] sep_nil .nil
  rw [List.append_nil, List.append_nil] at h
  have e : tight g.st = [100, 101, 108, 101, 116, 101] ++ 32 :: ([102, 114, 111, 109] ++ 32 :: ([116] ++ 32 :: ([119, 104, 101, 114, 101] ++ 32 :: (40 :: ((40 :: (g.st ++ [41])) ++ [41]))))) := by
    unfold tight
    simp
  rw [e]
  exact .kl [68, 69, 76, 69, 84, 69] (by decide) ⟨_, _, rfl, rfl⟩ rfl rfl (.kl [70, 82, 79, 77] (by decide) ⟨_, _, rfl, rfl⟩ rfl rfl (.name (t := [116]) nm_t (sep_blank _) (.blank (.kl [87, 72, 69, 82, 69] (by decide) ⟨_, _, rfl, rfl⟩ rfl rfl h))))
/-- brackets around a condition -/
theorem brackets {l : List Sp} (hi : ∀ p ∈ l, p.n ≤ 9223372036854775807) (hr : rightE l = true) (h8 : (shownE l).length ≤ 8000) :
    ((parseX (tight (shownE l))).2.1 = 10 ∧ 5 ≤ l.length) ∨ ((parseX (tight (shownE l))).2.1 = 0 ∧ (parseX (tight (shownE l))).1 = delT l ∧ (parseX (wide (shownE l))).2.1 = 0 ∧ (parseX (wide (shownE l))).1 = delT l) := by
  obtain ⟨g, g1, g2, g3⟩ := shown_good hi hr
  have hg : Good0 g := ⟨g1.lex, g1.head, g1.does⟩
  have hn := g1.need
  have w1 := wide_lex hg
  have w2 := tight_lex hg
  rw [g3] at w1 w2
  obtain ⟨l1, l2⟩ := w1.lex (by unfold wide; rw [List.length_append]; show 20 + _ ≤ _; omega)
  obtain ⟨l3, l4⟩ := w2.lex (by unfold tight; rw [List.length_append, List.length_append]; show 22 + _ + 2 ≤ _; omega)
  have p1 := parse_read (wide (shownE l))
  have p2 := parse_read (tight (shownE l))
  rw [l1, if_neg (by decide), l2] at p1
  rw [l3, if_neg (by decide), l4] at p2
  obtain ⟨r1, r2⟩ := del_read hg (by rw [g2]; exact hr)
  obtain ⟨r3, r4⟩ := del_read (g := ⟨g.sl, _, _, g.sd + 1 + 1⟩) hg.closed.closed (by rw [g2]; exact hr)
  by_cases hd1 : g.sd + 1 + 1 ≤ 16
  · have r5 := r3 hd1
    have r6 := r1 (by omega)
    rw [g2] at r6
    have r7 : readX (delK (sg [40] :: ((sg [40] :: (g.sk ++ [sg [41]])) ++ [sg [41]]))) = (delT l, 0) := by rw [← g2]; exact r5
    rw [r6] at p1
    rw [r7] at p2
    exact .inr ⟨congrArg Prod.snd p2, congrArg Prod.fst p2, congrArg Prod.snd p1, congrArg Prod.fst p1⟩
  · have r5 : readX (delK (sg [40] :: ((sg [40] :: (g.sk ++ [sg [41]])) ++ [sg [41]]))) = (stZero, 10) := r4 (by show 16 < g.sd + 1 + 1; omega)
    rw [r5] at p2
    rw [g2] at hn
    exact .inl ⟨congrArg Prod.snd p2, by omega⟩
end Ps
end Go.Proofs.YtfhkaffakniioaaGreatDoor
/- Where a fault shows lies within the text: plain mathematics. -/
namespace Go.Proofs.YtfhkaffakniioaaGreatDoor
namespace Ps
/-- all places are within a text of n bytes -/
structure In (n : Nat) (s : S) : Prop where
  size : s.size ≤ n
  pos : s.pos ≤ n
  rest : ∀ t ∈ s.rest, t.at' ≤ n
section
variable {n : Nat} {s : S}
theorem In.place (h : In n s) : place s ≤ n := by
  unfold Ps.place
  cases e : s.rest with
  | nil => exact h.size
  | cons t r => exact h.rest t (by rw [e]; exact List.mem_cons_self ..)
theorem In.fail (h : In n s) (e : Nat) : In n (fail e s) := ⟨h.size, by
  show (if s.why = 0 then Ps.place s else s.pos) ≤ n
  split
  · exact h.place
  · exact h.pos, fun t k => by cases k⟩
theorem In.next (h : In n s) : In n (next s) := by
  unfold Ps.next
  split
  · exact h.fail 3
  · exact ⟨h.size, h.pos, fun t k => h.rest t (List.mem_of_mem_tail k)⟩
theorem In.may (h : In n s) (ts : List Bs) : In n (may ts s) := by
  unfold Ps.may
  split
  · exact h.next
  · exact h
theorem In.must (h : In n s) (ts : List Bs) : In n (must ts s) := by
  unfold Ps.must
  split
  · exact h.next
  · exact h.fail 13
theorem In.name (h : In n s) (l : List Bs) : In n (name l s) := by
  unfold Ps.name
  split
  · split
    · exact h.fail 18
    · exact h.next
  · exact h.fail 13
theorem In.add (h : In n s) (p : Sp) : In n (add p s) := ⟨h.size, h.pos, h.rest⟩
theorem In.open1 (h : In n s) (m : Nat) : In n (open1 m s) := ⟨h.size, h.pos, h.rest⟩
end
def Kp (f : S → S) : Prop := ∀ n s, In n s → In n (f s)
def KpE {E : Type} (f : S → E → S × E) : Prop := ∀ n s e, In n s → In n (f s e).1
theorem kp_rowL {part : S → S} (hp : Kp part) (ts : List Bs) : ∀ f n s, In n s → In n (rowL part ts f s)
  | 0, _, _, h => h
  | f + 1, n, s, h => by
    rw [rowL]
    split
    · exact kp_rowL hp ts f _ _ ((hp _ _ h.next).add _)
    · exact h
theorem kp_row {part : S → S} (hp : Kp part) (ts : List Bs) : Kp (row part ts) := fun _ _ h => kp_rowL hp ts _ _ _ (hp _ _ h)
theorem kp_nest {f : S → S} (hp : Kp f) : Kp (nest f) := fun n s h => by
  unfold nest
  split
  · exact h.fail 10
  · have h2 := hp n { next s with around := s.around + 1 } ⟨h.next.size, h.next.pos, h.next.rest⟩
    exact ⟨h2.size, h2.pos, h2.rest⟩
theorem kp_partsL {E : Type} {part : S → E → S × E} (hp : KpE part) : ∀ f m n s e, In n s → In n (partsL part f m s e).1
  | 0, _, _, _, _, h => h
  | f + 1, m, n, s, e, h => by
    have h1 := hp _ _ e (h.open1 m)
    rw [partsL]
    split
    · exact kp_partsL hp f _ _ _ _ h1.next
    · exact h1
theorem kp_parts {E : Type} {part : S → E → S × E} (hp : KpE part) (n : Nat) (s : S) (e : E) (h : In n s) : In n (parts part s e).1 := kp_partsL hp _ _ _ _ _ h
theorem kp_till {E : Type} {part : S → E → S × E} (hp : KpE part) (c : Bs) (n : Nat) (s : S) (e : E) (h : In n s) : In n (partsTill c part s e).1 := by
  unfold partsTill
  split
  · exact h.next
  · exact (kp_parts hp n s e h).must _
theorem kp_nots {f : S → S} (hp : Kp f) : ∀ k, Kp (nots f k)
  | 0 => fun _ _ h => h
  | k + 1 => fun n s h => by
    rw [nots]
    split
    · exact (kp_nest (kp_nots hp k) _ _ h).add _
    · exact hp _ _ h
theorem kp_signeds {f : S → S} (hp : Kp f) : ∀ k, Kp (signeds f k)
  | 0 => fun _ _ h => h
  | k + 1 => fun n s h => by
    rw [signeds]
    split
    · exact (kp_nest (kp_signeds hp k) _ _ h).add _
    · exact hp _ _ h
theorem kp_comparison {f : S → S} (hp : Kp f) : Kp (comparison f) := fun n s h => by
  have h1 := hp _ _ h
  unfold comparison
  split
  · exact (hp _ _ h1.next).add _
  · split
    · split
      · exact ((h1.next.next.must _).add _).add _
      · exact (h1.next.must _).add _
    · exact h1
theorem kp_pathL : ∀ f n s l, In n s → In n (pathL f s l).1
  | 0, _, _, _, h => h
  | f + 1, n, s, l, h => by
    rw [pathL]
    split
    · split
      · exact kp_pathL f _ _ _ h.next.next
      · exact kp_pathL f _ _ _ (h.next.name [])
    · exact h
theorem kp_path (n : Nat) (s : S) (h : In n s) : In n (path s).1 := kp_pathL _ _ _ _ (h.name [])
theorem kp_listP {f : S → S} (hp : Kp f) : KpE (listP f) := fun n s _ h => hp n s h
theorem kp_fieldP {f : S → S} (hp : Kp f) : KpE (fieldP f) := fun _ _ l h => hp _ _ ((h.name l).must _)
theorem kp_primary {f : S → S} (hp : Kp f) : Kp (primary f) := fun n s h => by
  have hc : Kp (closed f) := fun n s h => (hp n s h).must _
  have hl : Kp (list f) := fun n s h => (kp_till (kp_listP hp) [93] n s () h).add _
  have hf : Kp (fields f) := fun n s h => (kp_till (kp_fieldP hp) [125] n s [] h).add _
  unfold primary
  split
  · exact h.next.add _
  split
  · exact h.next.add _
  split
  · exact (kp_path n s h).add _
  split
  · exact h.next.add _
  split
  · exact h.next.add _
  split
  · exact h.next.add _
  split
  · exact kp_nest hc n s h
  split
  · exact kp_nest hl n s h
  split
  · exact kp_nest hf n s h
  · exact h.fail 13
theorem Kp.at {f : S → S} (h : Kp f) {n : Nat} {s : S} (e : In n s) : In n (f s) := h n s e
theorem kp_signed {f : S → S} (h : Kp f) : Kp (signed f) := fun n s e => by
  unfold signed
  exact (kp_signeds (kp_primary h) 20001).at e
theorem kp_sum {f : S → S} (h : Kp f) : Kp (sum f) := fun n s e => by
  unfold sum
  exact (kp_row (part := product f) (fun n s e => by unfold product; exact (kp_row (kp_signed h) _).at e) _).at e
theorem kp_not {f : S → S} (h : Kp f) : Kp (not f) := fun n s e => by
  unfold not
  exact (kp_nots (kp_comparison (kp_sum h)) 20001).at e
theorem kp_orsOf {f : S → S} (h : Kp f) : Kp (orsOf f) := fun n s e => by
  unfold orsOf
  exact (kp_row (part := ands f) (fun n s e => by unfold ands; exact (kp_row (kp_not h) _).at e) _).at e
theorem kp_ors : ∀ k, Kp (ors k)
  | 0 => fun _ _ h => h
  | k + 1 => kp_orsOf (kp_ors k)
theorem kp_expr : Kp exprS := fun n s h => by
  have key : ∀ k, In n (ors k { s with steps := [] }) := fun k => (kp_ors k).at ⟨h.size, h.pos, h.rest⟩
  exact key 20001
theorem kp_where : Kp whereS := fun n s h => by
  unfold whereS
  split
  · exact kp_expr _ _ h.next
  · exact h
theorem kp_updP : KpE updP := fun _ _ _ h => kp_expr _ _ ((h.name _).must _)
theorem kp_selP : KpE selP := fun _ _ _ h => ((kp_expr _ _ h).must _).name _
theorem kp_stmt : Kp stmtS := fun n s h => by
  have h1 := h.must stmtK
  unfold stmtS
  split
  · have h2 := h1.must createK
    unfold createS
    split
    · exact h2.name _
    · exact ((((h2.must _).name _).must _).name _).must _
  split
  · exact kp_expr _ _ ((h1.must _).name _)
  split
  · exact kp_where _ _ (kp_parts kp_updP _ _ _ ((h1.name _).must _))
  split
  · exact kp_where _ _ ((h1.must _).name _)
  split
  · have h2 : In n (itemsS (must stmtK s)) := by
      unfold itemsS
      split
      · exact h1.next
      · exact kp_parts kp_selP _ _ _ h1
    have h3 : In n (selectA (must stmtK s)) := h2.must _
    have h4 : In n (histS (selectA (must stmtK s))) := by
      unfold histS
      split
      · exact h3.next.must _
      · exact h3
    have h5 : In n (fromS (selectA (must stmtK s))) := by
      unfold fromS
      split
      · exact (h4.name _).must _
      · exact h4.name _
    have h6 := kp_where _ _ h5
    show In n (orderS (whereS (fromS (selectA (must stmtK s)))))
    unfold orderS
    split
    · exact ((h6.next.must _).name _).may _
    · exact h6
  · exact h1
theorem kp_end : Kp endS := fun n s h => by
  unfold endS
  split
  · exact h.fail 13
  split
  · exact h.fail 3
  · exact h
theorem parse_pos (t : Bs) : (parseX t).2.2 ≤ t.length := by
  unfold parseX
  split
  · rename_i h
    exact (Lx.lex_bad h).2
  · rename_i h
    have he : (Lx.lex t).err = 0 := Decidable.byContradiction fun q => h q
    obtain ⟨_, ht⟩ := Lx.lex_toks he
    have h0 : In t.length (start t (Lx.lex t).toks) := ⟨Nat.le_refl _, Nat.zero_le _, fun u hu => by
      obtain ⟨j, hj⟩ := List.getElem?_of_mem hu
      have := (Lx.toks_at ht j u hj).2.1
      omega⟩
    have h1 := kp_end _ _ (kp_stmt _ _ h0)
    split
    · exact h1.pos
    split
    · exact Nat.zero_le _
    · exact Nat.zero_le _
end Ps
end Go.Proofs.YtfhkaffakniioaaGreatDoor
