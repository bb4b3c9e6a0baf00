/- Several texts, joined: QaM, QbM -/
import Derived.Test.YtfhkaffakniioaaGreatDoorQ24M
import Derived.Test.YtfhkaffakniioaaGreatDoorQ38M
import Derived.Test.YtfhkaffakniioaaGreatDoorQ50M
/- What is read of a text hangs on its tokens alone, not on where they stand: plain mathematics. -/
namespace Go.Proofs.YtfhkaffakniioaaGreatDoor
namespace Ps
/-- a token, wherever it stands -/
def z (t : Tk) : Tk := ⟨t.kind, t.text, t.n, 0⟩
structure Eq0 (s t : S) : Prop where
  rest : s.rest.map z = t.rest.map z
  over : s.over = t.over
  why : s.why = t.why
  around : s.around = t.around
  steps : s.steps = t.steps
section
variable {s t : S}
theorem Eq0.len (h : Eq0 s t) : s.rest.length = t.rest.length := by have := congrArg List.length h.rest; rwa [List.length_map, List.length_map] at this
theorem Eq0.tok (h : Eq0 s t) : (token s).kind = (token t).kind ∧ (token s).text = (token t).text ∧ (token s).n = (token t).n := by
  have h1 := h.rest
  unfold token
  cases hs : s.rest with
  | nil => rw [hs] at h1; cases ht : t.rest with
    | nil => exact ⟨rfl, rfl, rfl⟩
    | cons b r => rw [ht] at h1; cases h1
  | cons a q => rw [hs] at h1; cases ht : t.rest with
    | nil => rw [ht] at h1; cases h1
    | cons b r =>
      rw [ht, List.map_cons, List.map_cons] at h1
      have h2 := (List.cons.inj h1).1
      have e1 : (z a).kind = (z b).kind := congrArg Lx.Tk.kind h2
      have e2 : (z a).text = (z b).text := congrArg Lx.Tk.text h2
      have e3 : (z a).n = (z b).n := congrArg Lx.Tk.n h2
      exact ⟨e1, e2, e3⟩
theorem Eq0.is (h : Eq0 s t) (ts : List Bs) : is ts s = is ts t := by
  obtain ⟨h1, h2, _⟩ := h.tok
  unfold Ps.is
  rw [h1, h2]
theorem Eq0.fail (h : Eq0 s t) (e : Nat) : Eq0 (fail e s) (fail e t) := ⟨rfl, h.over, by show (if s.why = 0 then e else s.why) = _; rw [h.why]; rfl, h.around, h.steps⟩
theorem Eq0.next (h : Eq0 s t) : Eq0 (next s) (next t) := by
  unfold Ps.next
  rw [← h.over]
  split
  · exact h.fail 3
  · refine ⟨?_, rfl, h.why, h.around, h.steps⟩
    show List.map z (List.tail _) = List.map z (List.tail _)
    rw [List.map_tail, List.map_tail, h.rest]
theorem Eq0.nextT (h : Eq0 s t) : (nextT s).text = (nextT t).text ∧ (nextT s).n = (nextT t).n := by
  unfold Ps.nextT
  rw [← h.over]
  split
  · exact ⟨rfl, rfl⟩
  · exact ⟨h.tok.2.1, h.tok.2.2⟩
theorem Eq0.may (h : Eq0 s t) (ts : List Bs) : Eq0 (may ts s) (may ts t) := by
  unfold Ps.may
  rw [← h.is]
  split
  · exact h.next
  · exact h
theorem Eq0.must (h : Eq0 s t) (ts : List Bs) : Eq0 (must ts s) (must ts t) := by
  unfold Ps.must
  rw [← h.is]
  split
  · exact h.next
  · exact h.fail 13
theorem Eq0.mustT (h : Eq0 s t) (ts : List Bs) : mustT ts s = mustT ts t := by
  unfold Ps.mustT
  rw [← h.is, h.nextT.1]
theorem Eq0.name (h : Eq0 s t) (l : List Bs) : Eq0 (name l s) (name l t) := by
  unfold Ps.name
  rw [← h.tok.1, ← h.tok.2.1]
  split
  · split
    · exact h.fail 18
    · exact h.next
  · exact h.fail 13
theorem Eq0.nameT (h : Eq0 s t) (l : List Bs) : nameT l s = nameT l t := by
  unfold Ps.nameT
  rw [← h.tok.1, ← h.tok.2.1, h.nextT.1]
theorem Eq0.add (h : Eq0 s t) {p q : Sp} (e : p = q) : Eq0 (add p s) (add q t) := by
  subst e
  exact ⟨h.rest, by show (s.over || s.steps.length == 128) = _; rw [h.over, h.steps]; rfl, h.why, h.around, by show s.steps ++ [p] = t.steps ++ [p]; rw [h.steps]⟩
theorem Eq0.open1 (h : Eq0 s t) (m : Nat) : Eq0 (open1 m s) (open1 m t) := ⟨h.rest, by show (s.over || m == 64) = _; rw [h.over]; rfl, h.why, h.around, h.steps⟩
theorem Eq0.bare (h : Eq0 s t) : Eq0 { s with steps := [] } { t with steps := [] } := ⟨h.rest, h.over, h.why, h.around, rfl⟩
end
/-- places are no matter to it -/
def Pl (f : S → S) : Prop := ∀ s t, Eq0 s t → Eq0 (f s) (f t)
def PlE {E : Type} (f : S → E → S × E) : Prop := ∀ s t e, Eq0 s t → Eq0 (f s e).1 (f t e).1 ∧ (f s e).2 = (f t e).2
theorem pl_rowL {part : S → S} (hp : Pl part) (ts : List Bs) : ∀ f s t, Eq0 s t → Eq0 (rowL part ts f s) (rowL part ts f t)
  | 0, _, _, h => h
  | f + 1, s, t, h => by
    rw [rowL, rowL, ← h.is]
    split
    · exact pl_rowL hp ts f _ _ ((hp _ _ h.next).add (by rw [h.nextT.1]))
    · exact h
theorem pl_row {part : S → S} (hp : Pl part) (ts : List Bs) : Pl (row part ts) := fun s t h => by
  unfold row
  rw [(hp _ _ h).len]
  exact pl_rowL hp ts _ _ _ (hp _ _ h)
theorem pl_nest {f : S → S} (hp : Pl f) : Pl (nest f) := fun s t h => by
  unfold nest
  rw [← h.around]
  split
  · exact h.fail 10
  · have h1 : Eq0 { next s with around := s.around + 1 } { next t with around := s.around + 1 } := ⟨h.next.rest, h.next.over, h.next.why, rfl, h.next.steps⟩
    have h2 := hp _ _ h1
    exact ⟨h2.rest, h2.over, h2.why, rfl, h2.steps⟩
theorem pl_partsL {E : Type} {part : S → E → S × E} (hp : PlE part) : ∀ f m s t e, Eq0 s t → Eq0 (partsL part f m s e).1 (partsL part f m t e).1 ∧ (partsL part f m s e).2 = (partsL part f m t e).2
  | 0, _, _, _, _, h => ⟨h, rfl⟩
  | f + 1, m, s, t, e, h => by
    obtain ⟨h1, h2⟩ := hp _ _ e (h.open1 m)
    rw [partsL, partsL, ← h1.is, h2]
    split
    · exact pl_partsL hp f _ _ _ _ h1.next
    · exact ⟨h1, rfl⟩
theorem pl_parts {E : Type} {part : S → E → S × E} (hp : PlE part) (s t : S) (e : E) (h : Eq0 s t) : Eq0 (parts part s e).1 (parts part t e).1 ∧ (parts part s e).2 = (parts part t e).2 := by
  unfold parts
  rw [h.len]
  exact pl_partsL hp _ _ _ _ _ h
theorem pl_till {E : Type} {part : S → E → S × E} (hp : PlE part) (c : Bs) (s t : S) (e : E) (h : Eq0 s t) : Eq0 (partsTill c part s e).1 (partsTill c part t e).1 ∧ (partsTill c part s e).2 = (partsTill c part t e).2 := by
  unfold partsTill
  rw [← h.is]
  split
  · exact ⟨h.next, rfl⟩
  · obtain ⟨h1, h2⟩ := pl_parts hp s t e h
    exact ⟨h1.must _, h2⟩
theorem pl_nots {f : S → S} (hp : Pl f) : ∀ n, Pl (nots f n)
  | 0 => fun _ _ h => h
  | n + 1 => fun s t h => by
    rw [nots, nots, ← h.is]
    split
    · exact (pl_nest (pl_nots hp n) _ _ h).add rfl
    · exact hp _ _ h
theorem pl_signeds {f : S → S} (hp : Pl f) : ∀ n, Pl (signeds f n)
  | 0 => fun _ _ h => h
  | n + 1 => fun s t h => by
    rw [signeds, signeds, ← h.is]
    split
    · exact (pl_nest (pl_signeds hp n) _ _ h).add rfl
    · exact hp _ _ h
theorem pl_comparison {f : S → S} (hp : Pl f) : Pl (comparison f) := fun s t h => by
  have h1 := hp _ _ h
  unfold comparison
  rw [← h1.is, ← h1.is, ← h1.next.is]
  split
  · exact (hp _ _ h1.next).add (by rw [h1.nextT.1])
  · split
    · split
      · exact ((h1.next.next.must _).add rfl).add rfl
      · exact (h1.next.must _).add rfl
    · exact h1
theorem pl_pathL : ∀ f s t l, Eq0 s t → Eq0 (pathL f s l).1 (pathL f t l).1 ∧ (pathL f s l).2 = (pathL f t l).2
  | 0, _, _, _, h => ⟨h, rfl⟩
  | f + 1, s, t, l, h => by
    rw [pathL, pathL, ← h.is]
    split
    · rw [← h.next.tok.1, ← h.next.tok.2.2, ← h.next.nameT]
      split
      · exact pl_pathL f _ _ _ h.next.next
      · exact pl_pathL f _ _ _ (h.next.name [])
    · exact ⟨h, rfl⟩
theorem pl_path (s t : S) (h : Eq0 s t) : Eq0 (path s).1 (path t).1 ∧ (path s).2 = (path t).2 := by
  unfold path
  rw [(h.name []).len, h.nameT]
  exact pl_pathL _ _ _ _ (h.name [])
theorem pl_listP {f : S → S} (hp : Pl f) : PlE (listP f) := fun s t _ h => ⟨hp s t h, rfl⟩
theorem pl_fieldP {f : S → S} (hp : Pl f) : PlE (fieldP f) := fun s t l h => ⟨hp _ _ ((h.name l).must _), by show l ++ [nameT l s] = l ++ [nameT l t]; rw [h.nameT]⟩
theorem pl_list {f : S → S} (hp : Pl f) : Pl (list f) := fun s t h => by
  obtain ⟨h1, h2⟩ := pl_till (pl_listP hp) [93] s t () h
  exact h1.add (by rw [h2])
theorem pl_fields {f : S → S} (hp : Pl f) : Pl (fields f) := fun s t h => by
  obtain ⟨h1, h2⟩ := pl_till (pl_fieldP hp) [125] s t [] h
  exact h1.add (by rw [h2])
theorem pl_closed {f : S → S} (hp : Pl f) : Pl (closed f) := fun s t h => (hp s t h).must _
theorem pl_primary {f : S → S} (hp : Pl f) : Pl (primary f) := fun s t h => by
  unfold primary
  rw [← h.tok.1, ← h.is, ← h.is, ← h.is, ← h.is, ← h.is, ← h.is, ← h.nextT.1, ← h.nextT.2, ← (pl_path s t h).2]
  split
  · exact h.next.add rfl
  split
  · exact h.next.add rfl
  split
  · exact (pl_path s t h).1.add rfl
  split
  · exact h.next.add rfl
  split
  · exact h.next.add rfl
  split
  · exact h.next.add rfl
  split
  · exact pl_nest (pl_closed hp) s t h
  split
  · exact pl_nest (pl_list hp) s t h
  split
  · exact pl_nest (pl_fields hp) s t h
  · exact h.fail 13
theorem Pl.at {f : S → S} (h : Pl f) {s t : S} (e : Eq0 s t) : Eq0 (f s) (f t) := h s t e
theorem pl_signed {f : S → S} (h : Pl f) : Pl (signed f) := fun s t e => by
  unfold signed
  exact (pl_signeds (pl_primary h) 20001).at e
theorem pl_product {f : S → S} (h : Pl f) : Pl (product f) := fun s t e => by
  unfold product
  exact (pl_row (pl_signed h) _).at e
theorem pl_sum {f : S → S} (h : Pl f) : Pl (sum f) := fun s t e => by
  unfold sum
  exact (pl_row (pl_product h) _).at e
theorem pl_not {f : S → S} (h : Pl f) : Pl (not f) := fun s t e => by
  unfold not
  exact (pl_nots (pl_comparison (pl_sum h)) 20001).at e
theorem pl_ands {f : S → S} (h : Pl f) : Pl (ands f) := fun s t e => by
  unfold ands
  exact (pl_row (pl_not h) _).at e
theorem pl_orsOf {f : S → S} (h : Pl f) : Pl (orsOf f) := fun s t e => by
  unfold orsOf
  exact (pl_row (pl_ands h) _).at e
theorem pl_ors : ∀ n, Pl (ors n)
  | 0 => fun _ _ h => h
  | n + 1 => pl_orsOf (pl_ors n)
theorem pl_expr : Pl exprS := fun s t h => by
  have key : ∀ n, Eq0 (ors n { s with steps := [] }) (ors n { t with steps := [] }) := fun n => pl_ors n _ _ h.bare
  exact key 20001
theorem pl_where : Pl whereS := fun s t h => by
  unfold whereS
  rw [← h.is]
  split
  · exact pl_expr _ _ h.next
  · exact h
theorem pl_whereE (s t : S) (h : Eq0 s t) : whereE s = whereE t := by
  unfold whereE
  rw [← h.is]
  split
  · exact (pl_expr _ _ h.next).steps
  · rfl
theorem pl_updP : PlE updP := fun s t l h => by
  have h1 := pl_expr _ _ ((h.name (l.map It.name)).must [[61]])
  exact ⟨h1, by show l ++ [_] = l ++ [_]; rw [h.nameT, h1.steps]⟩
theorem pl_selP : PlE selP := fun s t l h => by
  have h1 := pl_expr _ _ h
  exact ⟨(h1.must _).name _, by show l ++ [_] = l ++ [_]; rw [(h1.must _).nameT, h1.steps]⟩
theorem pl_create (s t : S) (h : Eq0 s t) : Eq0 (createS s) (createS t) ∧ createX s = createX t := by
  have h1 := h.must createK
  have h2 := h1.must [[79, 78]]
  have h3 := (h2.name []).must [[40]]
  unfold createS createX
  rw [← h.mustT, ← h1.nameT, ← h2.nameT, ← h3.nameT]
  refine ⟨?_, rfl⟩
  split
  · exact h1.name []
  · exact (h3.name []).must _
theorem pl_insert (s t : S) (h : Eq0 s t) : Eq0 (insertS s) (insertS t) ∧ insertX s = insertX t := by
  have h1 := h.must [[73, 78, 84, 79]]
  have h2 : Eq0 (insertS s) (insertS t) := pl_expr _ _ (h1.name [])
  refine ⟨h2, ?_⟩
  unfold insertX
  rw [← h1.nameT, ← h2.steps]
theorem pl_update (s t : S) (h : Eq0 s t) : Eq0 (updateS s) (updateS t) ∧ updateX s = updateX t := by
  obtain ⟨h1, h2⟩ := pl_parts pl_updP _ _ [] ((h.name []).must [[83, 69, 84]])
  refine ⟨pl_where _ _ h1, ?_⟩
  unfold updateX
  rw [← h.nameT, ← pl_whereE (updateR s).1 (updateR t).1 h1]
  unfold updateR
  rw [h2]
theorem pl_delete (s t : S) (h : Eq0 s t) : Eq0 (deleteS s) (deleteS t) ∧ deleteX s = deleteX t := by
  have h1 := h.must [[70, 82, 79, 77]]
  refine ⟨pl_where _ _ (h1.name []), ?_⟩
  unfold deleteX
  rw [← h1.nameT, ← pl_whereE _ _ (h1.name [])]
theorem pl_items (s t : S) (h : Eq0 s t) : Eq0 (itemsS s) (itemsS t) ∧ itemsX s = itemsX t := by
  obtain ⟨h1, h2⟩ := pl_parts pl_selP s t [] h
  unfold itemsS itemsX
  rw [← h.is, ← h2]
  refine ⟨?_, rfl⟩
  split
  · exact h.next
  · exact h1
theorem pl_hist (s t : S) (h : Eq0 s t) : Eq0 (histS s) (histS t) ∧ histB s = histB t ∧ Eq0 (fromS s) (fromS t) := by
  have e : histB s = histB t := h.is _
  have h1 : Eq0 (histS s) (histS t) := by
    unfold histS
    rw [← e]
    split
    · exact h.next.must _
    · exact h
  refine ⟨h1, e, ?_⟩
  unfold fromS
  rw [← e]
  split
  · exact (h1.name []).must _
  · exact h1.name []
theorem pl_order (s t : S) (h : Eq0 s t) : Eq0 (orderS s) (orderS t) ∧ orderB s = orderB t ∧ nameT [] (byS s) = nameT [] (byS t) ∧ descB s = descB t := by
  have e : orderB s = orderB t := h.is _
  have h1 : Eq0 (byS s) (byS t) := h.next.must _
  refine ⟨?_, e, h1.nameT _, (h1.name []).is _⟩
  unfold orderS
  rw [← e]
  split
  · exact (h1.name []).may _
  · exact h
theorem pl_select (s t : S) (h : Eq0 s t) : Eq0 (selectS s) (selectS t) ∧ selectX s = selectX t := by
  obtain ⟨h1, h2⟩ := pl_items s t h
  have h3 : Eq0 (selectA s) (selectA t) := h1.must _
  obtain ⟨h4, h5, h6⟩ := pl_hist _ _ h3
  have h7 := pl_where _ _ h6
  obtain ⟨h8, h9, h10, h11⟩ := pl_order _ _ h7
  refine ⟨h8, ?_⟩
  unfold selectX
  rw [← h4.nameT, ← h9, ← h10, ← h11, ← h2, ← pl_whereE _ _ h6, ← h5]
theorem pl_stmt (s t : S) (h : Eq0 s t) : Eq0 (stmtS s) (stmtS t) ∧ stmtX s = stmtX t := by
  have h1 := h.must stmtK
  unfold stmtS stmtX
  rw [← h.mustT, ← (pl_create _ _ h1).2, ← (pl_insert _ _ h1).2, ← (pl_update _ _ h1).2, ← (pl_delete _ _ h1).2, ← (pl_select _ _ h1).2]
  refine ⟨?_, rfl⟩
  split
  · exact (pl_create _ _ h1).1
  split
  · exact (pl_insert _ _ h1).1
  split
  · exact (pl_update _ _ h1).1
  split
  · exact (pl_delete _ _ h1).1
  split
  · exact (pl_select _ _ h1).1
  · exact h1
theorem pl_end : Pl endS := fun s t h => by
  unfold endS
  rw [← h.len, ← h.over]
  split
  · exact h.fail 13
  split
  · exact h.fail 3
  · exact h
/-- what is read of tokens -/
def readX (ts : List Tk) : St × Nat :=
  if (endS (stmtS (start [] ts))).why ≠ 0 then (stZero, (endS (stmtS (start [] ts))).why)
  else if rightX (stmtX (start [] ts)) then (stmtX (start [] ts), 0)
  else (stZero, 13)
theorem parse_read (t : Bs) : ((parseX t).1, (parseX t).2.1) = if (Lx.lex t).err ≠ 0 then (stZero, (Lx.lex t).err) else readX ((Lx.lex t).toks.map z) := by
  unfold parseX readX
  have h0 : Eq0 (start t (Lx.lex t).toks) (start [] ((Lx.lex t).toks.map z)) := ⟨by show _ = List.map z (List.map z _); rw [List.map_map]; rfl, rfl, rfl, rfl, rfl⟩
  obtain ⟨h1, h2⟩ := pl_stmt _ _ h0
  have h3 := pl_end _ _ h1
  rw [h3.why, h2]
  split
  · rfl
  split
  · rfl
  split
  · rfl
  · rfl
end Ps
end Go.Proofs.YtfhkaffakniioaaGreatDoor
/- A text that is put together of tokens' texts has these tokens: plain mathematics. -/
namespace Go.Proofs.YtfhkaffakniioaaGreatDoor
namespace Ps
def sg (t : Bs) : Tk := ⟨5, t, 0, 0⟩
def ky (t : Bs) : Tk := ⟨2, t, 0, 0⟩
def wd (t : Bs) : Tk := ⟨1, t, 0, 0⟩
def nb (n : Int) : Tk := ⟨3, [], n, 0⟩
def tt (t : Bs) : Tk := ⟨4, t, 0, 0⟩
/-- a text and its tokens -/
inductive Lz : Bs → List Tk → Prop
  | nil : Lz [] []
  | blank {l : Bs} {ts : List Tk} (h : Lz l ts) : Lz (32 :: l) ts
  | tok {x : UInt8} {r : Bs} {ts : List Tk} {k m : Nat} {t : Bs} {n : Int} (hb : ¬ (x = 32 ∨ x = 9 ∨ x = 10 ∨ x = 13)) (hf : Lx.frst (x :: r) = ⟨0, k, t, n, m⟩) (h : Lz ((x :: r).drop m) ts) : Lz (x :: r) (⟨k, t, n, 0⟩ :: ts)
theorem toks_blank {l : Bs} {a : Nat} {us : List Tk} (h : Lx.Toks l (a + 1) us) : Lx.Toks (32 :: l) a us := by
  have hb : Lx.bl (32 :: l) = Lx.bl l + 1 := by rw [Lx.bl, if_pos (.inl rfl)]
  generalize hc : a + 1 = c at h
  cases h with
  | nil h => exact .nil (by rw [hb, List.drop_succ_cons]; exact h)
  | cons h he ht =>
    have e : c + Lx.bl l = a + Lx.bl (32 :: l) := by rw [hb, ← hc]; omega
    rw [e] at ht ⊢
    exact .cons (by rw [hb, List.drop_succ_cons]; exact h) he ht
theorem Lz.toks {l : Bs} {ts : List Tk} (h : Lz l ts) : ∀ a, ∃ us, Lx.Toks l a us ∧ us.map z = ts := by
  induction h with
  | nil => intro a; exact ⟨[], .nil rfl, rfl⟩
  | blank h ih =>
    intro a
    obtain ⟨us, h1, h2⟩ := ih (a + 1)
    exact ⟨us, toks_blank h1, h2⟩
  | @tok x r ts k m t n hb hf h ih =>
    intro a
    have h0 : Lx.bl (x :: r) = 0 := Lx.bl_not hb
    obtain ⟨us, h1, h2⟩ := ih (a + m)
    have h3 := Lx.Toks.cons (l := x :: r) (a := a) (x := x) (r := r) (ts := us) (by rw [h0]; rfl) (by rw [hf]) (by rw [h0, hf]; exact h1)
    rw [hf] at h3
    exact ⟨_, h3, by rw [List.map_cons, h2]; rfl⟩
theorem Lz.lex {l : Bs} {ts : List Tk} (h : Lz l ts) (hl : l.length ≤ 16384) : (Lx.lex l).err = 0 ∧ (Lx.lex l).toks.map z = ts := by
  obtain ⟨us, h1, h2⟩ := h.toks 0
  rw [Lx.toks_lex hl h1]
  exact ⟨rfl, h2⟩
/-- what may stand behind a token -/
def Sep (c : Bs) : Prop := ∀ b r, c = b :: r → Lx.isW b = false ∧ b ≠ 39
theorem sep_nil : Sep [] := fun _ _ h => by cases h
theorem sep_cons {x : UInt8} {c : Bs} (h : Lx.isW x = false) (h2 : x ≠ 39) : Sep (x :: c) := fun b r e => by cases e; exact ⟨h, h2⟩
theorem wsz_sep : ∀ (l c : Bs), Sep c → Lx.wsz (l ++ c) = Lx.wsz l
  | [], c, h => by
    cases c with
    | nil => rfl
    | cons b r => show Lx.wsz (b :: r) = 0; rw [Lx.wsz, if_neg (by rw [(h b r rfl).1]; decide)]
  | x :: r, c, h => by rw [List.cons_append, Lx.wsz, Lx.wsz, wsz_sep r c h]
theorem take_left (a c : Bs) : (a ++ c).take a.length = a := by rw [List.take_append_of_le_length (Nat.le_refl _), List.take_length]
theorem frst_word {x : UInt8} {r c : Bs} (hL : Lx.isL x.toNat = true) (hw : Lx.wsz (x :: r) = (x :: r).length) (hs : Sep c) : Lx.frst (x :: (r ++ c)) = if Lx.isKey (x :: r) then ⟨0, 2, Lx.great (x :: r), 0, (x :: r).length⟩ else if 64 < (x :: r).length then Lx.no 13 else ⟨0, 1, x :: r, 0, (x :: r).length⟩ := by
  have h1 : Lx.wsz (x :: (r ++ c)) = (x :: r).length := by rw [← hw]; exact wsz_sep (x :: r) c hs
  have h2 : (x :: (r ++ c)).take (x :: r).length = x :: r := take_left (x :: r) c
  rw [Lx.frst, if_pos hL, Lx.word, h1, h2]
/-- a token that stands ahead of c -/
theorem Lz.of {a c : Bs} {ts : List Tk} {k : Nat} {t : Bs} {n : Int} {x : UInt8} {r : Bs} (ha : a = x :: r) (hb : ¬ (x = 32 ∨ x = 9 ∨ x = 10 ∨ x = 13)) (hf : Lx.frst (x :: (r ++ c)) = ⟨0, k, t, n, a.length⟩) (h : Lz c ts) : Lz (a ++ c) (⟨k, t, n, 0⟩ :: ts) := by
  subst ha
  refine .tok hb hf ?_
  have e : (x :: (r ++ c)).drop (x :: r).length = c := by rw [← List.cons_append, List.drop_left]
  exact e.symm ▸ h
theorem nm_word {t : Bs} (h : isNm t = true) : ∃ x r, t = x :: r ∧ Lx.isL x.toNat = true ∧ Lx.wsz t = t.length ∧ Lx.isKey t = false ∧ t.length ≤ 64 := by
  rw [isNm, Lx.shw] at h
  split at h
  · cases h
  split at h
  · rename_i h1 h2
    have hw : Lx.wr 1 t 0 = t := by rw [Lx.wr, if_neg (by decide), if_neg (by decide)]
    rw [hw] at h2
    obtain ⟨h3, h4⟩ := Lx.lex_toks (l := t) (by rw [h2])
    rw [h2] at h4
    obtain ⟨_, _, _, ⟨x, r, he, ek, et, _, e0⟩, _⟩ := Lx.toks_at h4 0 _ rfl
    have e1 : x :: r = t := by rw [e0]; rfl
    subst e1
    have ek2 : (Lx.frst (x :: r)).kind = 1 := ek.symm
    have et2 : (Lx.frst (x :: r)).text = x :: r := et.symm
    clear ek et h4 h3 h2 hw h1 h e0
    rw [Lx.frst] at he ek2 et2
    by_cases hL : Lx.isL x.toNat
    · rw [if_pos hL] at he ek2 et2
      rw [Lx.word] at he ek2 et2
      by_cases hk : Lx.isKey ((x :: r).take (Lx.wsz (x :: r))) = true
      · rw [if_pos hk] at ek2; cases ek2
      · rw [if_neg hk] at he ek2 et2
        by_cases h64 : 64 < Lx.wsz (x :: r)
        · rw [if_pos h64] at ek2; cases ek2
        · rw [if_neg h64] at et2
          have e2 : (x :: r).take (Lx.wsz (x :: r)) = x :: r := et2
          have e3 := congrArg List.length e2
          rw [List.length_take] at e3
          have e4 := Lx.wsz_le (x :: r)
          rw [e2] at hk
          exact ⟨x, r, rfl, hL, by omega, by simpa using hk, by omega⟩
    · rw [if_neg hL] at he ek2 et2
      exfalso
      by_cases hD : Lx.isD x.toNat
      · rw [if_pos hD, Lx.numb] at ek2
        split at ek2 <;> cases ek2
      · rw [if_neg hD] at ek2
        by_cases h39 : x = 39
        · rw [if_pos h39, Lx.text] at ek2
          split at ek2
          · rw [Lx.tok] at ek2
            split at ek2
            · cases ek2
            · split at ek2 <;> cases ek2
          · cases ek2
        · rw [if_neg h39] at ek2
          split at ek2 <;> cases ek2
  · cases h
theorem l_not {x : UInt8} (h : Lx.isL x.toNat = true) : ¬ (x = 32 ∨ x = 9 ∨ x = 10 ∨ x = 13) := Lx.w_not x (by rw [Lx.isW, h]; rfl)
theorem Lz.name {t c : Bs} {ts : List Tk} (ht : isNm t = true) (hs : Sep c) (h : Lz c ts) : Lz (t ++ c) (wd t :: ts) := by
  obtain ⟨x, r, rfl, hL, hw, hk, h64⟩ := nm_word ht
  refine Lz.of rfl (l_not hL) ?_ h
  rw [frst_word hL hw hs, hk, if_neg (by decide), if_neg (by omega)]
theorem Lz.key {t c : Bs} {ts : List Tk} (hk : Lx.isKey t = true) (hL : ∃ x r, t = x :: r ∧ Lx.isL x.toNat = true) (hw : Lx.wsz t = t.length) (hs : Sep c) (h : Lz c ts) : Lz (t ++ c) (ky (Lx.great t) :: ts) := by
  obtain ⟨x, r, rfl, hL⟩ := hL
  refine Lz.of rfl (l_not hL) ?_ h
  rw [frst_word hL hw hs, if_pos hk]
theorem sgn_plain {x : UInt8} (c : Bs) (h1 : x ≠ 60) (h2 : x ≠ 62) (h3 : Lx.signs.contains x = true) : Lx.sgn (x :: c) = 1 := by
  have hp : ∀ a b, (a = 60 ∨ a = 62) → Lx.pre2 a b (x :: c) = false := fun a b h => by
    cases c with
    | nil => rfl
    | cons y r =>
      show (x == a && y == b) = false
      have : (x == a) = false := by
        rw [beq_eq_false_iff_ne]
        rcases h with rfl | rfl
        · exact h1
        · exact h2
      rw [this]; rfl
  rw [Lx.sgn, hp 60 62 (.inl rfl), hp 60 61 (.inl rfl), hp 62 61 (.inr rfl), if_neg (by decide), if_pos h3]
theorem Lz.sign {x : UInt8} {c : Bs} {ts : List Tk} (h1 : x ≠ 60) (h2 : x ≠ 62) (h3 : Lx.signs.contains x = true) (hL : Lx.isL x.toNat = false) (hD : Lx.isD x.toNat = false) (h39 : x ≠ 39) (h : Lz c ts) : Lz (x :: c) (sg [x] :: ts) := by
  refine Lz.of (a := [x]) rfl (Lx.s_not x h3) ?_ h
  have hs := sgn_plain c h1 h2 h3
  rw [List.nil_append, Lx.frst, hL, hD, if_neg (by decide), if_neg (by decide), if_neg h39, hs, if_pos (by decide), Lx.sign, hs]
  rfl
/-- an operator between blanks -/
theorem Lz.op {k : Nat} (hk : 12 ≤ k ∧ k ≤ 22) {c : Bs} {ts : List Tk} (h : Lz c ts) : Lz (opTx k ++ 32 :: c) ((if k ≤ 20 then sg (opTx k) else ky (opTx k)) :: ts) := by
  have key : ∀ (x : UInt8) (r : Bs) (kk : Nat) (t : Bs), ¬ (x = 32 ∨ x = 9 ∨ x = 10 ∨ x = 13) → Lx.frst (x :: r) = ⟨0, kk, t, 0, (x :: r).length⟩ → Lz ((x :: r) ++ 32 :: c) (⟨kk, t, 0, 0⟩ :: ts) := fun x r kk t hb hf => by
    refine Lz.of rfl hb ?_ (.blank h)
    rw [Lx.frst_app c (by rw [hf]), hf]
  obtain ⟨h1, h2⟩ := hk
  obtain rfl | rfl | rfl | rfl | rfl | rfl | rfl | rfl | rfl | rfl | rfl : k = 12 ∨ k = 13 ∨ k = 14 ∨ k = 15 ∨ k = 16 ∨ k = 17 ∨ k = 18 ∨ k = 19 ∨ k = 20 ∨ k = 21 ∨ k = 22 := by omega
  · exact key 43 [] 5 [43] (by decide) rfl
  · exact key 45 [] 5 [45] (by decide) rfl
  · exact key 42 [] 5 [42] (by decide) rfl
  · exact key 61 [] 5 [61] (by decide) rfl
  · exact key 60 [62] 5 [60, 62] (by decide) rfl
  · exact key 60 [] 5 [60] (by decide) rfl
  · exact key 60 [61] 5 [60, 61] (by decide) rfl
  · exact key 62 [] 5 [62] (by decide) rfl
  · exact key 62 [61] 5 [62, 61] (by decide) rfl
  · exact key 65 [78, 68] 2 [65, 78, 68] (by decide) rfl
  · exact key 79 [82] 2 [79, 82] (by decide) rfl
/-- a number's text -/
theorem dec_facts : ∀ m : Nat, Lx.allD (Lib.decDigits m) = true ∧ Lx.dv 0 (Lib.decDigits m) = m ∧ ∃ x r, Lib.decDigits m = x :: r := by
  intro m
  induction m using Nat.strongRecOn with
  | _ m ih =>
    by_cases h : m < 10
    · have e : Lib.decDigits m = [UInt8.ofNat (48 + m)] := Lib.decDigits_one h
      have e2 : (UInt8.ofNat (48 + m)).toNat = 48 + m := UInt8.toNat_ofNat_of_lt' (by show 48 + m < 256; omega)
      rw [e]
      refine ⟨(Lx.allD_cons _ _).2 ⟨by rw [e2]; omega, rfl⟩, ?_, _, _, rfl⟩
      rw [Lx.dv_cons, Lx.dv_nil, e2]
      omega
    · obtain ⟨h1, h2, x, r, h3⟩ := ih (m / 10) (by omega)
      have e : Lib.decDigits m = Lib.decDigits (m / 10) ++ [UInt8.ofNat (48 + m % 10)] := by
        conv => lhs; rw [Lib.decDigits]
        rw [dif_neg h]
      have e2 : (UInt8.ofNat (48 + m % 10)).toNat = 48 + m % 10 := UInt8.toNat_ofNat_of_lt' (by show 48 + m % 10 < 256; omega)
      rw [e]
      refine ⟨?_, ?_, x, r ++ [UInt8.ofNat (48 + m % 10)], by rw [h3]; rfl⟩
      · rw [Lx.allD, List.all_append, Bool.and_eq_true]
        exact ⟨h1, by rw [List.all_cons, e2, Bool.and_eq_true, Lx.isD_iff]; exact ⟨by omega, rfl⟩⟩
      · rw [Lx.dv_snoc, h2, e2]
        omega
theorem wsz_D : ∀ l : Bs, Lx.allD l = true → Lx.wsz l = l.length
  | [], _ => rfl
  | b :: r, h => by
    obtain ⟨h1, h2⟩ := (Lx.allD_cons b r).1 h
    rw [Lx.wsz, if_pos (by rw [Lx.isW, (Lx.isD_iff _).2 h1, Bool.or_true]), wsz_D r h2]
    rfl
theorem d_not_L (x : UInt8) : Lx.isD x.toNat = true → Lx.isL x.toNat = false := Lx.byte_all (P := fun x => Lx.isD x.toNat = true → Lx.isL x.toNat = false) (by decide +kernel) x
theorem Lz.num {n : Int} (h0 : 0 ≤ n) (h1 : n ≤ 9223372036854775807) {c : Bs} {ts : List Tk} (hs : Sep c) (h : Lz c ts) : Lz (Lib.itoa n ++ c) (nb n :: ts) := by
  obtain ⟨m, rfl⟩ := Int.eq_ofNat_of_zero_le h0
  have hi : Lib.itoa (m : Int) = Lib.decDigits m := Lib.itoa_nonneg m
  obtain ⟨h2, h3, x, r, h4⟩ := dec_facts m
  have hz : r = [] ∨ x ≠ 48 := by
    by_cases hx : x = 48
    · subst hx; exact .inl (Lx.dec_head m m (Nat.le_refl _) r h4)
    · exact .inr hx
  rw [h4] at h2 h3
  have hD : Lx.isD x.toNat = true := (Lx.isD_iff _).2 ((Lx.allD_cons x r).1 h2).1
  have hn : Lx.numOf (x :: r) = some (m : Int) := by
    have := Lx.int_of x r hD
    rw [if_pos ⟨h2, by omega, hz⟩, h3] at this
    exact this
  rw [hi, h4]
  refine Lz.of rfl (Lx.w_not x (by rw [Lx.isW, hD, Bool.or_true])) ?_ h
  have e1 : Lx.wsz (x :: (r ++ c)) = (x :: r).length := (wsz_sep (x :: r) c hs).trans (wsz_D _ h2)
  have e2 : (x :: (r ++ c)).take (x :: r).length = x :: r := take_left (x :: r) c
  rw [Lx.frst, d_not_L x hD, if_neg (by decide), if_pos hD, Lx.numb, e1, e2, hn]
/-- a text between ' -/
theorem quo_sep (c : Bs) (hs : Sep c) : ∀ t : Bs, Lx.quo (Lx.dbl t ++ 39 :: c) = some (t, (Lx.dbl t).length + 1)
  | [] => by
    show Lx.quo (39 :: c) = _
    rw [Lx.quo_end (fun b hb => by
      cases c with
      | nil => cases hb
      | cons y r =>
        have e : y = b := by simpa using hb
        rw [← e]
        exact (hs y r rfl).2)]
    rfl
  | b :: r => by
    by_cases h : b = 39
    · subst h
      rw [Lx.dbl, if_pos rfl, List.cons_append, List.cons_append, Lx.quo_twice, quo_sep c hs r]
      simp
    · rw [Lx.dbl, if_neg h, List.cons_append, Lx.quo_plain h, quo_sep c hs r]
      simp
theorem frst_tx {t c : Bs} (hl : t.length ≤ 1024) (hv : Lib.validD t = true) (hs : Sep c) : Lx.frst (39 :: (Lx.dbl t ++ 39 :: c)) = ⟨0, 4, t, 0, (Lx.dbl t).length + 2⟩ := by
  rw [Lx.frst, if_neg (by decide), if_neg (by decide), if_pos rfl, Lx.text]
  simp only [List.drop_succ_cons, List.drop_zero]
  rw [quo_sep c hs]
  simp only
  rw [Lx.tok, if_neg (by omega), if_neg (by rw [hv]; decide)]
theorem shw_text {t : Bs} (hl : t.length ≤ 1024) (hv : Lib.validD t = true) : (Lx.shw 4 t 0).getD [] = 39 :: (Lx.dbl t ++ [39]) := by
  have hw : Lx.wr 4 t 0 = 39 :: (Lx.dbl t ++ [39]) := by rw [Lx.wr, if_neg (by decide), if_pos rfl]; rfl
  have hd := Lx.dbl_len t
  have hf : Lx.frst (39 :: (Lx.dbl t ++ [39])) = ⟨0, 4, t, 0, (39 :: (Lx.dbl t ++ [39])).length⟩ := by
    rw [frst_tx (c := []) hl hv sep_nil, List.length_cons, List.length_append]
    rfl
  rw [Lx.shw, if_neg (by omega), hw, Lx.one_tok (Lx.bl_not (by decide)) hf (by rw [List.length_cons, List.length_append]; show _ + 1 + 1 ≤ _; omega), if_pos rfl]
  rfl
theorem Lz.text {t c : Bs} {ts : List Tk} (hl : t.length ≤ 1024) (hv : Lib.validD t = true) (hs : Sep c) (h : Lz c ts) : Lz ((Lx.shw 4 t 0).getD [] ++ c) (tt t :: ts) := by
  rw [shw_text hl hv]
  refine Lz.of rfl (by decide) ?_ h
  have e : Lx.dbl t ++ [39] ++ c = Lx.dbl t ++ 39 :: c := by rw [List.append_assoc]; rfl
  rw [e, frst_tx hl hv hs, List.length_cons, List.length_append]
  rfl
/-- a text that has some tokens, whatever stands behind it -/
structure LexC (t : Bs) (ks : List Tk) : Prop where
  lz : ∀ c ts, Sep c → Lz c ts → Lz (t ++ c) (ks ++ ts)
/-- numbers in a path -/
theorem digs_allD : ∀ l : Bs, digs l = true → Lx.allD l = true
  | [], _ => rfl
  | b :: r, h => by
    rw [digs, Bool.and_eq_true, decide_eq_true_iff] at h
    exact (Lx.allD_cons b r).2 ⟨h.1, digs_allD r h.2⟩
theorem numv_dv : ∀ (l : Bs) (a : Nat), numv a l = Lx.dv a l
  | [], _ => rfl
  | b :: r, a => by
    have h1 : numv a (b :: r) = numv (a * 10 + (b.toNat - 48)) r := rfl
    rw [h1, numv_dv r, Lx.dv_cons]
theorem nb_itoa {p : Bs} (h : isNb p = true) : Lib.itoa (numv 0 p : Nat) = p ∧ numv 0 p ≤ 9223372036854775807 := by
  cases p with
  | nil => cases h
  | cons b r =>
    rw [isNb, Bool.and_eq_true, Bool.and_eq_true, decide_eq_true_iff, Bool.or_eq_true, decide_eq_true_iff] at h
    obtain ⟨⟨h1, h2⟩, h3⟩ := h
    refine ⟨?_, by omega⟩
    rw [Lib.itoa_nonneg, numv_dv]
    refine Lx.dec_of (digs_allD _ h1) ?_
    rcases h3 with h3 | h3
    · exact .inr h3
    · exact .inl (List.isEmpty_iff.1 h3)
/-- a piece of a path as a token -/
def pk (p : Bs) : Tk := if isNm p then wd p else nb (numv 0 p : Nat)
def pathK : List Bs → List Tk
  | [] => []
  | p :: q :: r => pk p :: sg [46] :: pathK (q :: r)
  | [p] => [pk p]
theorem Lz.piece {p c : Bs} {ts : List Tk} (hp : (isNm p || isNb p) = true) (hs : Sep c) (h : Lz c ts) : Lz (p ++ c) (pk p :: ts) := by
  rw [pk]
  by_cases hn : isNm p = true
  · rw [if_pos hn]
    exact .name hn hs h
  · rw [if_neg hn]
    have hb : isNb p = true := by rw [Bool.or_eq_true] at hp; exact hp.resolve_left hn
    obtain ⟨e1, e2⟩ := nb_itoa hb
    have := Lz.num (n := ((numv 0 p : Nat) : Int)) (by omega) (by omega) hs h
    rw [e1] at this
    exact this
theorem sep_dot (c : Bs) : Sep (46 :: c) := sep_cons rfl (by decide)
theorem Lz.dot {c : Bs} {ts : List Tk} (h : Lz c ts) : Lz (46 :: c) (sg [46] :: ts) := .sign (by decide) (by decide) rfl rfl rfl (by decide) h
theorem lexc_path : ∀ l : List Bs, (∀ p ∈ l, (isNm p || isNb p) = true) → LexC (join [46] l) (pathK l)
  | [], _ => ⟨fun _ _ _ h => h⟩
  | [p], hp => ⟨fun c ts hs h => .piece (hp p (List.mem_cons_self ..)) hs h⟩
  | p :: q :: r, hp => ⟨fun c ts hs h => by
    have ih := (lexc_path (q :: r) (fun x hx => hp x (List.mem_cons_of_mem _ hx))).lz c ts hs h
    have e : join [46] (p :: q :: r) ++ c = p ++ (46 :: (join [46] (q :: r) ++ c)) := by
      rw [join]
      · simp
      · simp
    rw [e]
    exact .piece (hp p (List.mem_cons_self ..)) (sep_dot _) (.dot ih)⟩
theorem join_cut (c : UInt8) : ∀ t : Bs, join [c] (cut c t) = t
  | [] => rfl
  | b :: r => by
    have ih := join_cut c r
    have hn := cut_ne c r
    rw [cut]
    by_cases h : b = c
    · rw [if_pos h]
      cases hc : cut c r with
      | nil => exact absurd hc hn
      | cons p q =>
        rw [hc] at ih
        rw [join, ih, h]
        · rfl
        · simp
    · rw [if_neg h]
      cases hc : cut c r with
      | nil => exact absurd hc hn
      | cons p q =>
        rw [hc] at ih
        simp only
        cases q with
        | nil =>
          have e : p = r := ih
          show b :: p = b :: r
          rw [e]
        | cons y q =>
          have e1 : join [c] (p :: y :: q) = p ++ [c] ++ join [c] (y :: q) := by
            rw [join]
            simp
          have e2 : join [c] ((b :: p) :: y :: q) = (b :: p) ++ [c] ++ join [c] (y :: q) := by
            rw [join]
            simp
          rw [e1] at ih
          rw [e2, List.cons_append, List.cons_append, ih]
theorem ok_pieces : ∀ (i : Nat) (l : List Bs), okL i l = true → ∀ p ∈ l, (isNm p || isNb p) = true
  | _, [], _, p, hp => by cases hp
  | i, q :: r, h, p, hp => by
    rw [okL, Bool.and_eq_true] at h
    rcases List.mem_cons.1 hp with e | e
    · rw [e]
      have h1 := h.1
      rw [Bool.or_eq_true, Bool.and_eq_true] at h1
      rw [Bool.or_eq_true]
      exact h1.imp_right (fun x => x.2)
    · exact ok_pieces (i + 1) r h.2 p e
theorem path_first {t : Bs} (h : isPt t = true) : ∃ p l, cut 46 t = p :: l ∧ isNm p = true ∧ (∀ x ∈ p :: l, (isNm x || isNb x) = true) := by
  rw [isPt, Bool.and_eq_true] at h
  have hn := cut_ne 46 t
  cases hc : cut 46 t with
  | nil => exact absurd hc hn
  | cons p l =>
    have h2 := h.2
    rw [hc] at h2
    refine ⟨p, l, rfl, ?_, ok_pieces 0 _ h2⟩
    rw [okL, Bool.and_eq_true] at h2
    simpa using h2.1
theorem lexc_pt {t : Bs} (h : isPt t = true) : LexC t (pathK (cut 46 t)) := by
  obtain ⟨p, l, e, _, h2⟩ := path_first h
  have := lexc_path (cut 46 t) (by rw [e]; exact h2)
  rw [join_cut] at this
  exact this
/-- rows with commas between -/
def commaK : List (List Tk) → List Tk
  | [] => []
  | [x] => x
  | x :: y :: r => x ++ sg [44] :: commaK (y :: r)
theorem sep_comma (c : Bs) : Sep (44 :: c) := sep_cons rfl (by decide)
theorem Lz.comma {c : Bs} {ts : List Tk} (h : Lz c ts) : Lz (44 :: c) (sg [44] :: ts) := .sign (by decide) (by decide) rfl rfl rfl (by decide) h
theorem lexc_join {α : Type} (f : α → Bs) (g : α → List Tk) : ∀ l : List α, (∀ x ∈ l, LexC (f x) (g x)) → LexC (join [44, 32] (l.map f)) (commaK (l.map g))
  | [], _ => ⟨fun _ _ _ h => h⟩
  | [p], hp => hp p (List.mem_cons_self ..)
  | p :: q :: r, hp => ⟨fun c ts hs h => by
    have ih := (lexc_join f g (q :: r) (fun x hx => hp x (List.mem_cons_of_mem _ hx))).lz c ts hs h
    have e : join [44, 32] ((p :: q :: r).map f) ++ c = f p ++ (44 :: 32 :: (join [44, 32] ((q :: r).map f) ++ c)) := by
      rw [List.map_cons, List.map_cons, join]
      · simp
      · simp
    have e2 : commaK ((p :: q :: r).map g) ++ ts = g p ++ (sg [44] :: (commaK ((q :: r).map g) ++ ts)) := by
      rw [List.map_cons, List.map_cons, commaK]
      simp
    rw [e, e2]
    exact (hp p (List.mem_cons_self ..)).lz _ _ (sep_comma _) (.comma (.blank ih))⟩
end Ps
end Go.Proofs.YtfhkaffakniioaaGreatDoor
