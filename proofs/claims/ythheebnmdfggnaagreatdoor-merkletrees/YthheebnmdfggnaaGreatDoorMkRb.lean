/- The document's own answer: the path of a text. -/
import Derived.Test.YthheebnmdfggnaaGreatDoorMkRa
namespace Go.Proofs.YthheebnmdfggnaaGreatDoor
open Go.RowKit
attribute [local go_sem ↓] Go.wp_at_zero Go.wp_at_succ
theorem Mk.path_len (l : List Mk.Bs) (i : Nat) (h : l.length ≤ 1024) : (Mk.path l i).length ≤ 10 := by
  have := Mk.tw_len Mk.e1 10 (i + 1) l.length (by omega)
  simpa [Mk.path, Mk.aside_length] using this
def PathSays (n : Nat) : Prop := ∀ (l : List (List UInt8)), l.length = n → (∀ x ∈ l, x.length ≤ 140737488355328) → ∀ (i : Nat), i < n → ∀ (W : World) (a : Option Addr) (m c H : Nat), H ≤ W.heap.size → m ≤ c → Sl W H (.slice a m c) l →
  Calls Tryz.prog 24 #[.slice a m c, .int .i64 (i : Int)] W fun e w' => ∃ v, e = .returned v ∧ w'.ownsRow W.heap.size 9 1 v (Mk.path l i).length (scs (Mk.path l i)) ∧ Below W.heap.size W w'
set_option maxHeartbeats 2000000 in
theorem rpath_one : PathSays 1 := by
  intro l hl hx i hi W a m c H hH hmc hS
  have hm : m = 1 := hS.len.trans hl
  subst hm
  have hp : Mk.path l i = [] := Mk.path_one (by omega) i
  rw [hp]
  clear hp hx hS hl
  go_enter Tryz.func24, Tryz.ntmps24
  go_wp2
  go_ret
  exact ⟨_, rfl, ⟨rfl, .inl ⟨rfl, rfl⟩⟩, Below.refl _ _⟩
set_option maxHeartbeats 16000000 in
set_option maxRecDepth 10000 in
theorem rpath_more (n : Nat) (h2 : 2 ≤ n) (h1024 : n ≤ 1024) (ih : ∀ k, k < n → 1 ≤ k → PathSays k) : PathSays n := by
  intro l hl hx i hi W a m c H hH hmc hS
  have hm : m = n := hS.len.trans hl
  subst hm
  obtain ⟨i0, hi0, hz0, hz1, hz2⟩ := info_parts info9
  obtain ⟨b, off, rfl, -, hbH, hc⟩ := hS.at (by omega)
  obtain ⟨h, hh⟩ : ∃ h, h = Mk.half m := ⟨_, rfl⟩
  have hlt : h < m := by rw [hh]; exact Mk.half_lt h2
  have hpos : 1 ≤ h := by rw [hh]; exact Mk.half_pos m
  have CH : Hid (∀ W, Calls Tryz.prog 31 #[.int .i64 (m : Int)] W fun e w' => e = .returned (.int .i64 (h : Int)) ∧ W = w') := fun W => by rw [hh]; exact rhalf_c m h2 h1024 W
  have q1 : ((m : Int) == 1) = false := by rw [beq_eq_false_iff_ne]; omega
  have q2 : (0 : Int) ≤ (h : Int) := by omega
  have q3 : (h : Int) ≤ (m : Int) := by omega
  have q4 : (h : Int) ≤ (c : Int) := by omega
  have q5 : (m : Int) ≤ (c : Int) := by omega
  have q6 : ¬ c = h := by omega
  obtain ⟨P, hP⟩ : ∃ P, P = Mk.path l i := ⟨_, rfl⟩
  rw [← hP]
  by_cases hih : i < h
  · obtain ⟨P1, hP1⟩ : ∃ P1, P1 = Mk.path (l.take h) i := ⟨_, rfl⟩
    obtain ⟨r2, hr2⟩ : ∃ r : ByteArray, r = bs (Mk.root (l.drop h)) := ⟨_, rfl⟩
    have HPP : Hid (P = P1 ++ [Mk.root (l.drop h)] ∧ r2 = bs (Mk.root (l.drop h))) := ⟨by rw [hP, hP1, hh, ← hl]; exact Mk.path_left (by omega) (by rw [hl, ← hh]; exact hih), hr2⟩
    have hlen : P1.length ≤ 10 := by rw [hP1]; exact Mk.path_len _ _ (by rw [List.length_take]; omega)
    have C1 : Hid (∀ W1, Below W.heap.size W W1 → Calls Tryz.prog 24 #[.slice (some ⟨b, off, none⟩) h c, .int .i64 (i : Int)] W1 fun e w' => ∃ v, e = .returned v ∧ w'.ownsRow W1.heap.size 9 1 v P1.length (scs P1) ∧ Below W1.heap.size W1 w') := fun W1 hW => by
      rw [hP1]
      exact ih h hlt hpos (l.take h) (by rw [List.length_take]; omega) (fun x hx' => hx x (List.mem_of_mem_take hx')) i hih W1 _ h c H (Nat.le_trans hH hW.size) (by omega) (Sl.take (hS.stays hW hH) h c (by omega))
    have C2 : Hid (∀ W1, Below W.heap.size W W1 → Calls Tryz.prog 12 #[.slice (some ⟨b, off + h, none⟩) (m - h) (c - h)] W1 fun e w' => e = .returned (.string r2) ∧ Below W1.heap.size W1 w') := fun W1 hW => by
      have := Sl.drop (hS.stays hW hH) h (c - h)
      rw [hl] at this
      rw [hr2]
      exact rroot_all (m - h) (by omega) (l.drop h) (by rw [List.length_drop]; omega) (fun x hx' => hx x (List.mem_of_mem_drop hx')) W1 _ (m - h) (c - h) H (Nat.le_trans hH hW.size) (by omega) this
    have q7 : (i : Int) < (h : Int) := by omega
    obtain ⟨k1, hk1⟩ : ∃ k, k = P1.length := ⟨_, rfl⟩
    have HK1 : Hid (k1 = P1.length) := hk1
    rw [← hk1] at hlen C1
    have fit63 : Hid (k1 + 1 ≤ maxLen) := by show _ ≤ _; unfold maxLen; omega
    have fit47 : Hid ((k1 + 1) * 16 ≤ 140737488355328) := by show _ ≤ _; omega
    clear hh hS hc hx ih hl hr2 hP hP1 hk1
    go_enter Tryz.func24, Tryz.ntmps24
    go_wp2_with (go_at_call 31; refine (CH.out _).mono ?_; rintro e w' ⟨rfl, rfl⟩)
    go_region_law (first
      | (go_simp; go_at_call 24; refine (C1.out _ ?_).mono ?_; (first | exact Below.refl _ _ | exact (Below.refl _ _).drew); rintro e w1 ⟨v1, rfl, ho1, hb1⟩
         have B1 : Hid (Below W.heap.size W w1) := (by first | exact hb1 | exact (Below.refl _ _).drew.trans hb1)
         have O1 : Hid (w1.ownsRow W.heap.size 9 1 v1 k1 (scs P1)) := ho1
         clear ho1 hb1)
      | (go_simp; go_at_call 12; refine (C2.out _ ?_).mono ?_; (first | exact B1.out | exact B1.out.drew); rintro e w2 ⟨rfl, hb2⟩
         have B12 : Hid (Below w1.heap.size w1 w2) := (by first | exact hb2 | exact (Below.refl _ _).drew.trans hb2)
         have O2 : Hid (w2.ownsRow W.heap.size 9 1 v1 k1 (scs P1)) := own_stays O1.out B12.out
         have HBS : Hid (∀ q, v1.ownBlock = some q → W.heap.size ≤ q) := own_le O2.out
         have hs2 : W.heap.size ≤ w2.heap.size := Nat.le_trans B1.out.size B12.out.size
         have AL : Hid (∀ o, Below W.heap.size W (w2.alloc o)) := fun o => (B1.out.trans (B12.out.mono B1.out.size)).alloc hs2 o
         clear hb2)
      | (refine step_append_lies _ (by rfl) _ _ _ (by rfl) W.heap.size 9 i0 _ 1 16 Tryz.underlying22 hi0 hz0 hz1 hz2 rfl (by omega) _ _ _ (by rfl) (O2.out.alloc _) ⟨w2.heap.size, 0, none⟩ 1 1 [.string r2] (by rfl) (by rfl) (World.news_of_block (heap_alloc_new w2 _)) (by simp [Value.oneCell']) (by omega) fit63.out fit47.out (by simp; omega) (w2.heap.size + 1) (by simp) ?_; intro gg cap2 w5 hown5 hgrow hat hglt
         have N5 : Hid (w5.ownsRow W.heap.size 9 1 (.slice (some ⟨gg, 0, none⟩) (k1 + 1) cap2) (k1 + 1) (scs P1 ++ [.string r2])) := hown5
         have N6 : Hid (Below W.heap.size W w5) := (AL.out _).grown hgrow (by simp; omega) HBS.out
         clear hown5 hgrow hat hglt))
    all_goals
      go_wp2
      go_ret
      refine ⟨_, rfl, ?_, N6.out⟩
      have e1 : scs P = scs P1 ++ [.string r2] := by rw [HPP.out.1, HPP.out.2]; simp [scs, encS]
      have e2 : P.length = k1 + 1 := by rw [HPP.out.1, List.length_append, ← HK1.out]; rfl
      rw [e1, e2]
      exact N5.out
  · obtain ⟨P1, hP1⟩ : ∃ P1, P1 = Mk.path (l.drop h) (i - h) := ⟨_, rfl⟩
    obtain ⟨r2, hr2⟩ : ∃ r : ByteArray, r = bs (Mk.root (l.take h)) := ⟨_, rfl⟩
    have HPP : Hid (P = P1 ++ [Mk.root (l.take h)] ∧ r2 = bs (Mk.root (l.take h))) := ⟨by rw [hP, hP1, hh, ← hl]; exact Mk.path_right (by omega) (by rw [hl, ← hh]; exact hih), hr2⟩
    have hlen : P1.length ≤ 10 := by rw [hP1]; exact Mk.path_len _ _ (by rw [List.length_drop]; omega)
    have C1 : Hid (∀ W1, Below W.heap.size W W1 → Calls Tryz.prog 24 #[.slice (some ⟨b, off + h, none⟩) (m - h) (c - h), .int .i64 ((i : Int) - (h : Int))] W1 fun e w' => ∃ v, e = .returned v ∧ w'.ownsRow W1.heap.size 9 1 v P1.length (scs P1) ∧ Below W1.heap.size W1 w') := fun W1 hW => by
      have := Sl.drop (hS.stays hW hH) h (c - h)
      rw [hl] at this
      rw [hP1, show (i : Int) - (h : Int) = ((i - h : Nat) : Int) by omega]
      exact ih (m - h) (by omega) (by omega) (l.drop h) (by rw [List.length_drop]; omega) (fun x hx' => hx x (List.mem_of_mem_drop hx')) (i - h) (by omega) W1 _ (m - h) (c - h) H (Nat.le_trans hH hW.size) (by omega) this
    have C2 : Hid (∀ W1, Below W.heap.size W W1 → Calls Tryz.prog 12 #[.slice (some ⟨b, off, none⟩) h c] W1 fun e w' => e = .returned (.string r2) ∧ Below W1.heap.size W1 w') := fun W1 hW => by
      rw [hr2]
      exact rroot_all h (by omega) (l.take h) (by rw [List.length_take]; omega) (fun x hx' => hx x (List.mem_of_mem_take hx')) W1 _ h c H (Nat.le_trans hH hW.size) (by omega) (Sl.take (hS.stays hW hH) h c (by omega))
    have q7 : ¬ (i : Int) < (h : Int) := by omega
    have q8 : (h : Int) ≤ (i : Int) := by omega
    have q9 : (i : Int) ≤ 1024 := by omega
    have qw : IntKind.i64.wrap ((i : Int) - (h : Int)) = (i : Int) - (h : Int) := by rw [IntKind.wrap_i64]; omega
    obtain ⟨k1, hk1⟩ : ∃ k, k = P1.length := ⟨_, rfl⟩
    have HK1 : Hid (k1 = P1.length) := hk1
    rw [← hk1] at hlen C1
    have fit63 : Hid (k1 + 1 ≤ maxLen) := by show _ ≤ _; unfold maxLen; omega
    have fit47 : Hid ((k1 + 1) * 16 ≤ 140737488355328) := by show _ ≤ _; omega
    clear hh hS hc hx ih hl hr2 hP hP1 hk1
    go_enter Tryz.func24, Tryz.ntmps24
    go_wp2_with (go_at_call 31; refine (CH.out _).mono ?_; rintro e w' ⟨rfl, rfl⟩)
    go_region_law (first
      | (go_simp; go_at_call 24; refine (C1.out _ ?_).mono ?_; (first | exact Below.refl _ _ | exact (Below.refl _ _).drew); rintro e w1 ⟨v1, rfl, ho1, hb1⟩
         have B1 : Hid (Below W.heap.size W w1) := (by first | exact hb1 | exact (Below.refl _ _).drew.trans hb1)
         have O1 : Hid (w1.ownsRow W.heap.size 9 1 v1 k1 (scs P1)) := ho1
         clear ho1 hb1)
      | (go_simp; go_at_call 12; refine (C2.out _ ?_).mono ?_; (first | exact B1.out | exact B1.out.drew); rintro e w2 ⟨rfl, hb2⟩
         have B12 : Hid (Below w1.heap.size w1 w2) := (by first | exact hb2 | exact (Below.refl _ _).drew.trans hb2)
         have O2 : Hid (w2.ownsRow W.heap.size 9 1 v1 k1 (scs P1)) := own_stays O1.out B12.out
         have HBS : Hid (∀ q, v1.ownBlock = some q → W.heap.size ≤ q) := own_le O2.out
         have hs2 : W.heap.size ≤ w2.heap.size := Nat.le_trans B1.out.size B12.out.size
         have AL : Hid (∀ o, Below W.heap.size W (w2.alloc o)) := fun o => (B1.out.trans (B12.out.mono B1.out.size)).alloc hs2 o
         clear hb2)
      | (refine step_append_lies _ (by rfl) _ _ _ (by rfl) W.heap.size 9 i0 _ 1 16 Tryz.underlying22 hi0 hz0 hz1 hz2 rfl (by omega) _ _ _ (by rfl) (O2.out.alloc _) ⟨w2.heap.size, 0, none⟩ 1 1 [.string r2] (by rfl) (by rfl) (World.news_of_block (heap_alloc_new w2 _)) (by simp [Value.oneCell']) (by omega) fit63.out fit47.out (by simp; omega) (w2.heap.size + 1) (by simp) ?_; intro gg cap2 w5 hown5 hgrow hat hglt
         have N5 : Hid (w5.ownsRow W.heap.size 9 1 (.slice (some ⟨gg, 0, none⟩) (k1 + 1) cap2) (k1 + 1) (scs P1 ++ [.string r2])) := hown5
         have N6 : Hid (Below W.heap.size W w5) := (AL.out _).grown hgrow (by simp; omega) HBS.out
         clear hown5 hgrow hat hglt))
    all_goals
      go_wp2
      go_ret
      refine ⟨_, rfl, ?_, N6.out⟩
      have e1 : scs P = scs P1 ++ [.string r2] := by rw [HPP.out.1, HPP.out.2]; simp [scs, encS]
      have e2 : P.length = k1 + 1 := by rw [HPP.out.1, List.length_append, ← HK1.out]; rfl
      rw [e1, e2]
      exact N5.out
theorem rpath_all (n : Nat) (h1 : 1 ≤ n) (h1024 : n ≤ 1024) : PathSays n := by
  induction n using Nat.strongRecOn with
  | _ n ih =>
    by_cases h2 : 2 ≤ n
    · exact rpath_more n h2 h1024 (fun k hk hk1 => ih k hk hk1 (by omega))
    · have : n = 1 := by omega
      subst this; exact rpath_one
set_option maxHeartbeats 2000000 in
theorem rPath_out (a : Option Addr) (n c : Nat) (i : Int) (hi : i < 0 ∨ (n : Int) ≤ i) (w : World) :
    Calls Tryz.prog 9 #[.slice a n c, .int .i64 i] w fun e w' => e = .returned (.tuple #[.slice none 0 0, .int .i64 2]) ∧ w = w' := by
  by_cases h0 : i < 0
  · clear hi
    go_enter Tryz.func9, Tryz.ntmps9
    go_wp2
    go_ret2
    exact ⟨rfl, rfl⟩
  · have h1 : (n : Int) ≤ i := hi.resolve_left h0
    clear hi
    go_enter Tryz.func9, Tryz.ntmps9
    go_wp2
    go_ret2
    exact ⟨rfl, rfl⟩
set_option maxHeartbeats 2000000 in
theorem rPath_in (l : List (List UInt8)) (hl : l.length ≤ 1024) (hx : ∀ x ∈ l, x.length ≤ 140737488355328) (i : Nat) (hi : i < l.length) (a : Option Addr) (n c H : Nat) (w : World) (hH : H ≤ w.heap.size) (hnc : n ≤ c) (hS : Sl w H (.slice a n c) l) :
    Calls Tryz.prog 9 #[.slice a n c, .int .i64 (i : Int)] w fun e w' => ∃ v, e = .returned (.tuple #[v, .int .i64 0]) ∧ w'.ownsRow w.heap.size 9 1 v (Mk.path l i).length (scs (Mk.path l i)) ∧ Below w.heap.size w w' := by
  have C : Hid (Calls Tryz.prog 24 #[.slice a n c, .int .i64 (i : Int)] w fun e w' => ∃ v, e = .returned v ∧ w'.ownsRow w.heap.size 9 1 v (Mk.path l i).length (scs (Mk.path l i)) ∧ Below w.heap.size w w') := rpath_all l.length (by omega) hl l rfl hx i hi w a n c H hH hnc hS
  have hn := hS.len
  have q1 : ¬ (i : Int) < 0 := by omega
  have q2 : ¬ (n : Int) ≤ (i : Int) := by omega
  have q3 : (i : Int) < (n : Int) := by omega
  clear hx hS hn hi hl
  go_enter Tryz.func9, Tryz.ntmps9
  go_wp2_with fail
  refine C.out.mono ?_
  rintro e w1 ⟨v, rfl, ho, hb⟩
  go_wp2
  go_ret2
  exact ⟨v, rfl, ho, hb⟩
end Go.Proofs.YthheebnmdfggnaaGreatDoor
