/- Several texts, joined: MkH, MkI, MkJ, MkK, MkL, MkN -/
import Derived.Test.YtggnfejjcgbebaaGreatDoorJOM
import Derived.Defers
import Derived.Laws.Pointers
import Derived.Laws.LoneSync
import Derived.RegionCalls
import Derived.Laws.EntriesVeiled
/- The digests of a tree: parts, each made of two. -/
namespace Go.Proofs.YtggnfejjcgbebaaGreatDoor
open Go.RowKit
attribute [local go_sem ↓] Go.wp_at_zero Go.wp_at_succ
inductive Pt (W:World):Nat→List (List UInt8)→Prop
  | leaf (p:Nat) (l:List (List UInt8)) (hl:l.length<2) (h:W.heap[p]?=some (.cells #[.string (bs (Mk.root l)),.pointer none,.pointer none] 141 (0,0))):Pt W p l
  | node (p q r:Nat) (l:List (List UInt8)) (hl:2≤l.length) (h:W.heap[p]?=some (.cells #[.string (bs (Mk.root l)),.pointer (some ⟨q,0,none⟩),.pointer (some ⟨r,0,none⟩)] 141 (0,0)))
      (hq:Pt W q (l.take (Mk.half l.length))) (hr:Pt W r (l.drop (Mk.half l.length))):Pt W p l
theorem Pt.stays {W W':World} (hs:∀(p:Nat) C,W.heap[p]?=some (.cells C 141 (0,0))→W'.heap[p]?=some (.cells C 141 (0,0))) {p:Nat} {l:List (List UInt8)} (h:Pt W p l):Pt W' p l:=by
  induction h with
  | leaf p l hl h=>exact .leaf p l hl (hs _ _ h)
  | node p q r l hl h _ _ i1 i2=>exact .node p q r l hl (hs _ _ h) i1 i2
theorem Pt.call {W W':World} (hb:Below W.heap.size W W') {p:Nat} {l:List (List UInt8)} (h:Pt W p l):Pt W' p l :=
  h.stays fun p _ e=>(hb.block p (Array.getElem?_eq_some_iff.1 e).1).trans e
theorem Pt.root {W:World} {p:Nat} {l:List (List UInt8)} (h:Pt W p l):W.cell? ⟨p,0,none⟩=some (.string (bs (Mk.root l))):=by
  cases h with
  | leaf _ _ _ h=>rw [cell_of_row W _ _ _ 141 (0,0) h];rfl
  | node _ _ _ _ _ h=>rw [cell_of_row W _ _ _ 141 (0,0) h];rfl
theorem Pt.lt {W:World} {p:Nat} {l:List (List UInt8)} (h:Pt W p l):p<W.heap.size:=by
  cases h with
  | leaf _ _ _ h=>exact (Array.getElem?_eq_some_iff.1 h).1
  | node _ _ _ _ _ h=>exact (Array.getElem?_eq_some_iff.1 h).1
theorem Pt.two {W:World} {p:Nat} {l:List (List UInt8)} (h:Pt W p l) (hl:2≤l.length):∃q r,W.cell? ⟨p,1,none⟩=some (.pointer (some ⟨q,0,none⟩))∧W.cell? ⟨p,2,none⟩=some (.pointer (some ⟨r,0,none⟩))∧Pt W q (l.take (Mk.half l.length))∧Pt W r (l.drop (Mk.half l.length)):=by
  cases h with
  | leaf _ _ hl' h=>omega
  | node _ q r _ _ h hq hr=>exact ⟨q,r,by rw [cell_of_row W _ _ _ 141 (0,0) h];rfl,by rw [cell_of_row W _ _ _ 141 (0,0) h];rfl,hq,hr⟩
theorem Sl.take {W:World} {H b off n c:Nat} {l:List (List UInt8)} (h:Sl W H (.slice (some ⟨b,off,none⟩) n c) l) (k c':Nat) (hk:k≤l.length):Sl W H (.slice (some ⟨b,off,none⟩) k c') (l.take k):=by
  rcases h with ⟨h,_⟩ | ⟨b',o',c',h1,h2,h3⟩
  · subst h
    have hk0:k=0:=by simpa using hk
    subst hk0
    exact .inl ⟨rfl,_,_,rfl⟩
  · injection h1 with e1 e2 e3
    injection e1 with e1
    injection e1 with e4 e5
    subst e4 e5
    refine .inr ⟨b,off,_,by rw [List.length_take,Nat.min_eq_left hk],h2,fun j x hj=>h3 j x ?_⟩
    rw [List.getElem?_take] at hj
    split at hj
    · exact hj
    · cases hj
theorem Sl.drop {W:World} {H b off n c:Nat} {l:List (List UInt8)} (h:Sl W H (.slice (some ⟨b,off,none⟩) n c) l) (k c':Nat):Sl W H (.slice (some ⟨b,off+k,none⟩) (l.length - k) c') (l.drop k):=by
  rcases h with ⟨h,_⟩ | ⟨b',o',c',h1,h2,h3⟩
  · subst h
    exact .inl ⟨by simp,_,_,by simp;exact ⟨rfl,rfl⟩⟩
  · injection h1 with e1 e2 e3
    injection e1 with e1
    injection e1 with e4 e5
    subst e4 e5
    refine .inr ⟨b,off+k,_,by rw [List.length_drop],h2,fun j x hj=>?_⟩
    rw [List.getElem?_drop] at hj
    have:=h3 (k+j) x hj
    rwa [←Nat.add_assoc] at this
def GrowSays (n:Nat):Prop:=∀(l:List (List UInt8)),l.length=n→(∀x∈l,x.length≤140737488355328)→∀(W:World) (a:Option Addr) (m c H gv:Nat),HasK W→H≤W.heap.size→m≤c→Sl W H (.slice a m c) l→W.cell? ⟨gv,0,none⟩=some (.func (.func 139) #[] #[.pointer (some ⟨gv,0,none⟩)])→gv<W.heap.size →
  Calls Tryz.prog 139 #[.slice a m c,.pointer (some ⟨gv,0,none⟩)] W fun e w'=>∃p,e=.returned (.pointer (some ⟨p,0,none⟩))∧Pt w' p l∧W.heap.size≤p∧Below W.heap.size W w'
theorem field_made (x y:Value) (wx:World):(Instr.field 178 (.agg #[x,y]) 1).run Tryz.prog wx=.ok y wx:=by kernel_rfl
set_option maxHeartbeats 2000000 in
set_option maxRecDepth 10000 in
theorem grow_few (n:Nat) (hn:n<2):GrowSays n:=by
  intro l hl hx W a m c H gv hK hH hmc hS hgv hgl
  have hm:m=n:=hS.len.trans hl
  have hlen:=hS.len
  match n,hn with
  | 0,_ =>
    have hl0:l=[]:=List.eq_nil_of_length_eq_zero hl
    subst hm
    obtain ⟨d,hd⟩:∃d:ByteArray,d=bs (Sh.sum []):=⟨_,rfl⟩
    have C:Hid (Calls Tryz.prog 55 #[.string ⟨#[]⟩] W fun e w'=>e=.returned (.string d)∧Below W.heap.size W w'):=by
      show Calls _ _ _ _ _
      rw [hd];exact sum9 ⟨#[]⟩ (by decide) W hK
    have HD:Hid (d=bs (Mk.root l)):=by show _=_;rw [hd,hl0,Mk.root_none]
    have HL:Hid (l.length<2):=by show _<_;omega
    clear hd hl0 hx hS hgv hgl hl hlen
    go_enter Tryz.func139,Tryz.ntmps139
    go_wp2_with fail
    refine C.out.mono ?_
    rintro e w1 ⟨rfl,hb1⟩
    have HB:Hid (Below W.heap.size W w1):=hb1
    clear hb1
    go_wp2
    go_ret
    refine ⟨w1.heap.size,rfl,.leaf _ l HL.out ?_,HB.out.size,HB.out.alloc HB.out.size _⟩
    rw [←HD.out];exact heap_alloc_new w1 _
  | 1,_ =>
    obtain ⟨x,hl1⟩:∃x,l=[x]:=List.length_eq_one_iff.1 hl
    subst hm
    obtain ⟨b,off,rfl,-,-,hc⟩:=hS.at (by omega)
    obtain ⟨s,hs⟩:∃s:ByteArray,s=bs x:=⟨_,rfl⟩
    have hcell:W.cell? ⟨b,off,none⟩=some (.string s):=by rw [hs];exact hc 0 x (by rw [hl1];rfl)
    obtain ⟨t,ht⟩:∃t:ByteArray,t=bs (Mk.leafT s.data.toList):=⟨_,rfl⟩
    obtain ⟨d,hd⟩:∃d:ByteArray,d=bs (Sh.sum (Mk.leafT s.data.toList)):=⟨_,rfl⟩
    have C:Hid (Calls Tryz.prog 140 #[.string s] W fun e w'=>e=.returned (.agg #[.string t,.string d])∧Below W.heap.size W w'):=by
      show Calls _ _ _ _ _
      rw [ht,hd];exact leaf_c s (by rw [hs,bs_size];exact hx x (by rw [hl1];simp)) W hK
    have HD:Hid (d=bs (Mk.root l)):=by show _=_;rw [hd,hl1,Mk.root_one,hs];rfl
    have HL:Hid (l.length<2):=by show _<_;omega
    have hf:=fun wx=>field_made (.string t) (.string d) wx
    clear hd ht hl1 hs hx hS hgv hgl hl hlen hc
    go_enter Tryz.func139,Tryz.ntmps139
    go_wp2_with fail
    refine C.out.mono ?_
    rintro e w1 ⟨rfl,hb1⟩
    have HB:Hid (Below W.heap.size W w1):=hb1
    clear hb1
    go_wp2
    go_ret
    refine ⟨w1.heap.size,rfl,.leaf _ l HL.out ?_,HB.out.size,HB.out.alloc HB.out.size _⟩
    rw [←HD.out];exact heap_alloc_new w1 _
theorem root_halves (l:List (List UInt8)) (m h:Nat) (hl:l.length=m) (hh:h=Mk.half m) (h2:2≤m):Mk.root l=Mk.node (Mk.root (l.take h)) (Mk.root (l.drop h)):=by
  subst hh hl
  exact Mk.root_two h2
theorem pt_new {w w3:World} {p1 p2:Nat} {l:List (List UInt8)} {m h:Nat} {d:ByteArray} (hl:l.length=m∧h=Mk.half m) (h2:2≤m) (hd:d=bs (Mk.root l)) (h1:Pt w p1 (l.take h)) (h3:Pt w p2 (l.drop h)) (hb:Below w.heap.size w w3) :
    Pt (w3.alloc (.cells #[.string d,.pointer (some ⟨p1,0,none⟩),.pointer (some ⟨p2,0,none⟩)] 141)) w3.heap.size l:=by
  obtain ⟨rfl,rfl⟩:=hl
  have hn:Below w3.heap.size w3 (w3.alloc (.cells #[.string d,.pointer (some ⟨p1,0,none⟩),.pointer (some ⟨p2,0,none⟩)] 141)):=(Below.refl _ _).alloc (Nat.le_refl _) _
  exact .node _ p1 p2 l h2 (by rw [←hd];exact heap_alloc_new w3 _) ((h1.call hb).call hn) ((h3.call hb).call hn)
theorem Pt.drew {W:World} {p:Nat} {l:List (List UInt8)} (h:Pt W p l):Pt W.drew p l:=h.call ((Below.refl _ _).drew)
set_option maxHeartbeats 8000000 in
set_option maxRecDepth 10000 in
theorem grow_more (n:Nat) (h2:2≤n) (h1024:n≤1024) (ih:∀k,k<n→GrowSays k):GrowSays n:=by
  intro l hl hx W a m c H gv hK hH hmc hS hgv hgl
  have hm:m=n:=hS.len.trans hl
  subst hm
  obtain ⟨b,off,rfl,-,hbH,hc⟩:=hS.at (by omega)
  obtain ⟨h,hh⟩:∃h,h=Mk.half m:=⟨_,rfl⟩
  have hlt:h<m:=by rw [hh];exact Mk.half_lt h2
  have hpos:1≤h:=by rw [hh];exact Mk.half_pos m
  have CH:Hid (∀W,Calls Tryz.prog 141 #[.int .i64 (m:Int)] W fun e w'=>e=.returned (.int .i64 (h:Int))∧W=w'):=fun W=>by rw [hh];exact half_c m h2 h1024 W
  have G1:Hid (∀W1,Below W.heap.size W W1→Calls Tryz.prog 139 #[.slice (some ⟨b,off,none⟩) h c,.pointer (some ⟨gv,0,none⟩)] W1 fun e w'=>∃p,e=.returned (.pointer (some ⟨p,0,none⟩))∧Pt w' p (l.take h)∧W1.heap.size≤p∧Below W1.heap.size W1 w'):=fun W1 hW =>
    ih h hlt (l.take h) (by rw [List.length_take];omega) (fun x hx'=>hx x (List.mem_of_mem_take hx')) W1 _ h c H gv (hK.below hK.1 hW) (Nat.le_trans hH hW.size) (by omega) (Sl.take (hS.stays hW hH) h c (by omega)) ((hW.cell (p:=⟨gv,0,none⟩) hgl).trans hgv) (Nat.lt_of_lt_of_le hgl hW.size)
  have G2:Hid (∀W1,Below W.heap.size W W1→Calls Tryz.prog 139 #[.slice (some ⟨b,off+h,none⟩) (m - h) (c - h),.pointer (some ⟨gv,0,none⟩)] W1 fun e w'=>∃p,e=.returned (.pointer (some ⟨p,0,none⟩))∧Pt w' p (l.drop h)∧W1.heap.size≤p∧Below W1.heap.size W1 w'):=fun W1 hW=>by
    have:=Sl.drop (hS.stays hW hH) h (c - h)
    rw [hl] at this
    exact ih (m - h) (by omega) (l.drop h) (by rw [List.length_drop];omega) (fun x hx'=>hx x (List.mem_of_mem_drop hx')) W1 _ (m - h) (c - h) H gv (hK.below hK.1 hW) (Nat.le_trans hH hW.size) (by omega) this ((hW.cell (p:=⟨gv,0,none⟩) hgl).trans hgv) (Nat.lt_of_lt_of_le hgl hW.size)
  have HK:Hid (HasK W):=hK
  have HL:Hid (l.length=m∧h=Mk.half m):=⟨hl,hh⟩
  have q0:((m:Int)==0)=false:=by rw [beq_eq_false_iff_ne];omega
  have q1:((m:Int)==1)=false:=by rw [beq_eq_false_iff_ne];omega
  have q2:(0:Int)≤(h:Int):=by omega
  have q3:(h:Int)≤(m:Int):=by omega
  have q4:(h:Int)≤(c:Int):=by omega
  have q5:(m:Int)≤(c:Int):=by omega
  have q6:¬c=h:=by omega
  clear hh hS hc hx ih hl hK
  go_enter Tryz.func139,Tryz.ntmps139
  go_wp2_with (go_at_call 141;refine (CH.out _).mono ?_;rintro e w' ⟨rfl,rfl⟩)
  go_region_law (first
    | (go_simp;go_at_call_of 139 (Value.slice (some ⟨b,off,none⟩) h c);refine (G1.out _ ?_).mono ?_;(first | exact Below.refl _ _ | exact (Below.refl _ _).drew);rintro e w1 ⟨p1,rfl,hp1,hq1,hb1⟩
       have HB1:Hid (Below W.heap.size W w1):=(by first | exact (Below.refl _ _).drew.trans hb1 | exact hb1)
       have HP1:Hid (Pt w1 p1 (l.take h)):=hp1
       have hgv1:w1.cell? ⟨gv,0,none⟩=some (.func (.func 139) #[] #[.pointer (some ⟨gv,0,none⟩)]):=(HB1.out.cell (p:=⟨gv,0,none⟩) hgl).trans hgv
       clear hp1 hq1 hb1)
    | (go_simp;go_at_call_of 139 (Value.slice (some ⟨b,off+h,none⟩) (m - h) (c - h));refine (G2.out _ ?_).mono ?_;(first | exact HB1.out | exact HB1.out.drew);rintro e w2 ⟨p2,rfl,hp2,hq2,hb2⟩
       have HB12:Hid (Below w1.heap.size w1 w2):=(by first | exact (Below.refl _ _).drew.trans hb2 | exact hb2)
       have HP2:Hid (Pt w2 p2 (l.drop h)):=hp2
       clear hp2 hq2 hb2))
  all_goals
    have HB2:Hid (Below W.heap.size W w2):=HB1.out.trans (HB12.out.mono HB1.out.size)
    have HQ1:Hid (Pt w2 p1 (l.take h)):=HP1.out.call HB12.out
    obtain ⟨r1,hr1⟩:∃r:ByteArray,r=bs (Mk.root (l.take h)):=⟨_,rfl⟩
    obtain ⟨r2,hr2⟩:∃r:ByteArray,r=bs (Mk.root (l.drop h)):=⟨_,rfl⟩
    obtain ⟨t,ht⟩:∃t:ByteArray,t=bs (Mk.nodeT r1.data.toList r2.data.toList):=⟨_,rfl⟩
    obtain ⟨d,hd⟩:∃d:ByteArray,d=bs (Sh.sum (Mk.nodeT r1.data.toList r2.data.toList)):=⟨_,rfl⟩
    have CN:Hid (∀W1,Below W.heap.size W W1→Calls Tryz.prog 142 #[.string r1,.string r2] W1 fun e w'=>e=.returned (.agg #[.string t,.string d])∧Below W1.heap.size W1 w'):=fun W1 hW=>by
      rw [ht,hd]
      exact node_c r1 r2 (by rw [hr1,bs_size,Mk.root_length];omega) (by rw [hr2,bs_size,Mk.root_length];omega) W1 (HK.out.below HK.out.1 hW)
    have c1:w2.cell? ⟨p1,0,none⟩=some (.string r1):=by rw [hr1];exact HQ1.out.root
    have c2:w2.cell? ⟨p2,0,none⟩=some (.string r2):=by rw [hr2];exact HP2.out.root
    have HD:Hid (d=bs (Mk.root l)):=by
      show _=_
      rw [hd,hr1,hr2,root_halves l m h HL.out.1 HL.out.2 h2];rfl
    have hf:=fun wx=>field_made (.string t) (.string d) wx
    clear hr1 hr2 ht hd HP1 hgv hgv1 G1 G2
    go_wp2
    go_region_law (first
      | (go_simp;go_at_call 142;refine (CN.out _ ?_).mono ?_;(first | exact HB2.out | exact HB2.out.drew);rintro e w3 ⟨rfl,hb3⟩
         have HB3:Hid (Below w2.heap.size w2 w3):=(by first | exact (Below.refl _ _).drew.trans hb3 | exact hb3)
         clear hb3))
    all_goals
      go_wp2
      go_ret
      have hs2:=HB2.out.size
      have hs3:=HB3.out.size
      have N:=pt_new HL.out h2 HD.out HQ1.out HP2.out HB3.out
      have NB:=(HB2.out.trans (HB3.out.mono hs2)).alloc (Nat.le_trans hs2 hs3) (.cells #[.string d,.pointer (some ⟨p1,0,none⟩),.pointer (some ⟨p2,0,none⟩)] 141)
      first | exact ⟨w3.heap.size,rfl,N,Nat.le_trans hs2 hs3,NB⟩ | exact ⟨w3.heap.size,rfl,N.drew,Nat.le_trans hs2 hs3,NB.drew⟩
theorem grow_c (n:Nat) (h1024:n≤1024):GrowSays n:=by
  induction n using Nat.strongRecOn with
  | _ n ih =>
    by_cases h:n<2
    · exact grow_few n h
    · exact grow_more n (by omega) h1024 (fun k hk=>ih k hk (by omega))
end Go.Proofs.YtggnfejjcgbebaaGreatDoor
/- The digests are made once: sync.Once, by one goroutine. -/
namespace Go.Proofs.YtggnfejjcgbebaaGreatDoor
open Go.RowKit
theorem race_disable (w:World):(callFunc 167 #[]).run Tryz.prog w=.ok (.value (.tuple #[])) w:=run_call_mark0 Tryz.func167 (by kernel_rfl) (by kernel_rfl) (by kernel_rfl) .disable (by kernel_rfl) w
theorem race_enable (w:World):(callFunc 169 #[]).run Tryz.prog w=.ok (.value (.tuple #[])) w:=run_call_mark0 Tryz.func169 (by kernel_rfl) (by kernel_rfl) (by kernel_rfl) .enable (by kernel_rfl) w
theorem race_acquire (a:Addr) (w:World):(callFunc 170 #[.pointer (some a)]).run Tryz.prog w=.ok (.value (.tuple #[])) w:=run_call_marked Tryz.func170 (by kernel_rfl) (by kernel_rfl) (by kernel_rfl) .acquire (by kernel_rfl) a w
theorem race_release (a:Addr) (w:World):(callFunc 172 #[.pointer (some a)]).run Tryz.prog w=.ok (.value (.tuple #[])) w:=run_call_marked Tryz.func172 (by kernel_rfl) (by kernel_rfl) (by kernel_rfl) .releaseMerge (by kernel_rfl) a w
theorem store_deferred (a:Addr) (x:Value) (u:FrameMode) (w:World) (hc:w.cell? a=some x) (hz:w.frozen? a=false) :
    CallsD Tryz.prog 160 #[.pointer (some a),.bool true] u w fun e u' w'=>u'=u∧(e=.returned (.tuple #[])∧w'=w.drew.setCell a (.int .u32 1)):=by
  have hc':w.drew.cell? a=some x:=by go_simp
  have hz':w.drew.frozen? a=false:=by go_simp
  have hst:=run_call_store (P:=Tryz.prog) Tryz.func165 (by kernel_rfl) (by kernel_rfl) (by kernel_rfl) (by kernel_rfl) (k:=.u32) (y:=1) hc' hz'
  go_enter_d Tryz.func160,Tryz.ntmps160
  go_wp2
  go_region_calls
  all_goals (go_end0;exact ⟨rfl,rfl⟩)
set_option maxRecDepth 100000 in
set_option maxHeartbeats 1600000 in
theorem unlock_deferred (a:Addr) (u:FrameMode) (w:World) (hc:w.cell? a=some (.int .i32 1)) (hz:w.frozen? a=false) :
    CallsD Tryz.prog 159 #[.pointer (some a)] u w fun e u' w'=>u'=u∧(e=.returned (.tuple #[])∧w'=w.setCell a (.int .i32 0)):=by
  have hd:=race_disable
  have he:=race_enable
  have hr:=race_release
  have hadd:=run_call_add (P:=Tryz.prog) Tryz.func173 (by kernel_rfl) (by kernel_rfl) (by kernel_rfl) .i32 (by kernel_rfl) (y:=-1) (s:=0) hc hz (by simp [go_sem];rfl)
  have hcv:=run_convert_to_unsafe (P:=Tryz.prog) (src:=197) (dst:=201) Tryz.underlying197 Tryz.underlying201 (by kernel_rfl) hc
  go_enter_d Tryz.func159,Tryz.ntmps159
  go_wp2
  go_end0
  go_wp2
  go_end0
  exact ⟨rfl,rfl⟩
set_option maxRecDepth 100000 in
set_option maxHeartbeats 1600000 in
theorem lock_free (a:Addr) (w:World) (hc:w.cell? a=some (.int .i32 0)) (hz:w.frozen? a=false) :
    Calls Tryz.prog 158 #[.pointer (some a)] w fun e w'=>e=.returned (.tuple #[])∧w'=w.setCell a (.int .i32 1):=by
  have hd:=race_disable
  have he:=race_enable
  have ha:=race_acquire
  have hcas:=run_call_cas_hit (P:=Tryz.prog) Tryz.func168 (by kernel_rfl) (by kernel_rfl) (by kernel_rfl) .i32 (by kernel_rfl) (y:=1) hc hz
  have hc':(w.setCell a (.int .i32 1)).cell? a=some (.int .i32 1):=World.cell?_setCell_same w a _ hc
  have hcv:=run_convert_to_unsafe (P:=Tryz.prog) (src:=197) (dst:=201) Tryz.underlying197 Tryz.underlying201 (by kernel_rfl) hc'
  go_enter Tryz.func158,Tryz.ntmps158
  go_wp2
  first | go_end0 | (simp only [Exit.inBlock,Exit.then];refine bodyPost_ret (results_none rfl _ _ _) rfl ?_) | refine bodyPost_ret (results_none rfl _ _ _) rfl ?_
  go_wp2
  go_end0
  exact ⟨rfl,rfl⟩
abbrev Gr (b:Nat) (w w':World):Prop:=w.grownBy w' (some b)
theorem Gr.refl (b:Nat) (w:World):Gr b w w:=⟨rfl,rfl,rfl,Nat.le_refl _,fun _ _ _=>rfl⟩
theorem Gr.trans {b:Nat} {w w1 w2:World} (h:Gr b w w1) (k:Gr b w1 w2):Gr b w w2 :=
  ⟨k.os.trans h.os,k.tape.trans h.tape,k.output.trans h.output,Nat.le_trans h.size k.size,fun i hi hn=>(k.block i (Nat.lt_of_lt_of_le hi h.size) hn).trans (h.block i hi hn)⟩
theorem Gr.of {b:Nat} {w w1:World} (h:Below w.heap.size w w1):Gr b w w1:=⟨h.os,h.tape,h.output,h.size,fun i hi _=>h.block i hi⟩
theorem Gr.set (b j:Nat) (w:World) (v:Value):Gr b w (w.setCell ⟨b,j,none⟩ v) :=
  ⟨rfl,rfl,rfl,by simp,fun i _ hn=>heap_setCell_other _ _ _ _ (fun e=>hn (by rw [e]))⟩
theorem Gr.drew (b:Nat) (w:World):Gr b w w.drew:=.of (Below.drew (Below.refl _ _))
theorem Gr.below {b B:Nat} {w w1:World} (h:Gr b w w1) (hB:B≤b) (hw:B≤w.heap.size):Below B w w1:=⟨h.os,h.tape,h.output,h.size,fun i hi=>h.block i (by omega) (fun e=>by injection e;omega)⟩
def TreeAt (W:World) (b:Nat) (n:Nat) (dn st:Int) (tv wv:Value):Prop:=W.heap[b]?=some (.cells #[.int .i64 (n:Int),.int .u32 dn,.int .i32 st,.int .u32 0,tv,wv] 139 (0,0))
theorem TreeAt.lt {W:World} {b n:Nat} {dn st:Int} {tv wv:Value} (h:TreeAt W b n dn st tv wv):b<W.heap.size:=(Array.getElem?_eq_some_iff.1 h).1
theorem TreeAt.cells {W:World} {b n:Nat} {dn st:Int} {tv wv:Value} (h:TreeAt W b n dn st tv wv):W.cell? ⟨b,0,none⟩=some (.int .i64 (n:Int))∧W.cell? ⟨b,1,none⟩=some (.int .u32 dn)∧W.cell? ⟨b,2,none⟩=some (.int .i32 st)∧W.cell? ⟨b,3,none⟩=some (.int .u32 0)∧W.cell? ⟨b,4,none⟩=some tv∧W.cell? ⟨b,5,none⟩=some wv:=by
  refine ⟨?_,?_,?_,?_,?_,?_⟩<;>(rw [cell_of_row W _ _ _ 139 (0,0) h];rfl)
theorem TreeAt.free {W:World} {b n:Nat} {dn st:Int} {tv wv:Value} (h:TreeAt W b n dn st tv wv):∀j,W.frozen? ⟨b,j,none⟩=false:=row_free h
theorem TreeAt.drew {W:World} {b n:Nat} {dn st:Int} {tv wv:Value} (h:TreeAt W b n dn st tv wv):TreeAt W.drew b n dn st tv wv:=h
theorem TreeAt.call {W W':World} {b n:Nat} {dn st:Int} {tv wv:Value} (h:TreeAt W b n dn st tv wv) (hb:Below W.heap.size W W'):TreeAt W' b n dn st tv wv:=(hb.block b h.lt).trans h
theorem TreeAt.done {W:World} {b n:Nat} {dn st:Int} {tv wv:Value} (h:TreeAt W b n dn st tv wv) (x:Int):TreeAt (W.setCell ⟨b,1,none⟩ (.int .u32 x)) b n x st tv wv:=heap_setCell_same W b 1 _ 139 _ h
theorem TreeAt.state {W:World} {b n:Nat} {dn st:Int} {tv wv:Value} (h:TreeAt W b n dn st tv wv) (x:Int):TreeAt (W.setCell ⟨b,2,none⟩ (.int .i32 x)) b n dn x tv wv:=heap_setCell_same W b 2 _ 139 _ h
theorem TreeAt.texts {W:World} {b n:Nat} {dn st:Int} {tv wv:Value} (h:TreeAt W b n dn st tv wv) (x:Value):TreeAt (W.setCell ⟨b,4,none⟩ x) b n dn st x wv:=heap_setCell_same W b 4 _ 139 _ h
theorem TreeAt.whole {W:World} {b n:Nat} {dn st:Int} {tv wv:Value} (h:TreeAt W b n dn st tv wv) (x:Value):TreeAt (W.setCell ⟨b,5,none⟩ x) b n dn st tv x:=heap_setCell_same W b 5 _ 139 _ h
theorem Pt.gr {W W':World} {b n:Nat} {dn st:Int} {tv wv:Value} (ht:TreeAt W b n dn st tv wv) (hg:Gr b W W') {p:Nat} {l:List (List UInt8)} (h:Pt W p l):Pt W' p l :=
  h.stays fun p C e=>(hg.block p (Array.getElem?_eq_some_iff.1 e).1 (fun q=>by injection q with q;subst q;rw [ht] at e;simp at e)).trans e
end Go.Proofs.YtggnfejjcgbebaaGreatDoor
/- The digests of a tree, made when they are asked for first. -/
namespace Go.Proofs.YtggnfejjcgbebaaGreatDoor
open Go.RowKit
attribute [local go_sem ↓] Go.wp_at_zero Go.wp_at_succ
theorem HasK.gr {b:Nat} {w w':World} {x:Int} (h:HasK w) (hc:w.cell? ⟨b,0,none⟩=some (.int .i64 x)) (hg:Gr b w w'):HasK w':=by
  have hne:2≠b:=by
    intro e
    have h0:=h.2 0 (by decide)
    subst e
    have h1:=hc.symm.trans h0
    simp at h1
  refine ⟨Nat.lt_of_lt_of_le h.1 hg.size,fun i hi=>?_⟩
  exact (World.cell?_of_block (a:=⟨2,i,none⟩) (hg.block 2 h.1 (fun q=>hne (by injection q)))).trans (h.2 i hi)
set_option maxHeartbeats 4000000 in
set_option maxRecDepth 100000 in
theorem fill_c (b pl n:Nat) (dn st:Int) (g:Nat) (l:List (List UInt8)) (hl:l.length=n) (hn:n≤1024) (hx:∀x∈l,x.length≤140737488355328) (w:World) (hK:HasK w) (hT:TreeAt w b n dn st (.slice (some ⟨g,0,none⟩) n n) (.pointer none)) (hp:w.cell? ⟨pl,0,none⟩=some (.pointer (some ⟨b,0,none⟩))) (_hpb:pl≠b) (hpl:pl<w.heap.size) (hS:Sl w w.heap.size (.slice (some ⟨g,0,none⟩) n n) l) :
    Calls Tryz.prog 138 #[.pointer (some ⟨pl,0,none⟩)] w fun e w'=>e=.returned (.tuple #[])∧∃p,TreeAt w' b n dn st (.slice none 0 0) (.pointer (some ⟨p,0,none⟩))∧Pt w' p l∧Gr b w w':=by
  have HT:Hid (TreeAt w b n dn st (.slice (some ⟨g,0,none⟩) n n) (.pointer none)):=hT
  have hbl:b<w.heap.size:=hT.lt
  have CG:Hid (∀W,Below w.heap.size w W→W.cell? ⟨w.heap.size,0,none⟩=some (.func (.func 139) #[] #[.pointer (some ⟨w.heap.size,0,none⟩)])→Calls Tryz.prog 139 #[.slice (some ⟨g,0,none⟩) n n,.pointer (some ⟨w.heap.size,0,none⟩)] W fun e w'=>∃p,e=.returned (.pointer (some ⟨p,0,none⟩))∧Pt w' p l∧W.heap.size≤p∧Below W.heap.size W w'):=fun W hW hc=>by
    have hlt:w.heap.size<W.heap.size:=by
      unfold World.cell? at hc
      cases hh:W.heap[w.heap.size]? with
      | none=>simp [hh] at hc
      | some o=>exact (Array.getElem?_eq_some_iff.1 hh).1
    exact grow_c n hn l hl hx W _ n n w.heap.size w.heap.size (hK.below hK.1 hW) hW.size (Nat.le_refl _) (hS.stays hW (Nat.le_refl _)) hc hlt
  clear hx hS hK hT hl
  go_enter Tryz.func138,Tryz.ntmps138
  go_upto_region 2 with fail
  obtain ⟨w1,hw1⟩:∃w1,w1=w.alloc (.cells #[.func (.func 139) #[] #[.pointer (some ⟨w.heap.size,0,none⟩)]] 176):=⟨_,rfl⟩
  rw [←hw1]
  have HB1:Hid (Below w.heap.size w w1):=by show Below _ _ _;rw [hw1];exact (Below.refl _ _).alloc (Nat.le_refl _) _
  have cv:w1.cell? ⟨w.heap.size,0,none⟩=some (.func (.func 139) #[] #[.pointer (some ⟨w.heap.size,0,none⟩)]):=by rw [hw1];simp
  have cp:w1.cell? ⟨pl,0,none⟩=some (.pointer (some ⟨b,0,none⟩)):=(HB1.out.cell (p:=⟨pl,0,none⟩) hpl).trans hp
  have T1:Hid (TreeAt w1 b n dn st (.slice (some ⟨g,0,none⟩) n n) (.pointer none)):=HT.out.call HB1.out
  obtain ⟨d0,d1,d2,d3,d4,d5⟩:=T1.out.cells
  have CG1:Hid (∀W,Below w1.heap.size w1 W→Calls Tryz.prog 139 #[.slice (some ⟨g,0,none⟩) n n,.pointer (some ⟨w.heap.size,0,none⟩)] W fun e w'=>∃p,e=.returned (.pointer (some ⟨p,0,none⟩))∧Pt w' p l∧W.heap.size≤p∧Below W.heap.size W w'):=fun W hW =>
    CG.out W (HB1.out.trans (hW.mono HB1.out.size)) ((hW.cell (p:=⟨w.heap.size,0,none⟩) (by show w.heap.size<w1.heap.size;rw [hw1];simp)).trans cv)
  have lt1:pl<w1.heap.size:=Nat.lt_of_lt_of_le hpl HB1.out.size
  clear hw1 CG hp d0 d1 d2 d3
  go_region_law (first
    | (go_simp;go_at_call 139;refine (CG1.out _ ?_).mono ?_;(first | exact Below.refl _ _ | exact (Below.refl _ _).drew);rintro e w2 ⟨p,rfl,hp2,hq2,hb2⟩
       have HB2:Hid (Below w1.heap.size w1 w2):=(by first | exact (Below.refl _ _).drew.trans hb2 | exact hb2)
       have HP2:Hid (Pt w2 p l):=hp2
       have cp2:w2.cell? ⟨pl,0,none⟩=some (.pointer (some ⟨b,0,none⟩)):=(HB2.out.cell (p:=⟨pl,0,none⟩) lt1).trans cp
       have T2:Hid (TreeAt w2 b n dn st (.slice (some ⟨g,0,none⟩) n n) (.pointer none)):=T1.out.call HB2.out
       obtain ⟨e0,e1,e2,e3,e4,e5⟩:=T2.out.cells
       have fz2:=T2.out.free
       have lt2:b<w2.heap.size:=T2.out.lt
       clear hp2 hq2 hb2 e0 e1 e2 e3))
  all_goals
    have T3:Hid (TreeAt (w2.setCell ⟨b,5,none⟩ (.pointer (some ⟨p,0,none⟩))) b n dn st (.slice (some ⟨g,0,none⟩) n n) (.pointer (some ⟨p,0,none⟩))):=T2.out.whole _
    have G2:Hid (Gr b w (w2.setCell ⟨b,5,none⟩ (.pointer (some ⟨p,0,none⟩)))):=(Gr.of (HB1.out.trans (HB2.out.mono HB1.out.size))).trans (Gr.set b 5 w2 _)
    have P3:Hid (Pt (w2.setCell ⟨b,5,none⟩ (.pointer (some ⟨p,0,none⟩))) p l):=HP2.out.gr T2.out (Gr.set b 5 w2 _)
    have F4:Hid (TreeAt ((w2.setCell ⟨b,5,none⟩ (.pointer (some ⟨p,0,none⟩))).setCell ⟨b,4,none⟩ (.slice none 0 0)) b n dn st (.slice none 0 0) (.pointer (some ⟨p,0,none⟩))∧Pt ((w2.setCell ⟨b,5,none⟩ (.pointer (some ⟨p,0,none⟩))).setCell ⟨b,4,none⟩ (.slice none 0 0)) p l∧Gr b w ((w2.setCell ⟨b,5,none⟩ (.pointer (some ⟨p,0,none⟩))).setCell ⟨b,4,none⟩ (.slice none 0 0))) :=
      ⟨T3.out.texts _,P3.out.gr T3.out (Gr.set b 4 _ _),G2.out.trans (Gr.set b 4 _ _)⟩
    clear T3 G2 P3 T1 CG1 HP2 HB2 HB1 HT T2
    go_wp2
    go_end0
    first | exact ⟨rfl,p,F4.out.1,F4.out.2.1,F4.out.2.2⟩ | exact ⟨rfl,p,F4.out.1.drew,F4.out.2.1.drew,F4.out.2.2.trans (Gr.drew _ _)⟩
end Go.Proofs.YtggnfejjcgbebaaGreatDoor
/- The Once of a tree: its digests are made at the first asking, and stay. -/
namespace Go.Proofs.YtggnfejjcgbebaaGreatDoor
open Go.RowKit
attribute [local go_sem ↓] Go.wp_at_zero Go.wp_at_succ
theorem bload_c (a:Addr) (x:Int) (w:World) (h:w.cell? a=some (.int .u32 x)) :
    Calls Tryz.prog 151 #[.pointer (some a)] w fun e w'=>e=.returned (.bool (x != 0))∧w=w':=by
  have hl:=run_call_load (P:=Tryz.prog) Tryz.func157 (by kernel_rfl) (by kernel_rfl) (by kernel_rfl) .u32 (by kernel_rfl) h
  go_enter Tryz.func151,Tryz.ntmps151
  go_wp2
  go_ret
  exact ⟨rfl,rfl⟩
set_option maxHeartbeats 4000000 in
set_option maxRecDepth 100000 in
theorem dosl_c (b pl n:Nat) (g:Nat) (l:List (List UInt8)) (hl:l.length=n) (hn:n≤1024) (hx:∀x∈l,x.length≤140737488355328) (w:World) (_:0<b) (hK:HasK w) (hT:TreeAt w b n 0 0 (.slice (some ⟨g,0,none⟩) n n) (.pointer none)) (hp:w.cell? ⟨pl,0,none⟩=some (.pointer (some ⟨b,0,none⟩))) (hpb:pl≠b) (hpl:pl<w.heap.size) (hgb:g≠b) (hS:Sl w w.heap.size (.slice (some ⟨g,0,none⟩) n n) l) :
    Calls Tryz.prog 152 #[.pointer (some ⟨b,1,none⟩),.func (.func 138) #[] #[.pointer (some ⟨pl,0,none⟩)]] w fun e w'=>e=.returned (.tuple #[])∧∃p,TreeAt w' b n 1 0 (.slice none 0 0) (.pointer (some ⟨p,0,none⟩))∧Pt w' p l∧Gr b w w':=by
  obtain ⟨d0,d1,d2,d3,d4,d5⟩:=hT.cells
  have fz:=hT.free
  have T1:Hid (TreeAt (w.setCell ⟨b,2,none⟩ (.int .i32 1)) b n 0 1 (.slice (some ⟨g,0,none⟩) n n) (.pointer none)):=hT.state 1
  have G1:Hid (Gr b w (w.setCell ⟨b,2,none⟩ (.int .i32 1))):=Gr.set b 2 w _
  have S1:Hid (Sl (w.setCell ⟨b,2,none⟩ (.int .i32 1)) w.heap.size (.slice (some ⟨g,0,none⟩) n n) l):=by
    show RowOf _ _ _ _ _
    rcases hS with h | ⟨b',o',c',h1,h2,h3⟩
    · exact .inl h
    · injection h1 with e1 e2 e3
      injection e1 with e1
      injection e1 with e4 e5
      subst e4 e5
      exact .inr ⟨g,0,_,by rw [←e2],h2,fun k x hk=>(World.cell?_setCell_other _ _ _ _ (fun h=>hgb (by have:=congrArg Addr.block h;simpa using this.symm))).trans (h3 k x hk)⟩
  have CF:Hid (Calls Tryz.prog 138 #[.pointer (some ⟨pl,0,none⟩)] (w.setCell ⟨b,2,none⟩ (.int .i32 1)) fun e w'=>e=.returned (.tuple #[])∧∃p,TreeAt w' b n 0 1 (.slice none 0 0) (.pointer (some ⟨p,0,none⟩))∧Pt w' p l∧Gr b (w.setCell ⟨b,2,none⟩ (.int .i32 1)) w'):=by
    refine fill_c b pl n 0 1 g l hl hn hx _ (hK.gr hT.cells.1 G1.out) T1.out ?_ hpb (by simpa using hpl) (by simpa using S1.out)
    exact (World.cell?_setCell_other _ _ _ _ (fun h=>hpb (by have:=congrArg Addr.block h;simpa using this.symm))).trans hp
  have hnot:∀(x:Bool) (w:World),(Op.unary .not (.bool x)).run Tryz.prog w=.ok (.bool (!x)) w:=fun _ _=>rfl
  clear hx hS hK S1 d0 d1 d3 d4 d5 hp hl
  go_enter_defers Tryz.func152,Tryz.ntmps152
  go_wp2_with (go_at_call 158;refine (lock_free ⟨b,2,none⟩ _ (by go_simp) (by go_simp)).mono ?_;rintro e w' ⟨rfl,rfl⟩)
  refine (bload_c ⟨b,1,none⟩ 0 _ T1.out.cells.2.1).mono ?_
  rintro e w' ⟨rfl,rfl⟩
  go_wp2_with fail
  refine CF.out.mono ?_
  rintro e w2 ⟨rfl,p,hT2,hP2,hG2⟩
  have T2:Hid (TreeAt w2 b n 0 1 (.slice none 0 0) (.pointer (some ⟨p,0,none⟩))):=hT2
  have P2:Hid (Pt w2 p l):=hP2
  have G2:Hid (Gr b w w2):=G1.out.trans hG2
  clear hT2 hP2 hG2
  go_wp2
  refine leaves_cons (f:=160) (args:=#[.pointer (some ⟨b,1,none⟩),.bool true]) (by simp) (by simp [go_sem]) ?_
  refine (store_deferred ⟨b,1,none⟩ (.int .u32 0) .returning _ T2.out.cells.2.1 (T2.out.free 1)).mono ?_
  rintro e u' w'' ⟨rfl,rfl,rfl⟩
  have T3:TreeAt (w2.drew.setCell ⟨b,1,none⟩ (.int .u32 1)) b n 1 1 (.slice none 0 0) (.pointer (some ⟨p,0,none⟩)):=T2.out.drew.done 1
  refine leaves_cons (f:=159) (args:=#[.pointer (some ⟨b,2,none⟩)]) (by simp [settle]) (by simp [go_sem]) ?_
  refine (unlock_deferred ⟨b,2,none⟩ _ _ T3.cells.2.2.1 (T3.free 2)).mono ?_
  rintro e u' w'' ⟨rfl,rfl,rfl⟩
  have T4:=T3.state 0
  have G4:Gr b w ((w2.drew.setCell ⟨b,1,none⟩ (.int .u32 1)).setCell ⟨b,2,none⟩ (.int .i32 0)):=((G2.out.trans (Gr.drew b w2)).trans (Gr.set b 1 _ _)).trans (Gr.set b 2 _ _)
  have P4:Pt ((w2.drew.setCell ⟨b,1,none⟩ (.int .u32 1)).setCell ⟨b,2,none⟩ (.int .i32 0)) p l:=(P2.out.drew.gr T2.out.drew (Gr.set b 1 _ _)).gr T3 (Gr.set b 2 _ _)
  simp [Leaves,settle,results,Tryz.results152]
  exact ⟨p,T4,P4,G4⟩
set_option maxHeartbeats 4000000 in
set_option maxRecDepth 100000 in
theorem do_first (b pl n:Nat) (g:Nat) (l:List (List UInt8)) (hl:l.length=n) (hn:n≤1024) (hx:∀x∈l,x.length≤140737488355328) (w:World) (hb0:0<b) (hK:HasK w) (hT:TreeAt w b n 0 0 (.slice (some ⟨g,0,none⟩) n n) (.pointer none)) (hp:w.cell? ⟨pl,0,none⟩=some (.pointer (some ⟨b,0,none⟩))) (hpb:pl≠b) (hpl:pl<w.heap.size) (hgb:g≠b) (hS:Sl w w.heap.size (.slice (some ⟨g,0,none⟩) n n) l) :
    Calls Tryz.prog 137 #[.pointer (some ⟨b,1,none⟩),.func (.func 138) #[] #[.pointer (some ⟨pl,0,none⟩)]] w fun e w'=>e=.returned (.tuple #[])∧∃p,TreeAt w' b n 1 0 (.slice none 0 0) (.pointer (some ⟨p,0,none⟩))∧Pt w' p l∧Gr b w w':=by
  have CD:Hid (Calls Tryz.prog 152 #[.pointer (some ⟨b,1,none⟩),.func (.func 138) #[] #[.pointer (some ⟨pl,0,none⟩)]] w fun e w'=>e=.returned (.tuple #[])∧∃p,TreeAt w' b n 1 0 (.slice none 0 0) (.pointer (some ⟨p,0,none⟩))∧Pt w' p l∧Gr b w w'):=dosl_c b pl n g l hl hn hx w hb0 hK hT hp hpb hpl hgb hS
  have CL:Hid (Calls Tryz.prog 151 #[.pointer (some ⟨b,1,none⟩)] w fun e w'=>e=.returned (.bool false)∧w=w'):=bload_c ⟨b,1,none⟩ 0 w hT.cells.2.1
  clear hx hS hK hT hl hp
  go_enter Tryz.func137,Tryz.ntmps137
  go_wp2_with fail
  refine CL.out.mono ?_
  rintro e w' ⟨rfl,rfl⟩
  go_wp2_with fail
  refine CD.out.mono ?_
  rintro e w2 ⟨rfl,p,hT2,hP2,hG2⟩
  have T2:Hid (TreeAt w2 b n 1 0 (.slice none 0 0) (.pointer (some ⟨p,0,none⟩))∧Pt w2 p l∧Gr b w w2):=⟨hT2,hP2,hG2⟩
  clear hT2 hP2 hG2
  go_wp2
  go_end0
  exact ⟨rfl,p,T2.out⟩
theorem do_done (b:Nat) (fv:Value) (w:World) (h:w.cell? ⟨b,1,none⟩=some (.int .u32 1)) :
    Calls Tryz.prog 137 #[.pointer (some ⟨b,1,none⟩),fv] w fun e w'=>e=.returned (.tuple #[])∧w=w':=by
  have CL:Hid (Calls Tryz.prog 151 #[.pointer (some ⟨b,1,none⟩)] w fun e w'=>e=.returned (.bool true)∧w=w'):=bload_c ⟨b,1,none⟩ 1 w h
  go_enter Tryz.func137,Tryz.ntmps137
  go_wp2_with fail
  refine CL.out.mono ?_
  rintro e w' ⟨rfl,rfl⟩
  go_wp2
  go_end0
  exact ⟨rfl,rfl⟩
def Tr (W:World) (b:Nat) (l:List (List UInt8)):Prop:=0<b∧((∃g,g≠b∧TreeAt W b l.length 0 0 (.slice (some ⟨g,0,none⟩) l.length l.length) (.pointer none)∧W.ownsRow 0 9 1 (.slice (some ⟨g,0,none⟩) l.length l.length) l.length (scs l))∨∃p,TreeAt W b l.length 1 0 (.slice none 0 0) (.pointer (some ⟨p,0,none⟩))∧Pt W p l)
set_option maxHeartbeats 4000000 in
set_option maxRecDepth 100000 in
theorem digests_c (b:Nat) (l:List (List UInt8)) (hn:l.length≤1024) (hx:∀x∈l,x.length≤140737488355328) (w:World) (hK:HasK w) (hT:Tr w b l) :
    Calls Tryz.prog 100 #[.pointer (some ⟨b,0,none⟩)] w fun e w'=>∃p,e=.returned (.pointer (some ⟨p,0,none⟩))∧Pt w' p l∧Tr w' b l∧Gr b w w':=by
  obtain ⟨hb0,hT⟩:=hT
  have hmf:∀(fn:Fn) (first cap:Array Value) (w:World),(Instr.makeFunc fn first cap).run Tryz.prog w=.ok (.func fn first cap) w:=fun _ _ _ _=>rfl
  obtain ⟨n,hnl⟩:∃n,n=l.length:=⟨_,rfl⟩
  have HN:Hid (n=l.length):=hnl
  rw [←hnl] at hT hn
  have hB1:Below w.heap.size w (w.alloc (.cells #[.pointer (some ⟨b,0,none⟩)] 89)):=(Below.refl _ _).alloc (Nat.le_refl _) _
  rcases hT with ⟨g,hgb,hT,hO⟩ | ⟨p,hT,hP⟩
  · have hbl:=hT.lt
    have CD:Hid (Calls Tryz.prog 137 #[.pointer (some ⟨b,1,none⟩),.func (.func 138) #[] #[.pointer (some ⟨w.heap.size,0,none⟩)]] (w.alloc (.cells #[.pointer (some ⟨b,0,none⟩)] 89)) fun e w'=>e=.returned (.tuple #[])∧∃p,TreeAt w' b n 1 0 (.slice none 0 0) (.pointer (some ⟨p,0,none⟩))∧Pt w' p l∧Gr b (w.alloc (.cells #[.pointer (some ⟨b,0,none⟩)] 89)) w'):=by
      refine do_first b w.heap.size n g l hnl.symm hn hx _ hb0 (hK.below hK.1 hB1) (hT.call hB1) (by simp) (by omega) (by simp) hgb ?_
      have:=own_sl (l:=l) (by rw [←hnl];exact hO.alloc (.cells #[.pointer (some ⟨b,0,none⟩)] 89))
      exact this
    clear hx hK hO hT hnl
    go_enter Tryz.func100,Tryz.ntmps100
    go_wp2_with fail
    refine CD.out.mono ?_
    rintro e w2 ⟨rfl,p,hT2,hP2,hG2⟩
    have T2:Hid (TreeAt w2 b n 1 0 (.slice none 0 0) (.pointer (some ⟨p,0,none⟩))):=hT2
    have P2:Hid (Pt w2 p l):=hP2
    have G2:Hid (Gr b w w2):=(Gr.of hB1).trans hG2
    have cp:w2.cell? ⟨w.heap.size,0,none⟩=some (.pointer (some ⟨b,0,none⟩)):=by
      refine (World.cell?_of_block (a:=⟨w.heap.size,0,none⟩) (hG2.block w.heap.size (by simp) (fun e=>by injection e;omega))).trans (by simp)
    have c5:=hT2.cells.2.2.2.2.2
    clear hT2 hP2 hG2 CD hB1
    go_wp2
    go_ret
    exact ⟨p,rfl,P2.out,⟨hb0,.inr ⟨p,by rw [←HN.out];exact T2.out,P2.out⟩⟩,G2.out⟩
  · have hbl:=hT.lt
    have T1:Hid (TreeAt (w.alloc (.cells #[.pointer (some ⟨b,0,none⟩)] 89)) b n 1 0 (.slice none 0 0) (.pointer (some ⟨p,0,none⟩))):=hT.call hB1
    have CD:Hid (Calls Tryz.prog 137 #[.pointer (some ⟨b,1,none⟩),.func (.func 138) #[] #[.pointer (some ⟨w.heap.size,0,none⟩)]] (w.alloc (.cells #[.pointer (some ⟨b,0,none⟩)] 89)) fun e w'=>e=.returned (.tuple #[])∧w.alloc (.cells #[.pointer (some ⟨b,0,none⟩)] 89)=w'):=do_done b _ _ T1.out.cells.2.1
    have HP:Hid (Pt w p l):=hP
    have c5:=T1.out.cells.2.2.2.2.2
    have HB1:Hid (Below w.heap.size w (w.alloc (.cells #[.pointer (some ⟨b,0,none⟩)] 89))):=hB1
    clear hx hK hT hP hnl hB1
    go_enter Tryz.func100,Tryz.ntmps100
    go_wp2_with fail
    refine CD.out.mono ?_
    rintro e w2 ⟨rfl,rfl⟩
    go_wp2
    go_ret
    exact ⟨p,rfl,HP.out.call HB1.out,⟨hb0,.inr ⟨p,by rw [←HN.out];exact T1.out,HP.out.call HB1.out⟩⟩,Gr.of HB1.out⟩
end Go.Proofs.YtggnfejjcgbebaaGreatDoor
/- The parts to which turns lead, and what they leave aside; a tree's root and paths. -/
namespace Go.Proofs.YtggnfejjcgbebaaGreatDoor
open Go.RowKit
attribute [local go_sem ↓] Go.wp_at_zero Go.wp_at_succ
namespace Mk
end Mk
end Go.Proofs.YtggnfejjcgbebaaGreatDoor
/- A tree's root and its paths. -/
namespace Go.Proofs.YtggnfejjcgbebaaGreatDoor
open Go.RowKit
attribute [local go_sem ↓] Go.wp_at_zero Go.wp_at_succ
theorem Tr.cells {W:World} {b:Nat} {l:List (List UInt8)} (h:Tr W b l):W.cell? ⟨b,0,none⟩=some (.int .i64 (l.length:Int))∧b<W.heap.size∧0<b:=by
  rcases h with ⟨h0,⟨g,_,h,_⟩ | ⟨p,h,_⟩⟩
  · exact ⟨h.cells.1,h.lt,h0⟩
  · exact ⟨h.cells.1,h.lt,h0⟩
theorem Tr.call {W W':World} {b:Nat} {l:List (List UInt8)} (h:Tr W b l) (hb:Below W.heap.size W W'):Tr W' b l:=by
  rcases h with ⟨h0,⟨g,h1,h2,h3⟩ | ⟨p,h1,h2⟩⟩
  · exact ⟨h0,.inl ⟨g,h1,h2.call hb,own_stays h3 hb⟩⟩
  · exact ⟨h0,.inr ⟨p,h1.call hb,h2.call hb⟩⟩
theorem Tr.gr {W W':World} {b b2:Nat} {l l2:List (List UInt8)} (h:Tr W b l) (h2:Tr W b2 l2) (hne:b≠b2) (hg:Gr b2 W W'):Tr W' b l:=by
  have key:∀(k:Nat) C t,t≠139∨k=b→W.heap[k]?=some (.cells C t (0,0))→W'.heap[k]?=some (.cells C t (0,0)):=by
    intro k C t ht e
    refine (hg.block k (Array.getElem?_eq_some_iff.1 e).1 (fun q=>?_)).trans e
    injection q with q
    subst q
    rcases ht with ht | ht
    · rcases h2 with ⟨_,⟨g,_,h2,_⟩ | ⟨p,h2,_⟩⟩
      · rw [h2] at e;simp at e;exact ht e.2.symm
      · rw [h2] at e;simp at e;exact ht e.2.symm
    · exact hne ht.symm
  rcases h with ⟨h0,⟨g,h1,h3,h4⟩ | ⟨p,h1,h3⟩⟩
  · refine ⟨h0,.inl ⟨g,h1,key b _ _ (.inr rfl) h3,h4.1,?_⟩⟩
    rcases h4.2 with h5 | ⟨g',cap,cur,h5,h6,h7,h8⟩
    · exact .inl h5
    · exact .inr ⟨g',cap,cur,h5,h6,key g' _ _ (.inl (by decide)) h7,h8⟩
  · exact ⟨h0,.inr ⟨p,key b _ _ (.inr rfl) h1,h3.stays fun k C e=>key k C _ (.inl (by decide)) e⟩⟩
theorem TrN.tr {W:World} {b:Nat} {l:List (List UInt8)} (h:TrN W b l) (hb:0<b):Tr W b l:=by
  obtain ⟨g,h1,h2⟩:=h
  refine ⟨hb,.inl ⟨g,?_,h1,h2⟩⟩
  intro e
  subst e
  rcases h2.2 with ⟨h,_⟩ | ⟨g',cap,cur,h3,_,h4,_⟩
  · cases h
  · injection h3 with h3
    injection h3 with h3
    injection h3 with h3
    subst h3
    rw [h1] at h4
    simp at h4
set_option maxHeartbeats 2000000 in
theorem root_c (b:Nat) (l:List (List UInt8)) (hn:l.length≤1024) (hx:∀x∈l,x.length≤140737488355328) (w:World) (hK:HasK w) (hT:Tr w b l) :
    Calls Tryz.prog 70 #[.pointer (some ⟨b,0,none⟩)] w fun e w'=>e=.returned (.string (bs (Mk.root l)))∧Tr w' b l∧Gr b w w':=by
  have CD:Hid (Calls Tryz.prog 100 #[.pointer (some ⟨b,0,none⟩)] w fun e w'=>∃p,e=.returned (.pointer (some ⟨p,0,none⟩))∧Pt w' p l∧Tr w' b l∧Gr b w w'):=digests_c b l hn hx w hK hT
  obtain ⟨r,hr⟩:∃r:ByteArray,r=bs (Mk.root l):=⟨_,rfl⟩
  have hrs:r.size≤281474976710656:=by rw [hr,bs_size,Mk.root_length];omega
  have HR:Hid (r=bs (Mk.root l)):=hr
  rw [←hr]
  clear hx hK hT hr
  go_enter Tryz.func70,Tryz.ntmps70
  go_wp2_with fail
  refine CD.out.mono ?_
  rintro e w1 ⟨p,rfl,hP,hT,hG⟩
  have c0:w1.cell? ⟨p,0,none⟩=some (.string r):=by rw [HR.out];exact hP.root
  have T1:Hid (Tr w1 b l∧Gr b w w1):=⟨hT,hG⟩
  clear hP hT hG
  go_wp2_with fail
  refine (sclone_c r hrs _).mono ?_
  rintro e w2 ⟨rfl,hb⟩
  have T2:Hid (Tr w2 b l∧Gr b w w2):=⟨T1.out.1.call hb,T1.out.2.trans (Gr.of hb)⟩
  clear hb
  go_wp2
  go_ret
  exact ⟨rfl,T2.out⟩
end Go.Proofs.YtggnfejjcgbebaaGreatDoor
