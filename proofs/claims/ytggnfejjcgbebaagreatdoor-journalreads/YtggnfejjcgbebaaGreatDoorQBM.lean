/- Several texts, joined: JnD, JnE, JnF -/
import Derived.Test.YtggnfejjcgbebaaGreatDoorQAM
import Derived.Test.YtggnfejjcgbebaaGreatDoorJIM
/- A list of texts, made part by part. -/
namespace Go.Proofs.YtggnfejjcgbebaaGreatDoor
open Go.RowKit
open Vl (V)
attribute [local go_sem ↓] Go.wp_at_zero Go.wp_at_succ
set_option maxHeartbeats 8000000 in
set_option maxRecDepth 100000 in
theorem listT_c (a:Option Addr) (n c:Nat) (l:List (List UInt8)) (hl:∀x∈l,x.length≤maxLen) (hn2:n≤1048576) (w:World) (hS0:Sl w w.heap.size (.slice a n c) l) :
    Calls Tryz.prog 71 #[.func (.func 49) #[] #[],.slice a n c] w fun e w'=>∃a c',e=.returned (.agg #[.int .u8 5,.bool false,.int .i64 0,.string ⟨#[]⟩,.slice a n c',.slice none 0 0])∧Rep w' w'.heap.size (Jn.lst (l.map fun x=>Jn.txt (bs x))) (.agg #[.int .u8 5,.bool false,.int .i64 0,.string ⟨#[]⟩,.slice a n c',.slice none 0 0])∧Below w.heap.size w w':=by
  obtain ⟨i0,hi,hz0,hz1,hz2⟩:=info_parts info26'
  obtain ⟨ts,hts⟩:∃ts,ts=l.map fun x=>Jn.txt (bs x):=⟨_,rfl⟩
  have HTS:Hid (ts=l.map fun x=>Jn.txt (bs x)):=hts
  have HSL:Hid (Sl w w.heap.size (.slice a n c) l):=hS0
  have HL:Hid (∀x∈l,x.length≤maxLen):=hl
  have HN:Hid (n=ts.length):=by show _=_;rw [hts,List.length_map];exact hS0.len
  rw [←hts]
  clear hS0 hts hl
  go_enter Tryz.func71,Tryz.ntmps71
  go_wp2
  go_loopw [11] (fun i wr=>∃(j:Nat) (lv:Value),j≤n∧i=.int .i64 j∧LB w (ts.take j) lv wr) (fun i _=>n - (intOf i).toNat)
  case atStart=>exact ⟨0,_,Nat.zero_le _,rfl,LB.start w⟩
  case round =>
    obtain ⟨j,lv,hj,rfl,hS⟩:=hrel
    have S2:Hid (LB w (ts.take j) lv wr):=hS
    clear hS
    by_cases hlt:j<n
    · have hll:j<l.length:=by have h:=HN.out;rw [HTS.out,List.length_map] at h;omega
      obtain ⟨x,hx⟩:∃x,l[j]?=some x:=⟨_,List.getElem?_eq_getElem hll⟩
      obtain ⟨g,o,rfl,hnl,hg,hc⟩:=HSL.out.at (by omega)
      obtain ⟨xs,hxs⟩:∃xs:ByteArray,xs=bs x:=⟨_,rfl⟩
      have d0:wr.cell? ⟨g,o+j,none⟩=some (.string xs):=by rw [hxs];exact (S2.out.below.cell (p:=⟨g,o+j,none⟩) hg).trans (hc j x hx)
      have HX:Hid (ts[j]?=some (Jn.txt xs)):=by show _=_;rw [HTS.out,List.getElem?_map,hx,hxs];rfl
      have HRX:Hid (Rep w w.heap.size (Jn.txt xs) (.agg #[.int .u8 3,.bool false,.int .i64 0,.string xs,.slice none 0 0,.slice none 0 0])):=by
        show Rep _ _ _ _
        rw [Jn.txt,Rep]
        refine ⟨none,0,none,0,rfl,by omega,by omega,?_,by simp,by simp,fun h=>by simp at h,fun h=>by simp at h⟩
        rw [hxs,bs_size];exact HL.out x (List.mem_of_getElem? hx)
      have hlj:(ts.take j).length=j:=by rw [List.length_take,←HN.out];omega
      have HLJ:Hid ((ts.take j).length=j):=hlj
      have C9:Hid (∀W,Calls Tryz.prog 49 #[.string xs] W fun e w'=>e=.returned (.agg #[.int .u8 3,.bool false,.int .i64 0,.string xs,.slice none 0 0,.slice none 0 0])∧Below W.heap.size W w'):=fun W=>asText_c xs W
      clear hx hlj hc hxs hnl hll
      obtain ⟨cs,hown,hel⟩:=S2.out.row
      rw [HLJ.out] at hown
      have HOWN:Hid (wr.ownsRow (w.heap.size+2) 32 6 lv j cs):=hown
      have HEL:Hid (Kept w w.heap.size cs (ts.take j)):=hel
      clear hown hel
      go_upto_region 5 with fail
      obtain ⟨p0,p1,p2,p3,p4,p5⟩:=S2.out.box.cells
      have ltO:=S2.out.box.1
      have fit63:Hid (j+1≤maxLen):=by show _≤_;unfold maxLen;omega
      have fit47:Hid ((j+1)*80≤140737488355328):=by show _≤_;omega
      go_region_law (first
        | (go_simp;go_at_call 49;refine (C9.out _).mono ?_;rintro e w3 ⟨rfl,hb3⟩
           have HB3:Hid (Below wr.heap.size wr w3):=(by first | exact (Below.refl _ _).drew.trans hb3 | exact hb3)
           obtain ⟨r0,r1,r2,r3,r4,r5⟩:=(S2.out.call HB3.out).box.cells
           have lt3:=(S2.out.call HB3.out).box.1
           clear hb3)
        | (revert HB3;intro HB3
           refine step_append_lies _ (by rfl) _ _ _ (by rfl) (w.heap.size+2) 32 i0 _ 6 80 Tryz.underlying29 hi hz0 hz1 hz2 rfl (by omega) lv j cs (by rfl) ((own_call HOWN.out HB3.out).alloc _) ⟨w3.heap.size,0,none⟩ 1 1 [.int .u8 3,.bool false,.int .i64 0,.string xs,.slice none 0 0,.slice none 0 0] (by rfl) (by rfl) (World.news_of_block (heap_alloc_new w3 _)) (by simp [Value.oneCell']) (by omega) fit63.out fit47.out (by simp;omega) (w3.heap.size+1) (by simp) ?_;intro gg cap w5 hown5 hgrow hat hglt
           have N:=LB.next S2.out HB3.out (below_new _ _) HEL.out (by rw [HLJ.out];exact HOWN.out) HRX.out hgrow (by rw [HLJ.out];exact hown5)
           rw [HLJ.out] at N
           have S5:Hid (LB w (ts.take j++[Jn.txt xs]) (.slice (some ⟨gg,0,none⟩) (j+1) cap) (w5.setCell ⟨w.heap.size+1,4,none⟩ (.slice (some ⟨gg,0,none⟩) (j+1) cap))):=N.1
           obtain ⟨t0,t1,t2,t3,t4,t5⟩:=N.2.cells
           have fz5:=N.2.free
           have lt5:=N.2.1
           clear N hown5 hgrow hat hglt)
        | fail "no arm")
      all_goals
        have S6:Hid (LB w (ts.take (j+1)) (.slice (some ⟨gg,0,none⟩) (j+1) cap) (w5.setCell ⟨w.heap.size+1,4,none⟩ (.slice (some ⟨gg,0,none⟩) (j+1) cap))):=by
          show LB _ _ _ _
          rw [List.take_add_one,HX.out]
          exact S5.out
        go_wp2
        go_roundw
        case rel=>first | exact ⟨j+1,_,by omega,by go_num,S6.out⟩ | ((repeat apply Exists.intro);exact ⟨⟨j+1,_,by omega,by go_num,S6.out⟩,rfl⟩)
        case measure=>simp [intOf];omega
    · have hjn:j=n:=by omega
      subst hjn
      have hall:ts.take j=ts:=List.take_of_length_le (by rw [←HN.out];exact Nat.le_refl _)
      have S9:Hid (LB w ts lv wr):=by have h:=S2.out;rw [hall] at h;exact h
      obtain ⟨a',c',hlv⟩:∃a c',lv=.slice a j c':=by
        obtain ⟨cs,ho,_⟩:=S9.out.row
        rcases ho.2 with ⟨h,h0⟩ | ⟨g',cap,cur,h,_⟩
        · exact ⟨none,0,by rw [h,HN.out,h0]⟩
        · exact ⟨_,cap,by rw [h,←HN.out]⟩
      subst hlv
      have F:=S9.out.done (by rw [←HN.out];unfold maxLen;omega)
      have HF:Hid _:=F
      obtain ⟨p0,p1,p2,p3,p4,p5⟩:=S9.out.box.cells
      obtain ⟨q0,q1,q2,q3,q4,q5⟩:=S9.out.out.cells
      have fz:=S9.out.out.free
      clear F S2 hall
      go_wp2
      have F:=HF.out
      rw [sets6]
      exact bodyPost_ret (v:=.agg #[.int .u8 5,.bool false,.int .i64 0,.string ⟨#[]⟩,.slice a' j c',.slice none 0 0]) (results_cell_row rfl _ _ w.heap.size 32 #[.int .u8 5,.bool false,.int .i64 0,.string ⟨#[]⟩,.slice a' j c',.slice none 0 0] (0,0) _ rfl F.1 Tryz.underlying32 rfl infoVal) rfl ⟨_,_,rfl,F.2.2,F.2.1⟩
end Go.Proofs.YtggnfejjcgbebaaGreatDoor
/- A list of texts, made part by part. -/
namespace Go.Proofs.YtggnfejjcgbebaaGreatDoor
open Go.RowKit
open Vl (V)
attribute [local go_sem ↓] Go.wp_at_zero Go.wp_at_succ
set_option maxHeartbeats 8000000 in
set_option maxRecDepth 100000 in
theorem listB_c (a:Option Addr) (n c:Nat) (l:List (List UInt8)) (hl:∀x∈l,x.length≤maxLen) (hn2:n≤1048576) (w:World) (hS0:Sl w w.heap.size (.slice a n c) l) :
    Calls Tryz.prog 71 #[.func (.func 65) #[] #[],.slice a n c] w fun e w'=>∃a c',e=.returned (.agg #[.int .u8 5,.bool false,.int .i64 0,.string ⟨#[]⟩,.slice a n c',.slice none 0 0])∧Rep w' w'.heap.size (Jn.lst (l.map fun x=>Jn.blob (bs x))) (.agg #[.int .u8 5,.bool false,.int .i64 0,.string ⟨#[]⟩,.slice a n c',.slice none 0 0])∧Below w.heap.size w w':=by
  obtain ⟨i0,hi,hz0,hz1,hz2⟩:=info_parts info26'
  obtain ⟨ts,hts⟩:∃ts,ts=l.map fun x=>Jn.blob (bs x):=⟨_,rfl⟩
  have HTS:Hid (ts=l.map fun x=>Jn.blob (bs x)):=hts
  have HSL:Hid (Sl w w.heap.size (.slice a n c) l):=hS0
  have HL:Hid (∀x∈l,x.length≤maxLen):=hl
  have HN:Hid (n=ts.length):=by show _=_;rw [hts,List.length_map];exact hS0.len
  rw [←hts]
  clear hS0 hts hl
  go_enter Tryz.func71,Tryz.ntmps71
  go_wp2
  go_loopw [11] (fun i wr=>∃(j:Nat) (lv:Value),j≤n∧i=.int .i64 j∧LB w (ts.take j) lv wr) (fun i _=>n - (intOf i).toNat)
  case atStart=>exact ⟨0,_,Nat.zero_le _,rfl,LB.start w⟩
  case round =>
    obtain ⟨j,lv,hj,rfl,hS⟩:=hrel
    have S2:Hid (LB w (ts.take j) lv wr):=hS
    clear hS
    by_cases hlt:j<n
    · have hll:j<l.length:=by have h:=HN.out;rw [HTS.out,List.length_map] at h;omega
      obtain ⟨x,hx⟩:∃x,l[j]?=some x:=⟨_,List.getElem?_eq_getElem hll⟩
      obtain ⟨g,o,rfl,hnl,hg,hc⟩:=HSL.out.at (by omega)
      obtain ⟨xs,hxs⟩:∃xs:ByteArray,xs=bs x:=⟨_,rfl⟩
      have d0:wr.cell? ⟨g,o+j,none⟩=some (.string xs):=by rw [hxs];exact (S2.out.below.cell (p:=⟨g,o+j,none⟩) hg).trans (hc j x hx)
      have HX:Hid (ts[j]?=some (Jn.blob xs)):=by show _=_;rw [HTS.out,List.getElem?_map,hx,hxs];rfl
      have HRX:Hid (Rep w w.heap.size (Jn.blob xs) (.agg #[.int .u8 4,.bool false,.int .i64 0,.string xs,.slice none 0 0,.slice none 0 0])):=by
        show Rep _ _ _ _
        rw [Jn.blob,Rep]
        refine ⟨none,0,none,0,rfl,by omega,by omega,?_,by simp,by simp,fun h=>by simp at h,fun h=>by simp at h⟩
        rw [hxs,bs_size];exact HL.out x (List.mem_of_getElem? hx)
      have hlj:(ts.take j).length=j:=by rw [List.length_take,←HN.out];omega
      have HLJ:Hid ((ts.take j).length=j):=hlj
      have C9:Hid (∀W,Calls Tryz.prog 65 #[.string xs] W fun e w'=>e=.returned (.agg #[.int .u8 4,.bool false,.int .i64 0,.string xs,.slice none 0 0,.slice none 0 0])∧Below W.heap.size W w'):=fun W=>asBlob_c xs W
      clear hx hlj hc hxs hnl hll
      obtain ⟨cs,hown,hel⟩:=S2.out.row
      rw [HLJ.out] at hown
      have HOWN:Hid (wr.ownsRow (w.heap.size+2) 32 6 lv j cs):=hown
      have HEL:Hid (Kept w w.heap.size cs (ts.take j)):=hel
      clear hown hel
      go_upto_region 5 with fail
      obtain ⟨p0,p1,p2,p3,p4,p5⟩:=S2.out.box.cells
      have ltO:=S2.out.box.1
      have fit63:Hid (j+1≤maxLen):=by show _≤_;unfold maxLen;omega
      have fit47:Hid ((j+1)*80≤140737488355328):=by show _≤_;omega
      go_region_law (first
        | (go_simp;go_at_call 65;refine (C9.out _).mono ?_;rintro e w3 ⟨rfl,hb3⟩
           have HB3:Hid (Below wr.heap.size wr w3):=(by first | exact (Below.refl _ _).drew.trans hb3 | exact hb3)
           obtain ⟨r0,r1,r2,r3,r4,r5⟩:=(S2.out.call HB3.out).box.cells
           have lt3:=(S2.out.call HB3.out).box.1
           clear hb3)
        | (revert HB3;intro HB3
           refine step_append_lies _ (by rfl) _ _ _ (by rfl) (w.heap.size+2) 32 i0 _ 6 80 Tryz.underlying29 hi hz0 hz1 hz2 rfl (by omega) lv j cs (by rfl) ((own_call HOWN.out HB3.out).alloc _) ⟨w3.heap.size,0,none⟩ 1 1 [.int .u8 4,.bool false,.int .i64 0,.string xs,.slice none 0 0,.slice none 0 0] (by rfl) (by rfl) (World.news_of_block (heap_alloc_new w3 _)) (by simp [Value.oneCell']) (by omega) fit63.out fit47.out (by simp;omega) (w3.heap.size+1) (by simp) ?_;intro gg cap w5 hown5 hgrow hat hglt
           have N:=LB.next S2.out HB3.out (below_new _ _) HEL.out (by rw [HLJ.out];exact HOWN.out) HRX.out hgrow (by rw [HLJ.out];exact hown5)
           rw [HLJ.out] at N
           have S5:Hid (LB w (ts.take j++[Jn.blob xs]) (.slice (some ⟨gg,0,none⟩) (j+1) cap) (w5.setCell ⟨w.heap.size+1,4,none⟩ (.slice (some ⟨gg,0,none⟩) (j+1) cap))):=N.1
           obtain ⟨t0,t1,t2,t3,t4,t5⟩:=N.2.cells
           have fz5:=N.2.free
           have lt5:=N.2.1
           clear N hown5 hgrow hat hglt)
        | fail "no arm")
      all_goals
        have S6:Hid (LB w (ts.take (j+1)) (.slice (some ⟨gg,0,none⟩) (j+1) cap) (w5.setCell ⟨w.heap.size+1,4,none⟩ (.slice (some ⟨gg,0,none⟩) (j+1) cap))):=by
          show LB _ _ _ _
          rw [List.take_add_one,HX.out]
          exact S5.out
        go_wp2
        go_roundw
        case rel=>first | exact ⟨j+1,_,by omega,by go_num,S6.out⟩ | ((repeat apply Exists.intro);exact ⟨⟨j+1,_,by omega,by go_num,S6.out⟩,rfl⟩)
        case measure=>simp [intOf];omega
    · have hjn:j=n:=by omega
      subst hjn
      have hall:ts.take j=ts:=List.take_of_length_le (by rw [←HN.out];exact Nat.le_refl _)
      have S9:Hid (LB w ts lv wr):=by have h:=S2.out;rw [hall] at h;exact h
      obtain ⟨a',c',hlv⟩:∃a c',lv=.slice a j c':=by
        obtain ⟨cs,ho,_⟩:=S9.out.row
        rcases ho.2 with ⟨h,h0⟩ | ⟨g',cap,cur,h,_⟩
        · exact ⟨none,0,by rw [h,HN.out,h0]⟩
        · exact ⟨_,cap,by rw [h,←HN.out]⟩
      subst hlv
      have F:=S9.out.done (by rw [←HN.out];unfold maxLen;omega)
      have HF:Hid _:=F
      obtain ⟨p0,p1,p2,p3,p4,p5⟩:=S9.out.box.cells
      obtain ⟨q0,q1,q2,q3,q4,q5⟩:=S9.out.out.cells
      have fz:=S9.out.out.free
      clear F S2 hall
      go_wp2
      have F:=HF.out
      rw [sets6]
      exact bodyPost_ret (v:=.agg #[.int .u8 5,.bool false,.int .i64 0,.string ⟨#[]⟩,.slice a' j c',.slice none 0 0]) (results_cell_row rfl _ _ w.heap.size 32 #[.int .u8 5,.bool false,.int .i64 0,.string ⟨#[]⟩,.slice a' j c',.slice none 0 0] (0,0) _ rfl F.1 Tryz.underlying32 rfl infoVal) rfl ⟨_,_,rfl,F.2.2,F.2.1⟩
end Go.Proofs.YtggnfejjcgbebaaGreatDoor
/- A revision's text. -/
namespace Go.Proofs.YtggnfejjcgbebaaGreatDoor
open Go.RowKit
open Vl (V)
attribute [local go_sem ↓] Go.wp_at_zero Go.wp_at_succ
structure RB (w:World) (B:Nat) (cs:Array Value) (W:World):Prop where
  below:Below w.heap.size w W
  row:W.heap[B]?=some (.cells cs 34 (0,0))
theorem RB.call {w W W':World} {B:Nat} {cs:Array Value} (h:RB w B cs W) (hb:Below W.heap.size W W'):RB w B cs W' :=
  ⟨h.below.trans (hb.mono h.below.size),(hb.block B (Array.getElem?_eq_some_iff.1 h.row).1).trans h.row⟩
theorem RB.cells {w W:World} {B:Nat} {c0 c1 c2 c3 c4 c5 c6 c7 c8 c9:Value} (h:RB w B #[c0,c1,c2,c3,c4,c5,c6,c7,c8,c9] W):W.cell? ⟨B,0,none⟩=some c0∧W.cell? ⟨B,1,none⟩=some c1∧W.cell? ⟨B,2,none⟩=some c2∧W.cell? ⟨B,3,none⟩=some c3∧W.cell? ⟨B,4,none⟩=some c4∧W.cell? ⟨B,5,none⟩=some c5∧W.cell? ⟨B,6,none⟩=some c6∧W.cell? ⟨B,7,none⟩=some c7∧W.cell? ⟨B,8,none⟩=some c8∧W.cell? ⟨B,9,none⟩=some c9 :=
  ⟨block_cells h.row 0 _ rfl,block_cells h.row 1 _ rfl,block_cells h.row 2 _ rfl,block_cells h.row 3 _ rfl,block_cells h.row 4 _ rfl,block_cells h.row 5 _ rfl,block_cells h.row 6 _ rfl,block_cells h.row 7 _ rfl,block_cells h.row 8 _ rfl,block_cells h.row 9 _ rfl⟩
theorem rep_flat (W:World) (H k:Nat) (n:Int) (s:ByteArray) (hk:k<256) (hn:-9223372036854775808≤n∧n<9223372036854775808) (hs:s.size≤maxLen):Rep W H ⟨k,false,n,s,[],[]⟩ (.agg #[.int .u8 (k:Int),.bool false,.int .i64 n,.string s,.slice none 0 0,.slice none 0 0]):=by
  rw [Rep]
  exact ⟨none,0,none,0,rfl,hk,hn,hs,by simp,by simp,fun h=>by simp at h,fun h=>by simp at h⟩
theorem Jn.i64_range (n:Nat) (h:n<18446744073709551616):-9223372036854775808≤Jn.i64 n∧Jn.i64 n<9223372036854775808:=by
  unfold Jn.i64
  split<;>omega
theorem rep_five {W:World} {H L:Nat} {t0 t1 t2 t3 t4:V} {a0 a1 a2 a3 a4 a5 b0 b1 b2 b3 b4 b5 c0 c1 c2 c3 c4 c5 d0 d1 d2 d3 d4 d5 e0 e1 e2 e3 e4 e5:Value} (h:W.heap[L]?=some (.cells #[a0,a1,a2,a3,a4,a5,b0,b1,b2,b3,b4,b5,c0,c1,c2,c3,c4,c5,d0,d1,d2,d3,d4,d5,e0,e1,e2,e3,e4,e5] 32 (0,0)))
    (h0:Rep W H t0 (.agg #[a0,a1,a2,a3,a4,a5])) (h1:Rep W H t1 (.agg #[b0,b1,b2,b3,b4,b5])) (h2:Rep W H t2 (.agg #[c0,c1,c2,c3,c4,c5])) (h3:Rep W H t3 (.agg #[d0,d1,d2,d3,d4,d5])) (h4:Rep W H t4 (.agg #[e0,e1,e2,e3,e4,e5])):RepL W H L 0 [t0,t1,t2,t3,t4]:=by
  have hc:∀(j:Nat) v,#[a0,a1,a2,a3,a4,a5,b0,b1,b2,b3,b4,b5,c0,c1,c2,c3,c4,c5,d0,d1,d2,d3,d4,d5,e0,e1,e2,e3,e4,e5][j]?=some v→W.cell? ⟨L,j,none⟩=some v:=fun j v hv=>block_cells h j v hv
  refine repL_mk _ 0 fun j t hj=>?_
  match j,hj with
  | 0,hj=>simp at hj;subst hj;exact ⟨a0,a1,a2,a3,a4,a5,⟨hc 0 _ rfl,hc 1 _ rfl,hc 2 _ rfl,hc 3 _ rfl,hc 4 _ rfl,hc 5 _ rfl⟩,h0⟩
  | 1,hj=>simp at hj;subst hj;exact ⟨b0,b1,b2,b3,b4,b5,⟨hc 6 _ rfl,hc 7 _ rfl,hc 8 _ rfl,hc 9 _ rfl,hc 10 _ rfl,hc 11 _ rfl⟩,h1⟩
  | 2,hj=>simp at hj;subst hj;exact ⟨c0,c1,c2,c3,c4,c5,⟨hc 12 _ rfl,hc 13 _ rfl,hc 14 _ rfl,hc 15 _ rfl,hc 16 _ rfl,hc 17 _ rfl⟩,h2⟩
  | 3,hj=>simp at hj;subst hj;exact ⟨d0,d1,d2,d3,d4,d5,⟨hc 18 _ rfl,hc 19 _ rfl,hc 20 _ rfl,hc 21 _ rfl,hc 22 _ rfl,hc 23 _ rfl⟩,h3⟩
  | 4,hj=>simp at hj;subst hj;exact ⟨e0,e1,e2,e3,e4,e5,⟨hc 24 _ rfl,hc 25 _ rfl,hc 26 _ rfl,hc 27 _ rfl,hc 28 _ rfl,hc 29 _ rfl⟩,h4⟩
  | n+5,hj=>simp at hj
set_option maxHeartbeats 16000000 in
set_option maxRecDepth 100000 in
theorem revText_c (k:Nat) (tb:ByteArray) (d e:Nat) (t:V) (hk:k<256) (htb:tb.size≤maxLen) (hd:d<18446744073709551616) (he:e<18446744073709551616) (xk:Nat) (xb:Bool) (xn:Int) (xs:ByteArray) (xa:Option Addr) (xl xc:Nat) (ya:Option Addr) (yl yc:Nat) (hx:xk=t.1) (w:World) (hU:Bn.HasU w) (H:Nat) (hH:H≤w.heap.size)
    (hR:Rep w H t (.agg #[.int .u8 (xk:Int),.bool xb,.int .i64 xn,.string xs,.slice xa xl xc,.slice ya yl yc])) :
    Calls Tryz.prog 13 #[.agg #[.int .u8 (k:Int),.string tb,.int .u64 (d:Int),.int .u64 (e:Int),.int .u8 (xk:Int),.bool xb,.int .i64 xn,.string xs,.slice xa xl xc,.slice ya yl yc]] w fun en w'=>en=.returned (.tuple #[.string (Jn.rtext ⟨k,tb,d,e,t⟩),.int .i64 (Jn.rerr ⟨k,tb,d,e,t⟩:Int)])∧Below w.heap.size w w':=by
  obtain ⟨B,hB⟩:∃B,B=w.heap.size:=⟨_,rfl⟩
  obtain ⟨w1,hw1⟩:∃w1,w1=w.alloc (.cells #[.int .u8 (k:Int),.string tb,.int .u64 (d:Int),.int .u64 (e:Int),.int .u8 (xk:Int),.bool xb,.int .i64 xn,.string xs,.slice xa xl xc,.slice ya yl yc] 34):=⟨_,rfl⟩
  have S1:Hid (RB w B #[.int .u8 (k:Int),.string tb,.int .u64 (d:Int),.int .u64 (e:Int),.int .u8 (xk:Int),.bool xb,.int .i64 xn,.string xs,.slice xa xl xc,.slice ya yl yc] w1):=by
    show RB _ _ _ _
    rw [hw1,hB];exact ⟨below_new _ _,heap_alloc_new w _⟩
  obtain ⟨wy,hwy⟩:∃wy,wy=Jn.rwhy ⟨k,tb,d,e,t⟩:=⟨_,rfl⟩
  obtain ⟨re,hre⟩:∃re,re=Jn.rerr ⟨k,tb,d,e,t⟩:=⟨_,rfl⟩
  obtain ⟨rt,hrt⟩:∃rt,rt=Jn.rtext ⟨k,tb,d,e,t⟩:=⟨_,rfl⟩
  obtain ⟨lt,hlt⟩:∃lt,lt=Jn.rv ⟨k,tb,d,e,t⟩:=⟨_,rfl⟩
  obtain ⟨le,hle⟩:∃le,le=Bn.werr lt:=⟨_,rfl⟩
  obtain ⟨lx,hlx⟩:∃lx,lx=Bn.wtext lt:=⟨_,rfl⟩
  have HRE:Hid (re=if wy≠0 then wy else if le≠0∨1024<lx.size then 4 else 0):=by show _=_;rw [hre,Jn.rerr,hwy,hle,hlx,hlt]
  have HRT:Hid (rt=if re=0 then lx else ⟨#[]⟩):=by show _=_;rw [hrt,Jn.rtext,hre,hlx,hlt]
  rw [←hre,←hrt]
  have HH:Hid (∀W,Below w.heap.size w W→Rep W W.heap.size t (.agg #[.int .u8 (xk:Int),.bool xb,.int .i64 xn,.string xs,.slice xa xl xc,.slice ya yl yc])):=fun W hW=>rep_stays (hW.mono hH) (Nat.le_trans hH hW.size) t _ hR
  have CK:Hid (∀W,Below w.heap.size w W→Calls Tryz.prog 44 #[.agg #[.int .u8 (k:Int),.string tb,.int .u64 (d:Int),.int .u64 (e:Int),.int .u8 (xk:Int),.bool xb,.int .i64 xn,.string xs,.slice xa xl xc,.slice ya yl yc]] W fun en w'=>en=.returned (.int .i64 (wy:Int))∧Below W.heap.size W w'):=fun W hW=>by
    rw [hwy];exact checkRev_c k tb d e t hk htb xk xb xn xs xa xl xc ya yl yc hx W (hU.stays hW) W.heap.size (Nat.le_refl _) (HH.out W hW)
  obtain ⟨ik,hik⟩:∃i,i=Jn.i64 k:=⟨_,rfl⟩
  obtain ⟨id,hid⟩:∃i,i=Jn.i64 d:=⟨_,rfl⟩
  obtain ⟨ie,hie⟩:∃i,i=Jn.i64 e:=⟨_,rfl⟩
  have CN1:Hid (∀W,Calls Tryz.prog 48 #[.int .u64 (k:Int)] W fun en w'=>en=.returned (.agg #[.int .u8 2,.bool false,.int .i64 ik,.string ⟨#[]⟩,.slice none 0 0,.slice none 0 0])∧Below W.heap.size W w'):=fun W=>by rw [hik];exact asNumber_c k (by omega) W
  have CN2:Hid (∀W,Calls Tryz.prog 48 #[.int .u64 (d:Int)] W fun en w'=>en=.returned (.agg #[.int .u8 2,.bool false,.int .i64 id,.string ⟨#[]⟩,.slice none 0 0,.slice none 0 0])∧Below W.heap.size W w'):=fun W=>by rw [hid];exact asNumber_c d hd W
  have CN3:Hid (∀W,Calls Tryz.prog 48 #[.int .u64 (e:Int)] W fun en w'=>en=.returned (.agg #[.int .u8 2,.bool false,.int .i64 ie,.string ⟨#[]⟩,.slice none 0 0,.slice none 0 0])∧Below W.heap.size W w'):=fun W=>by rw [hie];exact asNumber_c e he W
  have CT:Hid (∀W,Calls Tryz.prog 49 #[.string tb] W fun en w'=>en=.returned (.agg #[.int .u8 3,.bool false,.int .i64 0,.string tb,.slice none 0 0,.slice none 0 0])∧Below W.heap.size W w'):=fun W=>asText_c tb W
  have CL:Hid (∀W,Below w.heap.size w W→Calls Tryz.prog 46 #[.func (.func 47) #[] #[],.slice (some ⟨W.heap.size,0,none⟩) 5 5] (W.alloc (.cells #[.int .u8 2,.bool false,.int .i64 ik,.string ⟨#[]⟩,.slice none 0 0,.slice none 0 0,.int .u8 3,.bool false,.int .i64 0,.string tb,.slice none 0 0,.slice none 0 0,.int .u8 2,.bool false,.int .i64 id,.string ⟨#[]⟩,.slice none 0 0,.slice none 0 0,.int .u8 2,.bool false,.int .i64 ie,.string ⟨#[]⟩,.slice none 0 0,.slice none 0 0,.int .u8 (xk:Int),.bool xb,.int .i64 xn,.string xs,.slice xa xl xc,.slice ya yl yc] 32)) fun en w'=>∃a c',en=.returned (.agg #[.int .u8 5,.bool false,.int .i64 0,.string ⟨#[]⟩,.slice a 5 c',.slice none 0 0])∧Rep w' w'.heap.size lt (.agg #[.int .u8 5,.bool false,.int .i64 0,.string ⟨#[]⟩,.slice a 5 c',.slice none 0 0])∧Below (W.alloc (.cells #[.int .u8 2,.bool false,.int .i64 ik,.string ⟨#[]⟩,.slice none 0 0,.slice none 0 0,.int .u8 3,.bool false,.int .i64 0,.string tb,.slice none 0 0,.slice none 0 0,.int .u8 2,.bool false,.int .i64 id,.string ⟨#[]⟩,.slice none 0 0,.slice none 0 0,.int .u8 2,.bool false,.int .i64 ie,.string ⟨#[]⟩,.slice none 0 0,.slice none 0 0,.int .u8 (xk:Int),.bool xb,.int .i64 xn,.string xs,.slice xa xl xc,.slice ya yl yc] 32)).heap.size (W.alloc (.cells #[.int .u8 2,.bool false,.int .i64 ik,.string ⟨#[]⟩,.slice none 0 0,.slice none 0 0,.int .u8 3,.bool false,.int .i64 0,.string tb,.slice none 0 0,.slice none 0 0,.int .u8 2,.bool false,.int .i64 id,.string ⟨#[]⟩,.slice none 0 0,.slice none 0 0,.int .u8 2,.bool false,.int .i64 ie,.string ⟨#[]⟩,.slice none 0 0,.slice none 0 0,.int .u8 (xk:Int),.bool xb,.int .i64 xn,.string xs,.slice xa xl xc,.slice ya yl yc] 32)) w'):=fun W hW=>by
    have hb:Below w.heap.size w (W.alloc (.cells #[.int .u8 2,.bool false,.int .i64 ik,.string ⟨#[]⟩,.slice none 0 0,.slice none 0 0,.int .u8 3,.bool false,.int .i64 0,.string tb,.slice none 0 0,.slice none 0 0,.int .u8 2,.bool false,.int .i64 id,.string ⟨#[]⟩,.slice none 0 0,.slice none 0 0,.int .u8 2,.bool false,.int .i64 ie,.string ⟨#[]⟩,.slice none 0 0,.slice none 0 0,.int .u8 (xk:Int),.bool xb,.int .i64 xn,.string xs,.slice xa xl xc,.slice ya yl yc] 32)):=hW.trans ((below_new _ _).mono hW.size)
    rw [hlt]
    refine listV_c W.heap.size 0 5 5 [Jn.num k,Jn.txt tb,Jn.num d,Jn.num e,t] rfl (by decide) (W.alloc _) (by simp) (rep_five (heap_alloc_new W _) ?_ ?_ ?_ ?_ (HH.out _ hb))
    · rw [hik];exact rep_flat _ _ 2 _ _ (by omega) (Jn.i64_range k (by omega)) (by decide)
    · exact rep_flat _ _ 3 _ _ (by omega) (by omega) htb
    · rw [hid];exact rep_flat _ _ 2 _ _ (by omega) (Jn.i64_range d hd) (by decide)
    · rw [hie];exact rep_flat _ _ 2 _ _ (by omega) (Jn.i64_range e he) (by decide)
  have CW:Hid (∀W v,Below w.heap.size w W→Rep W W.heap.size lt v→Calls Tryz.prog 45 #[v] W fun en w'=>en=.returned (.tuple #[.string lx,.int .i64 (le:Int)])∧Below W.heap.size W w'):=fun W v hW hr=>by
    rw [hlx,hle];exact write18 lt W (hU.stays hW) W.heap.size v (Nat.le_refl _) hr
  have qk:IntKind.u64.wrap (k:Int)=(k:Int):=by rw [IntKind.wrap_u64];omega
  clear hR hU hx hwy hre hrt hlt hle hlx hik hid hie htb
  go_enter Tryz.func13,Tryz.ntmps13
  go_upto_region 1 with fail
  rw [←hw1,←hB]
  clear hw1 hB
  obtain ⟨p0,p1,p2,p3,p4,p5,p6,p7,p8,p9⟩:=S1.out.cells
  go_wp2_with fail
  refine (CK.out _ S1.out.below).mono ?_
  rintro en w2 ⟨rfl,hb2⟩
  have S2:Hid (RB w B #[.int .u8 (k:Int),.string tb,.int .u64 (d:Int),.int .u64 (e:Int),.int .u8 (xk:Int),.bool xb,.int .i64 xn,.string xs,.slice xa xl xc,.slice ya yl yc] w2):=S1.out.call hb2
  clear hb2 S1 CK p0 p1 p2 p3 p4 p5 p6 p7 p8 p9
  by_cases h1:wy=0
  · have q1:((wy:Int)==0)=true:=by rw [beq_iff_eq];omega
    go_upto_region 4 with fail
    obtain ⟨p0,p1,p2,p3,p4,p5,p6,p7,p8,p9⟩:=S2.out.cells
    go_region_held3 (fun W'=>W'.cell? ⟨B,0,none⟩=some (.int .u8 (k:Int))∧W'.cell? ⟨B,1,none⟩=some (.string tb)∧W'.cell? ⟨B,2,none⟩=some (.int .u64 (d:Int))∧W'.cell? ⟨B,3,none⟩=some (.int .u64 (e:Int))∧W'.cell? ⟨B,4,none⟩=some (.int .u8 (xk:Int))∧W'.cell? ⟨B,5,none⟩=some (.bool xb)∧W'.cell? ⟨B,6,none⟩=some (.int .i64 xn)∧W'.cell? ⟨B,7,none⟩=some (.string xs)∧W'.cell? ⟨B,8,none⟩=some (.slice xa xl xc)∧W'.cell? ⟨B,9,none⟩=some (.slice ya yl yc)) (go_keep) (first
      | (go_at_call 45;refine (CW.out _ _ R6.out.1 R6.out.2).mono ?_;rintro en w7 ⟨rfl,hb7⟩
         have S7:Hid (RB w B #[.int .u8 (k:Int),.string tb,.int .u64 (d:Int),.int .u64 (e:Int),.int .u8 (xk:Int),.bool xb,.int .i64 xn,.string xs,.slice xa xl xc,.slice ya yl yc] w7):=S6.out.call hb7
         obtain ⟨p0,p1,p2,p3,p4,p5,p6,p7,p8,p9⟩:=S7.out.cells
         clear hb7)
      | (go_at_call 46;refine (CL.out _ S3.out.below).mono ?_;rintro en w6 ⟨la,lc,rfl,hr6,hb6⟩
         have S6:Hid (RB w B #[.int .u8 (k:Int),.string tb,.int .u64 (d:Int),.int .u64 (e:Int),.int .u8 (xk:Int),.bool xb,.int .i64 xn,.string xs,.slice xa xl xc,.slice ya yl yc] w6):=(S3.out.call (below_new _ _)).call hb6
         have R6:Hid (Below w.heap.size w w6∧Rep w6 w6.heap.size lt (.agg #[.int .u8 5,.bool false,.int .i64 0,.string ⟨#[]⟩,.slice la 5 lc,.slice none 0 0])):=⟨S6.out.below,hr6⟩
         obtain ⟨p0,p1,p2,p3,p4,p5,p6,p7,p8,p9⟩:=S6.out.cells
         clear hb6 hr6)
      | (go_at_call_of 48 (Value.int .u64 (k:Int));refine (CN1.out _).mono ?_;rintro en w3 ⟨rfl,hb3⟩
         have S3:Hid (RB w B #[.int .u8 (k:Int),.string tb,.int .u64 (d:Int),.int .u64 (e:Int),.int .u8 (xk:Int),.bool xb,.int .i64 xn,.string xs,.slice xa xl xc,.slice ya yl yc] w3):=(by first | exact S2.out.call hb3 | exact (S2.out.call (Below.refl _ _).drew).call hb3)
         obtain ⟨p0,p1,p2,p3,p4,p5,p6,p7,p8,p9⟩:=S3.out.cells
         clear hb3)
      | (go_at_call 49;refine (CT.out _).mono ?_;rintro en w3 ⟨rfl,hb3⟩
         have S3:Hid (RB w B #[.int .u8 (k:Int),.string tb,.int .u64 (d:Int),.int .u64 (e:Int),.int .u8 (xk:Int),.bool xb,.int .i64 xn,.string xs,.slice xa xl xc,.slice ya yl yc] w3):=S3.out.call hb3
         obtain ⟨p0,p1,p2,p3,p4,p5,p6,p7,p8,p9⟩:=S3.out.cells
         clear hb3)
      | (go_at_call_of 48 (Value.int .u64 (d:Int));refine (CN2.out _).mono ?_;rintro en w3 ⟨rfl,hb3⟩
         have S3:Hid (RB w B #[.int .u8 (k:Int),.string tb,.int .u64 (d:Int),.int .u64 (e:Int),.int .u8 (xk:Int),.bool xb,.int .i64 xn,.string xs,.slice xa xl xc,.slice ya yl yc] w3):=S3.out.call hb3
         obtain ⟨p0,p1,p2,p3,p4,p5,p6,p7,p8,p9⟩:=S3.out.cells
         clear hb3)
      | (go_at_call_of 48 (Value.int .u64 (e:Int));refine (CN3.out _).mono ?_;rintro en w3 ⟨rfl,hb3⟩
         have S3:Hid (RB w B #[.int .u8 (k:Int),.string tb,.int .u64 (d:Int),.int .u64 (e:Int),.int .u8 (xk:Int),.bool xb,.int .i64 xn,.string xs,.slice xa xl xc,.slice ya yl yc] w3):=S3.out.call hb3
         obtain ⟨p0,p1,p2,p3,p4,p5,p6,p7,p8,p9⟩:=S3.out.cells
         clear hb3)
      | fail "no arm")
    all_goals
      have HF:=S7.out.below
      by_cases h2:le=0
      · have q2:((le:Int)==0)=true:=by rw [beq_iff_eq];omega
        by_cases h3:1024<lx.size
        · have q3:(1024:Int)<(lx.size:Int):=by omega
          have E1:Hid (re=4∧rt=⟨#[]⟩):=by
            have h:re=4:=by rw [HRE.out,if_neg (by simp [h1]),if_pos (.inr h3)]
            exact ⟨h,by rw [HRT.out,if_neg (by omega)]⟩
          go_wp2
          go_ret2
          exact ⟨by rw [E1.out.1,E1.out.2];rfl,HF⟩
        · have q3:¬(1024:Int)<(lx.size:Int):=by omega
          have E1:Hid (re=0∧rt=lx):=by
            have h:re=0:=by rw [HRE.out,if_neg (by simp [h1]),if_neg (by omega)]
            exact ⟨h,by rw [HRT.out,if_pos h]⟩
          go_wp2
          go_ret2
          exact ⟨by rw [E1.out.1,E1.out.2];rfl,HF⟩
      · have q2:((le:Int)==0)=false:=by rw [beq_eq_false_iff_ne];omega
        have E1:Hid (re=4∧rt=⟨#[]⟩):=by
          have h:re=4:=by rw [HRE.out,if_neg (by simp [h1]),if_pos (.inl h2)]
          exact ⟨h,by rw [HRT.out,if_neg (by omega)]⟩
        go_wp2
        go_ret2
        exact ⟨by rw [E1.out.1,E1.out.2];rfl,HF⟩
  · have q1:((wy:Int)==0)=false:=by rw [beq_eq_false_iff_ne];omega
    have E1:Hid (re=wy∧rt=⟨#[]⟩):=by
      have h:re=wy:=by rw [HRE.out,if_pos h1]
      exact ⟨h,by rw [HRT.out,if_neg (by omega)]⟩
    go_wp2
    go_ret2
    exact ⟨by rw [E1.out.1,E1.out.2];rfl,S2.out.below⟩
end Go.Proofs.YtggnfejjcgbebaaGreatDoor
