/- The cursor's field, walked, given what reading a value does. -/
import Derived.Test.YtggnfejjcgbebaaGreatDoorJFM
namespace Go.Proofs.YtggnfejjcgbebaaGreatDoor
open Go.RowKit
open Vl (V)
theorem PFl.of {s t s1 s2:ByteArray} {b1 b2:Bool} {x:V} (ht:t.size≤65536) (h:(s.data.toList=Bn.text t++s1.data.toList∧b1=false)∨(s1=⟨#[]⟩∧b1=true∧Bn.noText s.data.toList)) (hx:PV s1 x s2 b2):PFl s t x s2 b2:=by
  rcases h with ⟨h1,_⟩ | ⟨h1,_,h2⟩
  · rcases hx with ⟨e,k1,k2⟩ | ⟨e,k1,k2⟩
    · exact Or.inl ⟨e,ht,k1,by rw [h1,k2]⟩
    · exact Or.inr ⟨e,k1,by rw [h1];exact Bn.noField_value k2⟩
  · rcases hx with ⟨e,k1,k2⟩ | ⟨e,k1,k2⟩
    · exfalso
      rw [h1] at k2
      exact Bn.bytes_ne k1 _ k2
    · exact Or.inr ⟨e,k1,Bn.noField_text h2⟩
set_option maxHeartbeats 2000000 in
set_option maxRecDepth 10000 in
theorem field85 (c:Nat) (s:ByteArray) (hs:s.size≤65536) (w:World) (h:Cur c s false w)
    (C:∀s1 b1 W',(b1=true→s1=⟨#[]⟩)→(s1.size<s.size∨s1=⟨#[]⟩)→Cur c s1 b1 W'→Calls Tryz.prog 94 #[.pointer (some ⟨c,0,none⟩)] W' fun e w'=>∃x xv s' bad',e=.returned xv∧Curw c W' w'∧RepA w' (fun g=>W'.heap.size≤g∧g<w'.heap.size) x xv∧Cur c s' bad' w'∧PV s1 x s' bad') :
    Calls Tryz.prog 131 #[.pointer (some ⟨c,0,none⟩)] w fun e w'=>∃(m:ByteArray) (x:V) (zk:Nat) (zb:Bool) (zn:Int) (zs:ByteArray) (za:Option Addr) (zl zc:Nat) (ta:Option Addr) (tl tc:Nat) (s':ByteArray) (bad':Bool),e=.returned (.agg #[.string m,.int .u8 (zk:Int),.bool zb,.int .i64 zn,.string zs,.slice za zl zc,.slice ta tl tc])∧m.size≤65536∧Curw c w w'∧RepA w' (fun g=>w.heap.size≤g∧g<w'.heap.size) x (.agg #[.int .u8 (zk:Int),.bool zb,.int .i64 zn,.string zs,.slice za zl zc,.slice ta tl tc])∧Cur c s' bad' w'∧PFl s m x s' bad':=by
  obtain ⟨R,hR⟩:∃R,R=w.heap.size:=⟨_,rfl⟩
  obtain ⟨w1,hw1⟩:∃w1,w1=w.alloc (.cells #[.string ⟨#[]⟩,.int .u8 0,.bool false,.int .i64 0,.string ⟨#[]⟩,.slice none 0 0,.slice none 0 0] 147):=⟨_,rfl⟩
  have hb1:Below w.heap.size w w1:=by rw [hw1];exact below_new _ _
  have hs1:w1.heap.size=R+1:=by rw [hw1,hR];simp
  have hr1:w1.heap[R]?=some (.cells #[.string ⟨#[]⟩,.int .u8 0,.bool false,.int .i64 0,.string ⟨#[]⟩,.slice none 0 0,.slice none 0 0] 147 (0,0)):=by rw [hw1,hR];exact heap_alloc_new w _
  have hcR:c<R:=by rw [hR];exact h.lt
  have C81:Hid (Calls Tryz.prog 127 #[.pointer (some ⟨c,0,none⟩)] w1 fun e w'=>Curw c w1 w'∧∃(t s':ByteArray) (bad':Bool),t.size≤65536∧e=.returned (.string t)∧Cur c s' bad' w' ∧
      ((s.data.toList=Bn.text t++s'.data.toList∧bad'=false)∨(s'=⟨#[]⟩∧bad'=true∧Bn.noText s.data.toList))):=text81 c s hs false w1 (h.call hb1)
  have C46:Hid (∀t s1 b1 W',((s.data.toList=Bn.text t++s1.data.toList∧b1=false)∨(s1=⟨#[]⟩∧b1=true∧Bn.noText s.data.toList))→Cur c s1 b1 W'→Calls Tryz.prog 94 #[.pointer (some ⟨c,0,none⟩)] W' fun e w'=>∃x xv s' bad',e=.returned xv∧Curw c W' w'∧RepA w' (fun g=>W'.heap.size≤g∧g<w'.heap.size) x xv∧Cur c s' bad' w'∧PV s1 x s' bad'):=fun t s1 b1 W' hor hc=>by
    refine C s1 b1 W' ?_ ?_ hc
    · intro e
      rcases hor with ⟨_,e2⟩ | ⟨e2,_⟩
      · rw [e] at e2;cases e2
      · exact e2
    · rcases hor with ⟨e2,_⟩ | ⟨e2,_⟩
      · left
        rw [Lib.size_eq,Lib.size_eq,e2,List.length_append,Bn.text,List.length_append]
        have:=Bn.num_pos t.size
        omega
      · exact Or.inr e2
  have HB1:Hid (Below w.heap.size w w1):=hb1
  have HS1:Hid (w1.heap.size=R+1):=hs1
  have HR1:Hid (w1.heap[R]?=some (.cells #[.string ⟨#[]⟩,.int .u8 0,.bool false,.int .i64 0,.string ⟨#[]⟩,.slice none 0 0,.slice none 0 0] 147 (0,0))):=hr1
  have HR:Hid (R=w.heap.size):=hR
  have HCR:Hid (c<R):=hcR
  clear C hb1 hs1 hr1 hcR
  go_enter Tryz.func131,Tryz.ntmps131
  go_upto_region 1 with fail
  rw [←hw1,←hR]
  clear hw1 hR h hs
  go_wp2_with (first
    | (go_at_call 127;refine C81.out.mono ?_;rintro e w2 ⟨k1,t,s1,b1,ht,rfl,h1,h2⟩
       have K1:Hid (Curw c w1 w2):=k1
       have HT:Hid (t.size≤65536):=ht
       have H1:Hid (Cur c s1 b1 w2):=h1
       have H2:Hid ((s.data.toList=Bn.text t++s1.data.toList∧b1=false)∨(s1=⟨#[]⟩∧b1=true∧Bn.noText s.data.toList)):=h2
       clear k1 ht h1 h2)
    | (go_at_call 94;refine (C46.out t s1 b1 _ H2.out H1.out).mono ?_;rintro e w3 ⟨x,xv,s2,b2,rfl,k2,h3,h4,h5⟩
       obtain ⟨zk,zb,zn,zs,za,zl,zc,ta,tl,tc,rfl⟩:=repA_form h3
       have K2:Hid (Curw c w2 w3):=k2
       have H3:Hid (RepA w3 (fun g=>w2.heap.size≤g∧g<w3.heap.size) x (.agg #[.int .u8 (zk:Int),.bool zb,.int .i64 zn,.string zs,.slice za zl zc,.slice ta tl tc])):=h3
       have H4:Hid (Cur c s2 b2 w3):=h4
       have H5:Hid (PV s1 x s2 b2):=h5
       have hr3:w3.heap[R]?=some (.cells #[.string ⟨#[]⟩,.int .u8 0,.bool false,.int .i64 0,.string ⟨#[]⟩,.slice none 0 0,.slice none 0 0] 147 (0,0)):=by
         have:=HS1.out
         have:=K1.out.size
         have:=HCR.out
         exact (k2.block R (by omega) (by omega)).trans ((K1.out.block R (by omega) (by omega)).trans HR1.out)
       have HR3:Hid (w3.heap[R]?=some (.cells #[.string ⟨#[]⟩,.int .u8 0,.bool false,.int .i64 0,.string ⟨#[]⟩,.slice none 0 0,.slice none 0 0] 147 (0,0))):=hr3
       have r0:=block_cells hr3 0 _ rfl
       have r1:=block_cells hr3 1 _ rfl
       have r2:=block_cells hr3 2 _ rfl
       have r3:=block_cells hr3 3 _ rfl
       have r4:=block_cells hr3 4 _ rfl
       have r5:=block_cells hr3 5 _ rfl
       have r6:=block_cells hr3 6 _ rfl
       have fz:=row_freeV hr3
       clear k2 h3 h4 h5 hr3))
  have e7:=sets7at w3 R 0 (.string t) (.int .u8 (zk:Int)) (.bool zb) (.int .i64 zn) (.string zs) (.slice za zl zc) (.slice ta tl tc)
  simp only [Nat.zero_add] at e7
  rw [e7]
  have hs1:=HS1.out
  have hk1:=K1.out.size
  have hk2:=K2.out.size
  have hcr:=HCR.out
  have hst:=heap_setCells_put R 147 [.string t,.int .u8 (zk:Int),.bool zb,.int .i64 zn,.string zs,.slice za zl zc,.slice ta tl tc] 0 w3 _ HR3.out
  have k6:∀k,k≠R→(w3.setCells R 0 [.string t,.int .u8 (zk:Int),.bool zb,.int .i64 zn,.string zs,.slice za zl zc,.slice ta tl tc]).heap[k]?=w3.heap[k]?:=fun k hk=>setCells_block hk _
  have s6:(w3.setCells R 0 [.string t,.int .u8 (zk:Int),.bool zb,.int .i64 zn,.string zs,.slice za zl zc,.slice ta tl tc]).heap.size=w3.heap.size:=size_setCellsV' _ _ _ _
  have b6:Below 0 w3 (w3.setCells R 0 [.string t,.int .u8 (zk:Int),.bool zb,.int .i64 zn,.string zs,.slice za zl zc,.slice ta tl tc]):=below_setCellsV (Nat.zero_le R) _ _ (Below.refl 0 w3)
  obtain ⟨w6,hw6⟩:∃w6,w6=w3.setCells R 0 [.string t,.int .u8 (zk:Int),.bool zb,.int .i64 zn,.string zs,.slice za zl zc,.slice ta tl tc]:=⟨_,rfl⟩
  rw [←hw6] at hst k6 s6 b6 ⊢
  clear hw6
  have hRw:=HR.out
  have kk:Curw c w w6:=by
    have k3:=((Curw.of HB1.out).trans K1.out).trans K2.out
    exact ⟨b6.os.trans k3.os,b6.tape.trans k3.tape,b6.output.trans k3.output,by rw [s6];exact k3.size,fun k hk hc=>(k6 k (by omega)).trans (k3.block k hk hc)⟩
  refine bodyPost_ret (v:=.agg #[.string t,.int .u8 (zk:Int),.bool zb,.int .i64 zn,.string zs,.slice za zl zc,.slice ta tl tc]) (results_cell_row rfl _ _ R 147 #[.string t,.int .u8 (zk:Int),.bool zb,.int .i64 zn,.string zs,.slice za zl zc,.slice ta tl tc] (0,0) _ rfl hst Tryz.underlying147 rfl info44) rfl ⟨t,x,zk,zb,zn,zs,za,zl,zc,ta,tl,tc,s2,b2,rfl,HT.out,kk,?_,⟨by rw [s6];exact H4.out.lt,(k6 c (by omega)).trans H4.out.row⟩,PFl.of HT.out H2.out H5.out⟩
  exact repA_stays (fun g hg=>k6 g (by omega)) (fun g hg=>⟨by omega,by rw [s6];exact hg.2⟩) x _ H3.out
end Go.Proofs.YtggnfejjcgbebaaGreatDoor
