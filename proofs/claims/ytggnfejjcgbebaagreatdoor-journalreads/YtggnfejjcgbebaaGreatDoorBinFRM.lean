/- The closure that reads a field of a struct, walked. -/
import Derived.Test.YtggnfejjcgbebaaGreatDoorBinFldM
import Derived.Test.YtggnfejjcgbebaaGreatDoorBinLRM
namespace Go.Proofs.YtggnfejjcgbebaaGreatDoor
open Go.RowKit
open Vl (V)
set_option maxHeartbeats 8000000 in
set_option maxRecDepth 10000 in
theorem part84 (w0:World) (c B v:Nat) (lv:Value) (l:List (ByteArray × V)) (hl:l.length≤64) (s:ByteArray) (W:World) (h:FSt w0 W c B v lv l) (hc:Cur c s false W)
    (C:∀W',Below W.heap.size W W'→Calls Tryz.prog 131 #[.pointer (some ⟨c,0,none⟩)] W' fun e w'=>∃(m:ByteArray) (x:V) (zk:Nat) (zb:Bool) (zn:Int) (zs:ByteArray) (za:Option Addr) (zl zc:Nat) (ta:Option Addr) (tl tc:Nat) (s':ByteArray) (bad':Bool),e=.returned (.agg #[.string m,.int .u8 (zk:Int),.bool zb,.int .i64 zn,.string zs,.slice za zl zc,.slice ta tl tc])∧m.size≤65536∧Curw c W' w'∧RepA w' (fun g=>W'.heap.size≤g∧g<w'.heap.size) x (.agg #[.int .u8 (zk:Int),.bool zb,.int .i64 zn,.string zs,.slice za zl zc,.slice ta tl tc])∧Cur c s' bad' w'∧PFl s m x s' bad') :
    Calls Tryz.prog 130 #[.pointer (some ⟨v,0,none⟩),.pointer (some ⟨B,0,none⟩)] W fun e w'=>e=.returned (.tuple #[])∧∃m x lv' s' bad',FSt w0 w' c B v lv' (l++[(m,x)])∧Cur c s' bad' w'∧PFl s m x s' bad':=by
  obtain ⟨i0,hi,hz0,hz1,hz2⟩:=info_parts info44'
  obtain ⟨j,hj⟩:∃j,j=l.length:=⟨_,rfl⟩
  have HJ:Hid (j=l.length):=hj
  obtain ⟨cs,hown,hel⟩:=h.parts
  rw [←hj] at hown
  have HS:Hid (FSt w0 W c B v lv l):=h
  have HC:Hid (Cur c s false W):=hc
  have HOWN:Hid (W.ownsRow (v+1) 147 7 lv j cs):=hown
  obtain ⟨la,lk,lc,rfl⟩:∃a k c,lv=.slice a k c:=by
    rcases hown.2 with ⟨rfl,_⟩ | ⟨g,cap,cur,hv,_⟩
    · exact ⟨_,_,_,rfl⟩
    · exact ⟨_,_,_,hv⟩
  obtain rfl:lk=j:=by
    rcases hown.2 with ⟨e,e2⟩ | ⟨g,cap,cur,e,_⟩
    · cases e;exact e2.symm
    · cases e;rfl
  obtain ⟨p0,p1,p2,p3,p4,p5⟩:=h.row.cells
  have b0:=block_cells h.box 0 _ rfl
  have C85:Hid (∀W',Below W.heap.size W W'→Calls Tryz.prog 131 #[.pointer (some ⟨c,0,none⟩)] W' fun e w'=>∃(m:ByteArray) (x:V) (zk:Nat) (zb:Bool) (zn:Int) (zs:ByteArray) (za:Option Addr) (zl zc:Nat) (ta:Option Addr) (tl tc:Nat) (s':ByteArray) (bad':Bool),e=.returned (.agg #[.string m,.int .u8 (zk:Int),.bool zb,.int .i64 zn,.string zs,.slice za zl zc,.slice ta tl tc])∧m.size≤65536∧Curw c W' w'∧Curw c W w'∧RepA w' (fun g=>W.heap.size≤g∧g<w'.heap.size) x (.agg #[.int .u8 (zk:Int),.bool zb,.int .i64 zn,.string zs,.slice za zl zc,.slice ta tl tc])∧Cur c s' bad' w'∧PFl s m x s' bad'):=fun W' hW=>(C W' hW).mono (fun e w' ⟨m,x,zk,zb,zn,zs,za,zl,zc,ta,tl,tc,s',bad',h1,hm,h2,h3,h4,h5⟩=>by
      have:=hW.size
      exact ⟨m,x,zk,zb,zn,zs,za,zl,zc,ta,tl,tc,s',bad',h1,hm,h2,(Curw.of hW).trans h2,repA_stays (fun _ _=>rfl) (fun g hg=>⟨by omega,hg.2⟩) x _ h3,h4,h5⟩)
  have hj64:lk≤64:=by omega
  have HCL:Hid (c<W.heap.size):=HC.out.lt
  have ltV:v<W.heap.size:=HS.out.row.1
  have ltB:B<W.heap.size:=by have:=HS.out.hv;omega
  have ltn:(lk:Int)<(lk:Int)+1:=by omega
  have fit63:Hid (lk+1≤maxLen):=by show _≤_;unfold maxLen;omega
  have fit47:Hid ((lk+1)*96≤140737488355328):=by show _≤_;omega
  clear h hc hown C hj hl
  go_enter Tryz.func130,Tryz.ntmps130
  have HEF:Hid (EF W (fun g=>v+1≤g∧some g≠(Value.slice la lk lc).ownBlock∧g<W.heap.size) l cs):=hel
  clear hel
  go_region_law (first
    | (refine step_append_lies _ (by rfl) _ _ _ (by rfl) (v+1) 147 i0 _ 7 96 Tryz.underlying30 hi hz0 hz1 hz2 rfl (by omega) (.slice la lk lc) lk cs (by rfl) (own_keep HOWN.out (fun g h1 h2=>K1.out.block g h2 (by have:=HS.out.cl;have:=HS.out.hB;have:=HS.out.hv;omega))) ⟨W.heap.size,0,none⟩ 1 1 [.string ⟨#[]⟩,.int .u8 0,.bool false,.int .i64 0,.string ⟨#[]⟩,.slice none 0 0,.slice none 0 0] (by rfl) (by rfl) (World.news_of_block HZ.out) (by simp [Value.oneCell']) (by omega) fit63.out fit47.out (by have:=HS.out.row.1;have:=K1.out.size;omega) w3.heap.size rfl ?_;intro gg cap w5 hown5 hgrow hat hglt
       have N:=FSt.next (Nat.le_trans HM.out (by unfold maxLen;omega)) HS.out HJ.out HOWN.out HEF.out K1.out H1.out H2.out (Below.refl _ _) hgrow hown5 rfl hat
       obtain ⟨n1,n2,n3,n4,n5,n6⟩:=N
       have S5:Hid (FSt w0 ((w5.setCells gg (lk*7) [.string m,.int .u8 (zk:Int),.bool zb,.int .i64 zn,.string zs,.slice za zl zc,.slice ta tl tc]).setCell ⟨v,5,none⟩ (.slice (some ⟨gg,0,none⟩) (lk+1) cap)) c B v (.slice (some ⟨gg,0,none⟩) (lk+1) cap) (l++[(m,x)])):=n5
       have H5:Hid (Cur c s' bad' ((w5.setCells gg (lk*7) [.string m,.int .u8 (zk:Int),.bool zb,.int .i64 zn,.string zs,.slice za zl zc,.slice ta tl tc]).setCell ⟨v,5,none⟩ (.slice (some ⟨gg,0,none⟩) (lk+1) cap))):=n6
       have z0:=n3 0 _ rfl
       have z1:=n3 1 _ rfl
       have z2:=n3 2 _ rfl
       have z3:=n3 3 _ rfl
       have z4:=n3 4 _ rfl
       have z5:=n3 5 _ rfl
       have z6:=n3 6 _ rfl
       rw [Nat.add_zero] at z0
       obtain ⟨t0,t1,t2,t3,t4,t5⟩:=n2.cells
       have fz5:=n2.free
       have nv1:v≠gg:=fun e=>n1 e.symm
       clear n2 n3 n5 n6 hown5 hgrow hat hglt)
    | (refine step_append_lies _ (by rfl) _ _ _ (by rfl) (v+1) 147 i0 _ 7 96 Tryz.underlying30 hi hz0 hz1 hz2 rfl (by omega) (.slice la lk lc) lk cs (by rfl) ((own_keep HOWN.out (fun g h1 h2=>K1.out.block g h2 (by have:=HS.out.cl;have:=HS.out.hB;have:=HS.out.hv;omega))).alloc _) ⟨w3.heap.size,0,none⟩ 1 1 [.string ⟨#[]⟩,.int .u8 0,.bool false,.int .i64 0,.string ⟨#[]⟩,.slice none 0 0,.slice none 0 0] (by rfl) (by rfl) (World.news_of_block (heap_alloc_new w3 _)) (by simp [Value.oneCell']) (by omega) fit63.out fit47.out (by have:=HS.out.row.1;have:=K1.out.size;simp;omega) (w3.heap.size+1) (by simp) ?_;intro gg cap w5 hown5 hgrow hat hglt
       have N:=FSt.next (Nat.le_trans HM.out (by unfold maxLen;omega)) HS.out HJ.out HOWN.out HEF.out K1.out H1.out H2.out (by first | exact below_new _ _ | exact (below_new _ _).drew) hgrow hown5 rfl (by simpa using hat)
       obtain ⟨n1,n2,n3,n4,n5,n6⟩:=N
       have S5:Hid (FSt w0 ((w5.setCells gg (lk*7) [.string m,.int .u8 (zk:Int),.bool zb,.int .i64 zn,.string zs,.slice za zl zc,.slice ta tl tc]).setCell ⟨v,5,none⟩ (.slice (some ⟨gg,0,none⟩) (lk+1) cap)) c B v (.slice (some ⟨gg,0,none⟩) (lk+1) cap) (l++[(m,x)])):=n5
       have H5:Hid (Cur c s' bad' ((w5.setCells gg (lk*7) [.string m,.int .u8 (zk:Int),.bool zb,.int .i64 zn,.string zs,.slice za zl zc,.slice ta tl tc]).setCell ⟨v,5,none⟩ (.slice (some ⟨gg,0,none⟩) (lk+1) cap))):=n6
       have z0:=n3 0 _ rfl
       have z1:=n3 1 _ rfl
       have z2:=n3 2 _ rfl
       have z3:=n3 3 _ rfl
       have z4:=n3 4 _ rfl
       have z5:=n3 5 _ rfl
       have z6:=n3 6 _ rfl
       rw [Nat.add_zero] at z0
       obtain ⟨t0,t1,t2,t3,t4,t5⟩:=n2.cells
       have fz5:=n2.free
       have nv1:v≠gg:=fun e=>n1 e.symm
       clear n2 n3 n5 n6 hown5 hgrow hat hglt)
    | (go_simp;go_at_call 131;refine (C85.out _ ?_).mono ?_;(first | exact Below.refl _ _ | exact (Below.refl _ _).drew | exact below_new _ _ | exact (below_new _ _).drew);rintro e w3 ⟨m,x,zk,zb,zn,zs,za,zl,zc,ta,tl,tc,s',bad',rfl,hm,k0,k1,h1,h2,h3⟩
       have HM:Hid (m.size≤65536):=hm
       try have HZ:Hid (w3.heap[W.heap.size]?=some (.cells #[.string ⟨#[]⟩,.int .u8 0,.bool false,.int .i64 0,.string ⟨#[]⟩,.slice none 0 0,.slice none 0 0] 147 (0,0))):=(by first | exact zblock HCL.out k0 | exact zblock_drew HCL.out k0)
       have K1:Hid (Curw c W w3):=k1
       have H1:Hid (RepA w3 (fun g=>W.heap.size≤g∧g<w3.heap.size) x (.agg #[.int .u8 (zk:Int),.bool zb,.int .i64 zn,.string zs,.slice za zl zc,.slice ta tl tc])):=h1
       have H2:Hid (Cur c s' bad' w3):=h2
       have H3:Hid (PFl s m x s' bad'):=h3
       obtain ⟨p0,p1,p2,p3,p4,p5⟩:=(HS.out.call k1).row.cells
       have lt3:=(HS.out.call k1).row.1
       clear k0 k1 h1 h2 h3 hm))
  all_goals
    rw [sets7at]
    try rw [setCells_comm _ _ _ _ nv1]
    exact bodyPost_end (results_none (by rfl) _ _ _) rfl ⟨rfl,m,x,_,s',bad',S5.out,H5.out,H3.out⟩
end Go.Proofs.YtggnfejjcgbebaaGreatDoor
