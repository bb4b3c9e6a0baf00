/- Several texts, joined: JnU, JnV -/
import Derived.Test.YtggnfejjcgbebaaGreatDoorJnSM
import Derived.Test.YtggnfejjcgbebaaGreatDoorQGM
/- A block that is read. -/
namespace Go.Proofs.YtggnfejjcgbebaaGreatDoor
open Go.RowKit
open Vl (V)
attribute [local go_sem ↓] Go.wp_at_zero Go.wp_at_succ
def BlockRead (s:ByteArray) (w:World) (en:Ending) (w':World):Prop:=Below w.heap.size w w'∧((∃b sv rv,Jn.berr b=0∧Jn.btext b=s∧en=.returned (.tuple #[.agg #[.int .u64 (b.seq:Int),.string b.prev,.string b.root,sv,rv],.int .i64 0])∧BkN w' w.heap.size b sv rv) ∨
  ((∀c,Jn.berr c=0→Jn.rngB c→Jn.btext c≠s)∧en=.returned (.tuple #[.agg #[.int .u64 0,.string ⟨#[]⟩,.string ⟨#[]⟩,.slice none 0 0,.slice none 0 0],.int .i64 11])))
theorem read_any (s:ByteArray) (W:World) (hU:Bn.HasU W):Calls Tryz.prog 58 #[.string s] W fun e w'=>∃(v:V) (zk:Nat) (zb:Bool) (zn:Int) (zs:ByteArray) (za:Option Addr) (zl zc:Nat) (ta:Option Addr) (tl tc:Nat) (er:Int),e=.returned (.tuple #[.agg #[.int .u8 (zk:Int),.bool zb,.int .i64 zn,.string zs,.slice za zl zc,.slice ta tl tc],.int .i64 er])∧Below W.heap.size W w'∧Rep w' w'.heap.size v (.agg #[.int .u8 (zk:Int),.bool zb,.int .i64 zn,.string zs,.slice za zl zc,.slice ta tl tc])∧(∀x∈v.5,x.5.length≤1048576)∧(Bn.Is s v∨∀t,¬Bn.Is s t):=by
  refine (read20 s W hU).mono ?_
  rintro e w' ⟨hb,h⟩
  rcases h with ⟨t,zk,zb,zn,zs,za,zl,zc,ta,tl,tc,hIs,rfl,hr⟩ | ⟨hno,rfl⟩
  · exact ⟨t,zk,zb,zn,zs,za,zl,zc,ta,tl,tc,0,rfl,hb,repA_rep (fun g hg=>hg.2) _ _ hr,Jn.is_small hIs,.inl hIs⟩
  · refine ⟨⟨0,false,0,⟨#[]⟩,[],[]⟩,0,false,0,⟨#[]⟩,none,0,0,none,0,0,_,rfl,hb,(by have h:=repA_rep (A:=fun _=>False) (H:=w'.heap.size) (fun g (hg:False)=>hg.elim) _ _ (repA_zero w' _);exact h),fun x hx=>(by cases hx),.inr hno⟩
theorem BkN.set {W:World} {base B:Nat} {b:Jn.B} {sv rv:Value} (h:BkN W base b sv rv) (hB:B<base) (vs:List Value):BkN (W.setCells B 0 vs) base b sv rv:=by
  have k6:∀k,k≠B→(W.setCells B 0 vs).heap[k]?=W.heap[k]?:=fun k hk=>setCells_block hk _
  have s6:(W.setCells B 0 vs).heap.size=W.heap.size:=size_setCellsV' _ _ _ _
  obtain ⟨w6,hw6⟩:∃w6,w6=W.setCells B 0 vs:=⟨_,rfl⟩
  rw [←hw6] at k6 s6 ⊢
  clear hw6
  refine ⟨h.seq,h.prev,h.root,h.small,h.len,own_block h.row3 fun g hg=>k6 g (by have:=(own_in h.row3 g hg).1;omega),?_⟩
  obtain ⟨cs,ho,hk⟩:=h.row4
  exact ⟨cs,own_block ho fun g hg=>k6 g (by have:=(own_in ho g hg).1;omega),hk.step fun g hg=>⟨k6 g (by have:=hg.1;omega),hg.1,by rw [s6];exact hg.2.1,hg.2.2⟩⟩
structure R5 (w W:World):Prop where
  below:Below w.heap.size w W
  res:W.heap[w.heap.size]?=some (.cells #[.int .u64 0,.string ⟨#[]⟩,.string ⟨#[]⟩,.slice none 0 0,.slice none 0 0] 26 (0,0))
theorem R5.call {w W W':World} (h:R5 w W) (hb:Below W.heap.size W W'):R5 w W' :=
  ⟨h.below.trans (hb.mono h.below.size),blk_call h.res hb⟩
theorem R5.start (w:World):R5 w (w.alloc (.cells #[.int .u64 0,.string ⟨#[]⟩,.string ⟨#[]⟩,.slice none 0 0,.slice none 0 0] 26)):=⟨below_new _ _,heap_alloc_new w _⟩
theorem R5.lt {w W:World} (h:R5 w W):w.heap.size<W.heap.size:=(Array.getElem?_eq_some_iff.1 h.res).1
theorem R5.zero {w W:World} (h:R5 w W):(W.setCells w.heap.size 0 [.int .u64 0,.string ⟨#[]⟩,.string ⟨#[]⟩,.slice none 0 0,.slice none 0 0]).heap[w.heap.size]?=some (.cells #[.int .u64 0,.string ⟨#[]⟩,.string ⟨#[]⟩,.slice none 0 0,.slice none 0 0] 26 (0,0))∧Below w.heap.size w (W.setCells w.heap.size 0 [.int .u64 0,.string ⟨#[]⟩,.string ⟨#[]⟩,.slice none 0 0,.slice none 0 0]) :=
  ⟨putB5 h.res _ _ _ _ _,below_setCellsV (Nat.le_refl _) _ _ h.below⟩
theorem R5.put {w W:World} {base:Nat} {b:Jn.B} {sv rv:Value} (h:R5 w W) (hb:BkN W base b sv rv) (hl:w.heap.size<base):(W.setCells w.heap.size 0 [.int .u64 (b.seq:Int),.string b.prev,.string b.root,sv,rv]).heap[w.heap.size]?=some (.cells #[.int .u64 (b.seq:Int),.string b.prev,.string b.root,sv,rv] 26 (0,0))∧Below w.heap.size w (W.setCells w.heap.size 0 [.int .u64 (b.seq:Int),.string b.prev,.string b.root,sv,rv])∧BkN (W.setCells w.heap.size 0 [.int .u64 (b.seq:Int),.string b.prev,.string b.root,sv,rv]) w.heap.size b sv rv :=
  ⟨putB5 h.res _ _ _ _ _,below_setCellsV (Nat.le_refl _) _ _ h.below,(hb.set hl _).mono (Nat.le_of_lt hl)⟩
set_option maxHeartbeats 16000000 in
set_option maxRecDepth 100000 in
theorem readB_c (s:ByteArray) (w:World) (hU:Bn.HasU w) (hK:HasK w):Calls Tryz.prog 19 #[.string s] w (BlockRead s w):=by
  obtain ⟨w1,hw1⟩:∃w1,w1=w.alloc (.cells #[.int .u64 0,.string ⟨#[]⟩,.string ⟨#[]⟩,.slice none 0 0,.slice none 0 0] 26):=⟨_,rfl⟩
  have S1:Hid (R5 w w1):=by rw [hw1];exact R5.start w
  have HU:Hid (∀W,Below w.heap.size w W→Bn.HasU W):=fun W hW=>hU.stays hW
  have HK:Hid (∀W,Below w.heap.size w W→HasK W):=fun W hW=>hK.below hK.1 hW
  have CR:Hid (∀W,Below w.heap.size w W→Calls Tryz.prog 58 #[.string s] W _):=fun W hW=>read_any s W (HU.out W hW)
  clear hU hK
  go_enter Tryz.func19,Tryz.ntmps19
  go_upto_region 1 with fail
  rw [←hw1]
  clear hw1
  go_wp2_with fail
  refine (CR.out _ S1.out.below).mono ?_
  rintro en w2 ⟨v,zk,zb,zn,zs,za,zl,zc,ta,tl,tc,er,rfl,hb2,hr2,hsm,hIs⟩
  have S2:Hid (R5 w w2):=S1.out.call hb2
  have HIS:Hid (Bn.Is s v∨∀t,¬Bn.Is s t):=hIs
  clear CR hb2 S1 hIs
  obtain ⟨w3,hw3⟩:∃w3,w3=w2.alloc (.cells #[.int .u8 (zk:Int),.bool zb,.int .i64 zn,.string zs,.slice za zl zc,.slice ta tl tc] 32):=⟨_,rfl⟩
  obtain ⟨E,hE⟩:∃E,E=w2.heap.size:=⟨_,rfl⟩
  have b3:Below w2.heap.size w2 w3:=by rw [hw3];exact below_new _ _
  have S3:Hid (R5 w w3):=S2.out.call b3
  have V3:Hid (w3.heap[E]?=some (.cells #[.int .u8 (zk:Int),.bool zb,.int .i64 zn,.string zs,.slice za zl zc,.slice ta tl tc] 32 (0,0))):=by rw [hw3,hE];exact heap_alloc_new w2 _
  have CB:Hid (Calls Tryz.prog 59 #[.agg #[.int .u8 (zk:Int),.bool zb,.int .i64 zn,.string zs,.slice za zl zc,.slice ta tl tc]] w3 (BlockGave v w3)):=blockOf_c zk zb zn zs za zl zc ta tl tc v w3 (HU.out _ S3.out.below) (rep_stays b3 b3.size _ _ hr2) hsm
  clear hr2 hsm b3
  go_upto_region 2 with fail
  rw [←hw3,←hE]
  clear hw3 hE S2
  have p0:=block_cells V3.out 0 _ rfl
  have p1:=block_cells V3.out 1 _ rfl
  have p2:=block_cells V3.out 2 _ rfl
  have p3:=block_cells V3.out 3 _ rfl
  have p4:=block_cells V3.out 4 _ rfl
  have p5:=block_cells V3.out 5 _ rfl
  go_wp2_with fail
  refine CB.out.mono ?_
  rintro en w4 ⟨hb4,b,sv,rv,hsay,rfl,hbn⟩
  obtain ⟨sa,sn,sc,rfl⟩:∃a n c,sv=.slice a n c:=by obtain ⟨a,c,e⟩:=own_slc hbn.row3;exact ⟨a,_,c,e⟩
  obtain ⟨ra,rn,rc,rfl⟩:∃a n c,rv=.slice a n c:=by obtain ⟨cs,ho,_⟩:=hbn.row4;obtain ⟨a,c,e⟩:=own_slc ho;exact ⟨a,_,c,e⟩
  have S4:Hid (R5 w w4):=S3.out.call hb4
  have HSAY:Hid (Jn.SaysB v b):=hsay
  obtain ⟨w5,hw5⟩:∃w5,w5=w4.alloc (.cells #[.int .u64 (b.seq:Int),.string b.prev,.string b.root,.slice sa sn sc,.slice ra rn rc] 26):=⟨_,rfl⟩
  obtain ⟨F,hF⟩:∃F,F=w4.heap.size:=⟨_,rfl⟩
  have b5:Below w4.heap.size w4 w5:=by rw [hw5];exact below_new _ _
  have S5:Hid (R5 w w5):=S4.out.call b5
  have V5:Hid (w5.heap[F]?=some (.cells #[.int .u64 (b.seq:Int),.string b.prev,.string b.root,.slice sa sn sc,.slice ra rn rc] 26 (0,0))):=by rw [hw5,hF];exact heap_alloc_new w4 _
  have N5:Hid (BkN w5 w3.heap.size b (.slice sa sn sc) (.slice ra rn rc)):=hbn.stays b5
  have HLT:Hid (w.heap.size<w3.heap.size):=S3.out.lt
  obtain ⟨be,hbe⟩:∃be,be=Jn.berr b:=⟨_,rfl⟩
  obtain ⟨bx,hbx⟩:∃bx,bx=Jn.btext b:=⟨_,rfl⟩
  have CT:Hid (Calls Tryz.prog 7 #[.agg #[.int .u64 (b.seq:Int),.string b.prev,.string b.root,.slice sa sn sc,.slice ra rn rc]] w5 fun e w'=>e=.returned (.tuple #[.string bx,.int .i64 (be:Int)])∧Below w5.heap.size w5 w'):=by
    rw [hbe,hbx];exact text_c b sa sn sc ra rn rc w5 (HU.out _ S5.out.below) (HK.out _ S5.out.below) N5.out.bk
  have HBE:Hid (be=Jn.berr b∧bx=Jn.btext b):=⟨hbe,hbx⟩
  clear hb4 hbn hsay b5 CB V3 p0 p1 p2 p3 p4 p5 hbe hbx
  go_upto_region 3 with fail
  rw [←hw5,←hF]
  clear hw5 hF S4 S3
  have p0:=block_cells V5.out 0 _ rfl
  have p1:=block_cells V5.out 1 _ rfl
  have p2:=block_cells V5.out 2 _ rfl
  have p3:=block_cells V5.out 3 _ rfl
  have p4:=block_cells V5.out 4 _ rfl
  go_wp2_with fail
  refine CT.out.mono ?_
  rintro en w6 ⟨rfl,hb6⟩
  have S6:Hid (R5 w w6):=S5.out.call hb6
  have V6:Hid (w6.heap[F]?=some (.cells #[.int .u64 (b.seq:Int),.string b.prev,.string b.root,.slice sa sn sc,.slice ra rn rc] 26 (0,0))):=blk_call V5.out hb6
  have N6:Hid (BkN w6 w3.heap.size b (.slice sa sn sc) (.slice ra rn rc)):=N5.out.stays hb6
  clear hb6 CT S5 V5 N5 p0 p1 p2 p3 p4
  have HNO:Hid (be≠0∨bx≠s→∀c,Jn.berr c=0→Jn.rngB c→Jn.btext c≠s):=by
    intro hne c hc hrc e
    have h1:=Jn.is_blk hc
    rw [e] at h1
    rcases HIS.out with h2 | h2
    · have h3:=h1.one h2
      have h4:=HSAY.out
      rw [←h3] at h4
      have h5:=Jn.saysB_bv hc hrc h4
      subst h5
      rcases hne with h | h
      · exact h (HBE.out.1.trans hc)
      · exact h (HBE.out.2.trans e)
    · exact h2 _ h1
  by_cases h1:be=0
  · have q1:((be:Int)==0)=true:=by rw [beq_iff_eq];omega
    by_cases h2:bx=s
    · have q2:(bx.toList==s.toList)=true:=by rw [h2];exact beq_self_eq_true _
      have HOK:Hid (Jn.berr b=0∧Jn.btext b=s):=⟨by rw [←HBE.out.1];exact h1,by rw [←HBE.out.2];exact h2⟩
      clear h2 HNO
      have p0:=block_cells V6.out 0 _ rfl
      have p1:=block_cells V6.out 1 _ rfl
      have p2:=block_cells V6.out 2 _ rfl
      have p3:=block_cells V6.out 3 _ rfl
      have p4:=block_cells V6.out 4 _ rfl
      have hres:=S6.out.res
      have fz:=row_freeV hres
      have y0:=block_cells hres 0 _ rfl
      have y1:=block_cells hres 1 _ rfl
      have y2:=block_cells hres 2 _ rfl
      have y3:=block_cells hres 3 _ rfl
      have y4:=block_cells hres 4 _ rfl
      clear hres
      have G:=S6.out.put N6.out HLT.out
      have HF:Hid (_∧_):=⟨G.1,(show BlockRead s w _ _ from ⟨G.2.1,.inl ⟨b,_,_,HOK.out.1,HOK.out.2,rfl,G.2.2⟩⟩)⟩
      clear G
      go_wp2
      rw [setsB5]
      exact bodyPost_ret (v:=.tuple #[.agg #[.int .u64 (b.seq:Int),.string b.prev,.string b.root,.slice sa sn sc,.slice ra rn rc],.int .i64 0]) ((results_row_tmpV (fn:=Tryz.f19) (p:=2) (u:=3) (ty:=26) (by rfl) _ _ w.heap.size 26 #[.int .u64 (b.seq:Int),.string b.prev,.string b.root,.slice sa sn sc,.slice ra rn rc] (0,0) _ (by rfl) HF.out.1 Tryz.underlying26 rfl info_blk).trans (by rfl)) rfl HF.out.2
    · have q2:(bx.toList==s.toList)=false:=by
        rw [beq_eq_false_iff_ne,Lib.toList_data,Lib.toList_data]
        intro e
        exact h2 (Bn.data_ext e)
      have G:=S6.out.zero
      have HF:Hid (_∧_):=⟨G.1,(show BlockRead s w _ _ from ⟨G.2,.inr ⟨HNO.out (.inr h2),rfl⟩⟩)⟩
      clear G h2 HNO
      have hres:=S6.out.res
      have fz:=row_freeV hres
      have y0:=block_cells hres 0 _ rfl
      have y1:=block_cells hres 1 _ rfl
      have y2:=block_cells hres 2 _ rfl
      have y3:=block_cells hres 3 _ rfl
      have y4:=block_cells hres 4 _ rfl
      clear hres
      go_wp2
      rw [setsB5]
      exact bodyPost_ret (v:=.tuple #[.agg #[.int .u64 0,.string ⟨#[]⟩,.string ⟨#[]⟩,.slice none 0 0,.slice none 0 0],.int .i64 11]) ((results_row_tmpV (fn:=Tryz.f19) (p:=2) (u:=3) (ty:=26) (by rfl) _ _ w.heap.size 26 #[.int .u64 0,.string ⟨#[]⟩,.string ⟨#[]⟩,.slice none 0 0,.slice none 0 0] (0,0) _ (by rfl) HF.out.1 Tryz.underlying26 rfl info_blk).trans (by rfl)) rfl HF.out.2
  · have q1:((be:Int)==0)=false:=by rw [beq_eq_false_iff_ne];omega
    have G:=S6.out.zero
    have HF:Hid (_∧_):=⟨G.1,(show BlockRead s w _ _ from ⟨G.2,.inr ⟨HNO.out (.inl h1),rfl⟩⟩)⟩
    clear G HNO
    have hres:=S6.out.res
    have fz:=row_freeV hres
    have y0:=block_cells hres 0 _ rfl
    have y1:=block_cells hres 1 _ rfl
    have y2:=block_cells hres 2 _ rfl
    have y3:=block_cells hres 3 _ rfl
    have y4:=block_cells hres 4 _ rfl
    clear hres
    go_wp2
    rw [setsB5]
    exact bodyPost_ret (v:=.tuple #[.agg #[.int .u64 0,.string ⟨#[]⟩,.string ⟨#[]⟩,.slice none 0 0,.slice none 0 0],.int .i64 11]) ((results_row_tmpV (fn:=Tryz.f19) (p:=2) (u:=3) (ty:=26) (by rfl) _ _ w.heap.size 26 #[.int .u64 0,.string ⟨#[]⟩,.string ⟨#[]⟩,.slice none 0 0,.slice none 0 0] (0,0) _ (by rfl) HF.out.1 Tryz.underlying26 rfl info_blk).trans (by rfl)) rfl HF.out.2
end Go.Proofs.YtggnfejjcgbebaaGreatDoor
/- A block that is made. -/
namespace Go.Proofs.YtggnfejjcgbebaaGreatDoor
open Go.RowKit
open Vl (V)
attribute [local go_sem ↓] Go.wp_at_zero Go.wp_at_succ
namespace Jn
theorem saysB_self {c:B} (h:berr c=0) (hr:rngB c):SaysB (bv c) c:=by
  obtain ⟨_,_,h3,_,_,_⟩:=berr_ok h
  have hq:=berr_seq h
  obtain ⟨cq,cp,cr,cs,cl⟩:=c
  simp only at h3 hq
  refine ⟨(u64_i64 cq (by omega)).symm,rfl,rfl,?_,by simp,?_⟩
  · rw [List.map_map]
    exact ((List.map_congr_left (fun x _=>rfl)).trans (List.map_id cs)).symm
  · intro i x q hx hq'
    rw [List.getElem?_map,hq'] at hx
    simp at hx
    subst hx
    have hm:=List.mem_of_getElem? hq'
    exact .inl ⟨_,is_rev (h3 q hm) (hr q hm),(ofV_rv (rerr_fits (h3 q hm))).symm⟩
theorem btext_inj {b c:B} (hb:berr b=0) (hc:berr c=0) (rb:rngB b) (rc:rngB c) (e:btext b=btext c):b=c:=by
  have h1:=is_blk hb
  have h2:=is_blk hc
  rw [e] at h1
  have h3:=h1.one h2
  have h4:=saysB_self hb rb
  rw [h3] at h4
  exact saysB_bv hc rc h4
theorem rootOf_size (b:B):(rootOf b).size=32:=by rw [rootOf,bs_size,Mk.root_length]
def made (sq:Nat) (pv:ByteArray) (sts:List ByteArray) (revs:List R):B:=⟨sq,pv,rootOf ⟨sq,pv,ahead,sts,revs⟩,sts,revs⟩
theorem made_twhy (sq:Nat) (pv:ByteArray) (sts:List ByteArray) (revs:List R):twhy (made sq pv sts revs)=twhy ⟨sq,pv,ahead,sts,revs⟩:=by
  have h1:(made sq pv sts revs).root.size=32:=rootOf_size _
  have h2:ahead.size=32:=rfl
  unfold twhy sizes
  rw [h1]
  rw [show (B.mk sq pv ahead sts revs).root.size=32 from h2]
  rfl
theorem made_berr (sq:Nat) (pv:ByteArray) (sts:List ByteArray) (revs:List R):berr (made sq pv sts revs)=if twhy ⟨sq,pv,ahead,sts,revs⟩≠0 then twhy ⟨sq,pv,ahead,sts,revs⟩ else Bn.werr (bv (made sq pv sts revs)):=by
  rw [berr,made_twhy]
  have h:(made sq pv sts revs).root=rootOf (made sq pv sts revs):=rfl
  by_cases h1:twhy ⟨sq,pv,ahead,sts,revs⟩≠0
  · rw [if_pos h1,if_pos h1]
  · rw [if_neg h1,if_neg h1,if_neg (fun hn=>hn h)]
end Jn
theorem Bk.rngB {W:World} {H:Nat} {b:Jn.B} {sa:Option Addr} {sn sc:Nat} {ra:Option Addr} {rn rc:Nat} (h:Bk W H b sa sn sc ra rn rc):Jn.rngB b:=by
  intro r hr
  obtain ⟨i,hi,hix⟩:=List.getElem_of_mem hr
  obtain ⟨g,o,_,_,hrev⟩:=h.revs (by have:=h.many;omega)
  obtain ⟨_,_,_,_,_,_,_,_,_,_,_,_,_,_,_,_,_,_,_,_,hrp,_⟩:=hrev i r (by rw [List.getElem?_eq_getElem hi,hix])
  exact Bn.rep_rng _ _ hrp
theorem BkN.rngB {W:World} {base:Nat} {b:Jn.B} {sv rv:Value} (h:BkN W base b sv rv):Jn.rngB b:=by
  intro r hr
  obtain ⟨i,hi,hix⟩:=List.getElem_of_mem hr
  obtain ⟨cs,_,hk⟩:=h.row4
  obtain ⟨c4,c5,c6,c7,c8,c9,_,h2,_⟩:=hk.2 i r (by rw [List.getElem?_eq_getElem hi,hix])
  exact Bn.rep_rng _ _ (repA_rep (H:=W.heap.size) (fun g hg=>hg.2.1) _ _ h2)
def MakeGave (c:Jn.B) (w:World) (en:Ending) (w':World):Prop:=Below w.heap.size w w'∧((Jn.berr c=0∧∃sv rv,en=.returned (.tuple #[.agg #[.int .u64 (c.seq:Int),.string c.prev,.string c.root,sv,rv],.int .i64 0])∧BkN w' w.heap.size c sv rv) ∨
  (Jn.berr c≠0∧en=.returned (.tuple #[.agg #[.int .u64 0,.string ⟨#[]⟩,.string ⟨#[]⟩,.slice none 0 0,.slice none 0 0],.int .i64 (Jn.berr c:Int)])))
structure M5 (w:World) (F:Nat) (cs:Array Value) (W:World):Prop where
  r5:R5 w W
  ge:w.heap.size<F
  var:W.heap[F]?=some (.cells cs 26 (0,0))
theorem M5.call {w W W':World} {F:Nat} {cs:Array Value} (h:M5 w F cs W) (hb:Below W.heap.size W W'):M5 w F cs W':=⟨h.r5.call hb,h.ge,blk_call h.var hb⟩
theorem M5.set {w W:World} {F:Nat} {c0 c1 c2 c3 c4 v:Value} (h:M5 w F #[c0,c1,c2,c3,c4] W):M5 w F #[c0,c1,v,c3,c4] (W.setCell ⟨F,2,none⟩ v) :=
  ⟨⟨h.r5.below.setCell (p:=⟨F,2,none⟩) (Nat.le_of_lt h.ge) _,(heap_setCell_other _ _ _ _ (by have:=h.ge;show w.heap.size≠F;omega)).trans h.r5.res⟩,h.ge,heap_setCell_same W F 2 _ 26 v h.var⟩
set_option maxHeartbeats 16000000 in
set_option maxRecDepth 100000 in
theorem make_c (sq:Nat) (pv:ByteArray) (sts:List ByteArray) (revs:List Jn.R) (sa:Option Addr) (sn sc:Nat) (ra:Option Addr) (rn rc:Nat) (w:World) (hU:Bn.HasU w) (hK:HasK w) (hB:Bk w w.heap.size ⟨sq,pv,Jn.ahead,sts,revs⟩ sa sn sc ra rn rc) :
    Calls Tryz.prog 5 #[.int .u64 (sq:Int),.string pv,.slice sa sn sc,.slice ra rn rc] w (MakeGave (Jn.made sq pv sts revs) w):=by
  obtain ⟨b,hb⟩:∃b:Jn.B,b=⟨sq,pv,Jn.ahead,sts,revs⟩:=⟨_,rfl⟩
  obtain ⟨c,hc⟩:∃c,c=Jn.made sq pv sts revs:=⟨_,rfl⟩
  obtain ⟨w1,hw1⟩:∃w1,w1=w.alloc (.cells #[.int .u64 0,.string ⟨#[]⟩,.string ⟨#[]⟩,.slice none 0 0,.slice none 0 0] 26):=⟨_,rfl⟩
  have S1:Hid (R5 w w1):=by rw [hw1];exact R5.start w
  have HU:Hid (∀W,Below w.heap.size w W→Bn.HasU W):=fun W hW=>hU.stays hW
  have HK:Hid (∀W,Below w.heap.size w W→HasK W):=fun W hW=>hK.below hK.1 hW
  have HBK:Hid (∀W,Below w.heap.size w W→Bk W W.heap.size b sa sn sc ra rn rc):=fun W hW=>by rw [hb];exact hB.stays hW hW.size
  have HRB:Hid (Jn.rngB c):=by rw [hc];exact hB.rngB
  have CA:Hid (∀W,Calls Tryz.prog 28 #[] W fun e w'=>e=.returned (.string Jn.ahead)∧Below W.heap.size W w'):=fun W=>ahead_c W
  obtain ⟨ah,hah⟩:∃ah,ah=Jn.ahead:=⟨_,rfl⟩
  obtain ⟨z,hz⟩:∃z,z=Jn.twhy b:=⟨_,rfl⟩
  obtain ⟨be,hbe⟩:∃be,be=Jn.berr c:=⟨_,rfl⟩
  obtain ⟨r,hr⟩:∃r,r=Jn.rootOf b:=⟨_,rfl⟩
  obtain ⟨le,hle⟩:∃le,le=Bn.werr (Jn.bv c):=⟨_,rfl⟩
  obtain ⟨lx,hlx⟩:∃lx,lx=Bn.wtext (Jn.bv c):=⟨_,rfl⟩
  have HBE:Hid (be=if z≠0 then z else le):=by show _=_;rw [hbe,hz,hle,hc,hb];exact Jn.made_berr _ _ _ _
  have HBX:Hid (be=0→lx=Jn.btext c):=fun h=>by rw [hlx,Jn.btext,←hbe,if_pos h]
  have HCC:Hid (be=Jn.berr c∧c.seq=sq∧c.prev=pv∧c.root=r):=⟨hbe,by rw [hc];rfl,by rw [hc];rfl,by rw [hc,hr,hb];rfl⟩
  have CT:Hid (∀W,Below w.heap.size w W→Calls Tryz.prog 29 #[.agg #[.int .u64 (sq:Int),.string pv,.string ah,.slice sa sn sc,.slice ra rn rc]] W fun e w'=>∃tv,e=.returned (.tuple #[tv,.int .i64 (z:Int)])∧Below W.heap.size W w'∧(z=0→∃g,tv=.slice (some ⟨g,0,none⟩) rn rn∧w'.ownsRow W.heap.size 9 1 tv rn (scs (Jn.texts b)))):=fun W hW=>by
    have h:=revTexts_c b sa sn sc ra rn rc W (HU.out W hW) (HBK.out W hW)
    rw [hb] at h
    rw [hah]
    refine h.mono ?_
    rintro e w' ⟨tv,h1,h2,_,h4⟩
    exact ⟨tv,by rw [hz,hb];exact h1,h2,fun h=>by rw [hb];exact h4 (by rw [←hb,←hz];exact h)⟩
  obtain ⟨T,hT⟩:∃T,T=Jn.texts b:=⟨_,rfl⟩
  have HTT:Hid (T=Jn.texts b):=hT
  have HT:Hid (z=0→rn≤64∧sn≤64∧rn=T.length∧∀x∈T,x.length≤1024):=fun h=>by
    obtain ⟨h1,h2,h3⟩:=Jn.twhy_ok (by rw [←hz];exact h)
    have hm:=(HBK.out w (Below.refl _ _)).many
    have hs:=(HBK.out w (Below.refl _ _)).sts.len
    rw [List.length_map] at hs
    refine ⟨by omega,by omega,by rw [hT,Jn.texts,List.length_map];exact hm,fun x hx=>?_⟩
    rw [hT,Jn.texts] at hx
    obtain ⟨q,hq,rfl⟩:=List.mem_map.1 hx
    rw [←Lib.size_eq]
    exact (Jn.rtext_ok (h3 q hq)).2.2.2
  have CR:Hid (z=0→∀W g,Below w.heap.size w W→Sl W W.heap.size (.slice (some ⟨g,0,none⟩) rn rn) T→Calls Tryz.prog 30 #[.slice (some ⟨g,0,none⟩) rn rn] W fun e w'=>e=.returned (.string r)∧Below W.heap.size W w'):=fun h W g hW hS=>by
    rw [hr,Jn.rootOf,←hT]
    exact rootOf_c _ rn rn (by have:=(HT.out h).1;omega) T (fun x hx=>by have:=(HT.out h).2.2.2 x hx;omega) W (HK.out W hW) hS
  have CW:Hid (z=0→∀W g,Below w.heap.size w W→Sl W W.heap.size (.slice (some ⟨g,0,none⟩) rn rn) T→Calls Tryz.prog 31 #[.agg #[.int .u64 (sq:Int),.string pv,.string r,.slice sa sn sc,.slice ra rn rc],.slice (some ⟨g,0,none⟩) rn rn] W fun e w'=>e=.returned (.tuple #[.string lx,.int .i64 (le:Int)])∧Below W.heap.size W w'):=fun h W g hW hS=>by
    have hk:=HBK.out W hW
    rw [hlx,hle]
    have h3:b.sts=sts:=by rw [hb]
    refine write_c sq pv r (by have:=hk.seq;rw [hb] at this;exact this) (by have:=hk.prev;rw [hb] at this;exact this) (by rw [hr,Jn.rootOf_size];decide) sa sn sc ra rn rc (by have:=(HT.out h).2.1;omega) _ (fun x hx=>?_) (some ⟨g,0,none⟩) rn rn (by have:=(HT.out h).1;omega) T (fun x hx=>by have:=(HT.out h).2.2.2 x hx;unfold maxLen;omega) W (HU.out W hW) hk.sts hS (Jn.bv c) ?_
    · obtain ⟨s,hs,rfl⟩:=List.mem_map.1 hx
      rw [←Lib.size_eq];exact hk.small s hs
    · rw [Jn.bv,hT,Jn.texts,hc,hr,hb]
      simp [Jn.made,List.map_map,Function.comp_def,bs_data]
  have CD:Hid (∀W,Below w.heap.size w W→Calls Tryz.prog 19 #[.string lx] W (BlockRead lx W)):=fun W hW=>readB_c lx W (HU.out W hW) (HK.out W hW)
  rw [←hah] at CA
  rw [←hc]
  clear hU hB hK hz hbe hr hle hlx hT hb hc hah HBK
  go_enter Tryz.func5,Tryz.ntmps5
  go_upto_region 1 with fail
  rw [←hw1]
  clear hw1
  go_wp2_with fail
  refine (CA.out _).mono ?_
  rintro e w2 ⟨rfl,hb2⟩
  obtain ⟨w3,hw3⟩:∃w3,w3=w2.alloc (.cells #[.int .u64 (sq:Int),.string pv,.string ah,.slice sa sn sc,.slice ra rn rc] 26):=⟨_,rfl⟩
  obtain ⟨F,hF⟩:∃F,F=w2.heap.size:=⟨_,rfl⟩
  have S3:Hid (M5 w F #[.int .u64 (sq:Int),.string pv,.string ah,.slice sa sn sc,.slice ra rn rc] w3):=by
    have h2:=S1.out.call hb2
    rw [hw3,hF]
    exact ⟨h2.call (below_new _ _),h2.lt,heap_alloc_new w2 _⟩
  clear hb2 S1 CA
  go_upto_region 2 with fail
  rw [←hw3,←hF]
  clear hw3 hF
  have p0:=block_cells S3.out.var 0 _ rfl
  have p1:=block_cells S3.out.var 1 _ rfl
  have p2:=block_cells S3.out.var 2 _ rfl
  have p3:=block_cells S3.out.var 3 _ rfl
  have p4:=block_cells S3.out.var 4 _ rfl
  go_wp2_with fail
  refine (CT.out _ S3.out.r5.below).mono ?_
  rintro e w4 ⟨tv,rfl,hb4,htv⟩
  have S4:Hid (M5 w F #[.int .u64 (sq:Int),.string pv,.string ah,.slice sa sn sc,.slice ra rn rc] w4):=S3.out.call hb4
  have HTV:Hid (z=0→∃g,tv=.slice (some ⟨g,0,none⟩) rn rn∧Sl w4 w4.heap.size tv T):=fun h=>by
    obtain ⟨g,e,ho⟩:=htv h
    refine ⟨g,e,own_sl (base:=w3.heap.size) ?_⟩
    rw [←(HT.out h).2.2.1,HTT.out];exact ho
  have HFL:Hid (z=0→∃g,tv=.slice (some ⟨g,0,none⟩) rn rn∧w4.ownsRow w3.heap.size 9 1 tv rn (scs T)):=fun h=>by
    obtain ⟨g,e,ho⟩:=htv h
    exact ⟨g,e,by rw [HTT.out];exact ho⟩
  have HF3:Hid (F<w3.heap.size):=(Array.getElem?_eq_some_iff.1 S3.out.var).1
  clear hb4 htv S3 CT p0 p1 p2 p3 p4
  by_cases h1:z=0
  · have q1:((z:Int)==0)=true:=by rw [beq_iff_eq];omega
    obtain ⟨g,rfl,hsl⟩:=HTV.out h1
    obtain ⟨g',hg',hown⟩:=HFL.out h1
    have HOWN:Hid (w4.ownsRow w3.heap.size 9 1 (.slice (some ⟨g,0,none⟩) rn rn) rn (scs T)):=hown
    have CR1:Hid (Calls Tryz.prog 30 #[.slice (some ⟨g,0,none⟩) rn rn] w4 fun e w'=>e=.returned (.string r)∧Below w4.heap.size w4 w'):=CR.out h1 _ g S4.out.r5.below hsl
    clear hsl HTV HFL CR hown hg'
    go_wp2_with fail
    refine CR1.out.mono ?_
    rintro e w5 ⟨rfl,hb5⟩
    have S5:Hid (M5 w F #[.int .u64 (sq:Int),.string pv,.string ah,.slice sa sn sc,.slice ra rn rc] w5):=S4.out.call hb5
    have O5:Hid (w5.ownsRow w3.heap.size 9 1 (.slice (some ⟨g,0,none⟩) rn rn) rn (scs T)):=own_call HOWN.out hb5
    have pp:=block_cells S5.out.var 2 _ rfl
    have fz:=row_freeV S5.out.var
    obtain ⟨w6,hw6⟩:∃w6,w6=w5.setCell ⟨F,2,none⟩ (.string r):=⟨_,rfl⟩
    have S6:Hid (M5 w F #[.int .u64 (sq:Int),.string pv,.string r,.slice sa sn sc,.slice ra rn rc] w6):=by rw [hw6];exact S5.out.set
    have L6:Hid (Sl w6 w6.heap.size (.slice (some ⟨g,0,none⟩) rn rn) T):=by
      rw [hw6]
      refine own_sl (base:=w3.heap.size) ?_
      rw [←(HT.out h1).2.2.1]
      exact ownsRow_setCell_below O5.out (by exact HF3.out) _
    clear hb5 CR1 HOWN S4
    go_upto_region 6 with fail
    rw [←hw6]
    clear hw6 S5 O5 pp fz
    have p0:=block_cells S6.out.var 0 _ rfl
    have p1:=block_cells S6.out.var 1 _ rfl
    have p2:=block_cells S6.out.var 2 _ rfl
    have p3:=block_cells S6.out.var 3 _ rfl
    have p4:=block_cells S6.out.var 4 _ rfl
    go_wp2_with fail
    refine (CW.out h1 _ g S6.out.r5.below L6.out).mono ?_
    rintro e w7 ⟨rfl,hb7⟩
    have S7:Hid (R5 w w7):=(S6.out.call hb7).r5
    have EZ:Hid (be=le):=by show _=_;rw [HBE.out,if_neg (by simp [h1])]
    clear hb7 S6 L6 CW p0 p1 p2 p3 p4
    by_cases h2:le=0
    · have q2:((le:Int)==0)=true:=by rw [beq_iff_eq];omega
      have HB0:Hid (be=0):=EZ.out.trans h2
      go_wp2_with fail
      refine (CD.out _ S7.out.below).mono ?_
      rintro e w8 ⟨hb8,h8⟩
      have S8:Hid (R5 w w8):=S7.out.call hb8
      obtain ⟨d,sv,rv,hd1,hd2,rfl,hn⟩:∃d sv rv,Jn.berr d=0∧Jn.btext d=lx∧e=.returned (.tuple #[.agg #[.int .u64 (d.seq:Int),.string d.prev,.string d.root,sv,rv],.int .i64 0])∧BkN w8 w7.heap.size d sv rv:=by
        rcases h8 with ⟨d,sv,rv,k1,k2,k3,k4⟩ | ⟨k1,_⟩
        · exact ⟨d,sv,rv,k1,k2,k3,k4⟩
        · exact absurd (HBX.out HB0.out).symm (k1 c (by rw [←HCC.out.1];exact HB0.out) HRB.out)
      obtain rfl:d=c:=Jn.btext_inj hd1 (by rw [←HCC.out.1];exact HB0.out) hn.rngB HRB.out (hd2.trans (HBX.out HB0.out))
      obtain ⟨ta,tn,tc,rfl⟩:∃a n c,sv=.slice a n c:=by obtain ⟨a,c,e⟩:=own_slc hn.row3;exact ⟨a,_,c,e⟩
      obtain ⟨ua,un,uc,rfl⟩:∃a n c,rv=.slice a n c:=by obtain ⟨cs,ho,_⟩:=hn.row4;obtain ⟨a,c,e⟩:=own_slc ho;exact ⟨a,_,c,e⟩
      have G:=S8.out.put hn S7.out.lt
      have HF:Hid (_∧_):=⟨G.1,(show MakeGave d w _ _ from ⟨G.2.1,.inl ⟨hd1,_,_,rfl,G.2.2⟩⟩)⟩
      clear G hn hd1 hd2 hb8 h8 HCC HBX HB0 HBE EZ S7 HRB
      have hres:=S8.out.res
      have fz:=row_freeV hres
      have y0:=block_cells hres 0 _ rfl
      have y1:=block_cells hres 1 _ rfl
      have y2:=block_cells hres 2 _ rfl
      have y3:=block_cells hres 3 _ rfl
      have y4:=block_cells hres 4 _ rfl
      clear hres
      go_wp2
      rw [setsB5]
      exact bodyPost_ret (v:=.tuple #[.agg #[.int .u64 (d.seq:Int),.string d.prev,.string d.root,.slice ta tn tc,.slice ua un uc],.int .i64 0]) ((results_row_tmpV (fn:=Tryz.f5) (p:=8) (u:=9) (ty:=26) (by rfl) _ _ w.heap.size 26 #[.int .u64 (d.seq:Int),.string d.prev,.string d.root,.slice ta tn tc,.slice ua un uc] (0,0) _ (by rfl) HF.out.1 Tryz.underlying26 rfl info_blk).trans (by rfl)) rfl HF.out.2
    · have q2:((le:Int)==0)=false:=by rw [beq_eq_false_iff_ne];omega
      have G:=S7.out.zero
      have HF:Hid (_∧_):=⟨G.1,(show MakeGave c w _ _ from ⟨G.2,.inr ⟨by rw [←HCC.out.1,EZ.out];exact h2,rfl⟩⟩)⟩
      rw [←HCC.out.1,EZ.out] at HF
      clear G
      have hres:=S7.out.res
      have fz:=row_freeV hres
      have y0:=block_cells hres 0 _ rfl
      have y1:=block_cells hres 1 _ rfl
      have y2:=block_cells hres 2 _ rfl
      have y3:=block_cells hres 3 _ rfl
      have y4:=block_cells hres 4 _ rfl
      clear hres
      go_wp2
      rw [setsB5]
      exact bodyPost_ret (v:=.tuple #[.agg #[.int .u64 0,.string ⟨#[]⟩,.string ⟨#[]⟩,.slice none 0 0,.slice none 0 0],.int .i64 (le:Int)]) ((results_row_tmpV (fn:=Tryz.f5) (p:=8) (u:=9) (ty:=26) (by rfl) _ _ w.heap.size 26 #[.int .u64 0,.string ⟨#[]⟩,.string ⟨#[]⟩,.slice none 0 0,.slice none 0 0] (0,0) _ (by rfl) HF.out.1 Tryz.underlying26 rfl info_blk).trans (by rfl)) rfl HF.out.2
  · have q1:((z:Int)==0)=false:=by rw [beq_eq_false_iff_ne];omega
    have EZ:Hid (be=z):=by show _=_;rw [HBE.out,if_pos h1]
    have G:=S4.out.r5.zero
    have HF:Hid (_∧_):=⟨G.1,(show MakeGave c w _ _ from ⟨G.2,.inr ⟨by rw [←HCC.out.1,EZ.out];exact h1,rfl⟩⟩)⟩
    rw [←HCC.out.1,EZ.out] at HF
    clear G
    have hres:=S4.out.r5.res
    have fz:=row_freeV hres
    have y0:=block_cells hres 0 _ rfl
    have y1:=block_cells hres 1 _ rfl
    have y2:=block_cells hres 2 _ rfl
    have y3:=block_cells hres 3 _ rfl
    have y4:=block_cells hres 4 _ rfl
    clear hres
    go_wp2
    rw [setsB5]
    exact bodyPost_ret (v:=.tuple #[.agg #[.int .u64 0,.string ⟨#[]⟩,.string ⟨#[]⟩,.slice none 0 0,.slice none 0 0],.int .i64 (z:Int)]) ((results_row_tmpV (fn:=Tryz.f5) (p:=8) (u:=9) (ty:=26) (by rfl) _ _ w.heap.size 26 #[.int .u64 0,.string ⟨#[]⟩,.string ⟨#[]⟩,.slice none 0 0,.slice none 0 0] (0,0) _ (by rfl) HF.out.1 Tryz.underlying26 rfl info_blk).trans (by rfl)) rfl HF.out.2
end Go.Proofs.YtggnfejjcgbebaaGreatDoor
