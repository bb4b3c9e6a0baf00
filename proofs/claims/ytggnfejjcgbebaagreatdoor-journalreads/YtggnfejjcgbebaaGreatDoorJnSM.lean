/- What a value says as a block, walked. -/
import Derived.Test.YtggnfejjcgbebaaGreatDoorQGM
namespace Go.Proofs.YtggnfejjcgbebaaGreatDoor
open Go.RowKit
open Vl (V)
attribute [local go_sem ↓] Go.wp_at_zero Go.wp_at_succ
theorem own_block {W W':World} {base e sz n:Nat} {v:Value} {xs:List Value} (h:W.ownsRow base e sz v n xs) (hb:∀g,v.ownBlock=some g→W'.heap[g]?=W.heap[g]?):W'.ownsRow base e sz v n xs:=by
  refine ⟨h.1,?_⟩
  rcases h.2 with h2 | ⟨g,cap,cur,rfl,h3,h4,h5⟩
  · exact .inl h2
  · exact .inr ⟨g,cap,cur,rfl,h3,(hb g rfl).trans h4,h5⟩
theorem own_down {W:World} {base base' e sz n:Nat} {v:Value} {xs:List Value} (h:W.ownsRow base e sz v n xs) (hb:base'≤base):W.ownsRow base' e sz v n xs:=by
  refine ⟨h.1,?_⟩
  rcases h.2 with h2 | ⟨g,cap,cur,rfl,h3,h4⟩
  · exact .inl h2
  · exact .inr ⟨g,cap,cur,rfl,by omega,h4⟩
theorem KeptR.mono {W:World} {base base':Nat} {lv:Value} {cs:List Value} {rs:List Jn.R} (h:KeptR W base lv cs rs) (hb:base'≤base):KeptR W base' lv cs rs :=
  ⟨h.1,fun j r hj=>by
    obtain ⟨c4,c5,c6,c7,c8,c9,h1,h2,h3⟩:=h.2 j r hj
    exact ⟨c4,c5,c6,c7,c8,c9,h1,repA_stays (fun _ _=>rfl) (fun g hg=>⟨Nat.le_trans hb hg.1,hg.2⟩) _ _ h2,h3⟩⟩
theorem BkN.mono {W:World} {base base':Nat} {b:Jn.B} {sv rv:Value} (h:BkN W base b sv rv) (hb:base'≤base):BkN W base' b sv rv :=
  ⟨h.seq,h.prev,h.root,h.small,h.len,own_down h.row3 hb,h.row4.imp fun _ hc=>⟨own_down hc.1 hb,hc.2.mono hb⟩⟩
def BlockGave (v:V) (w:World) (en:Ending) (w':World):Prop:=Below w.heap.size w w'∧∃b sv rv,Jn.SaysB v b∧en=.returned (.agg #[.int .u64 (b.seq:Int),.string b.prev,.string b.root,sv,rv])∧BkN w' w.heap.size b sv rv
theorem QS.done {w W:World} {vc:Array Value} {sq:Nat} {pv rt:ByteArray} {l3 l4:Value} {ss:List ByteArray} {rs:List Jn.R} {v:V} (h:QS w vc sq pv rt l3 l4 ss rs W) (h1:sq<18446744073709551616) (h2:pv.size≤maxLen) (h3:rt.size≤maxLen) (h4:∀s∈ss,s.size≤maxLen) (h5:rs.length≤maxLen) (hs:Jn.SaysB v ⟨sq,pv,rt,ss,rs⟩) :
    (W.setCells (w.heap.size+1) 0 [.int .u64 (sq:Int),.string pv,.string rt,l3,l4]).heap[w.heap.size+1]?=some (.cells #[.int .u64 (sq:Int),.string pv,.string rt,l3,l4] 26 (0,0))∧BlockGave v w (.returned (.agg #[.int .u64 (sq:Int),.string pv,.string rt,l3,l4])) (W.setCells (w.heap.size+1) 0 [.int .u64 (sq:Int),.string pv,.string rt,l3,l4]):=by
  have hst:=putB5 h.res (.int .u64 (sq:Int)) (.string pv) (.string rt) l3 l4
  have k6:∀k,k≠w.heap.size+1→(W.setCells (w.heap.size+1) 0 [.int .u64 (sq:Int),.string pv,.string rt,l3,l4]).heap[k]?=W.heap[k]?:=fun k hk=>setCells_block hk _
  have s6:(W.setCells (w.heap.size+1) 0 [.int .u64 (sq:Int),.string pv,.string rt,l3,l4]).heap.size=W.heap.size:=size_setCellsV' _ _ _ _
  have b6:Below w.heap.size w (W.setCells (w.heap.size+1) 0 [.int .u64 (sq:Int),.string pv,.string rt,l3,l4]):=below_setCellsV (by omega) _ _ h.below
  obtain ⟨w6,hw6⟩:∃w6,w6=W.setCells (w.heap.size+1) 0 [.int .u64 (sq:Int),.string pv,.string rt,l3,l4]:=⟨_,rfl⟩
  rw [←hw6] at hst k6 s6 b6 ⊢
  clear hw6
  refine ⟨hst,b6,⟨sq,pv,rt,ss,rs⟩,l3,l4,hs,rfl,BkN.mono (base:=w.heap.size+3) ⟨h1,h2,h3,h4,h5,?_,?_⟩ (by omega)⟩
  · exact own_block h.row3 fun g hg=>k6 g (by have:=(own_in h.row3 g hg).1;omega)
  · obtain ⟨cs,ho,hk⟩:=h.row4
    exact ⟨cs,own_block ho fun g hg=>k6 g (by have:=(own_in ho g hg).1;omega),hk.step fun g hg=>⟨k6 g (by have:=hg.1;omega),hg.1,by rw [s6];exact hg.2.1,hg.2.2⟩⟩
theorem rep_six {W:World} {H g o:Nat} {l:List V} (h:RepL W H g o l) (j:Nat) {k:Nat} {b:Bool} {n:Int} {s:ByteArray} {l':List V} {f:List (ByteArray × V)} (hj:l[j]?=some ⟨k,b,n,s,l',f⟩):∃(ao:Option Addr) (lc:Nat) (fo:Option Addr) (fc:Nat),Six W g (o+j*6) (.int .u8 (k:Int)) (.bool b) (.int .i64 n) (.string s) (.slice ao l'.length lc) (.slice fo f.length fc)∧s.size≤maxLen∧(0<l'.length→∃g' o',ao=some ⟨g',o',none⟩∧g'<H∧RepL W H g' o' l'):=by
  obtain ⟨c0,c1,c2,c3,c4,c5,h6,hr⟩:=repL_at l o h j _ hj
  rw [Rep] at hr
  obtain ⟨ao,lc,fo,fc,he,_,_,hs,_,_,hL,_⟩:=hr
  simp only [Value.agg.injEq,Array.mk.injEq,List.cons.injEq,and_true] at he
  obtain ⟨rfl,rfl,rfl,rfl,rfl,rfl⟩:=he
  exact ⟨ao,lc,fo,fc,h6,hs,hL⟩
structure Q1 (w:World) (vc:Array Value) (W:World):Prop where
  below:Below w.heap.size w W
  vbox:W.heap[w.heap.size]?=some (.cells vc 32 (0,0))
  res:W.heap[w.heap.size+1]?=some (.cells #[.int .u64 0,.string ⟨#[]⟩,.string ⟨#[]⟩,.slice none 0 0,.slice none 0 0] 26 (0,0))
theorem Q1.start (w:World) (vc:Array Value):Q1 w vc ((w.alloc (.cells vc 32)).alloc (.cells #[.int .u64 0,.string ⟨#[]⟩,.string ⟨#[]⟩,.slice none 0 0,.slice none 0 0] 26)) :=
  ⟨below_new2 _ _ _,blk_call (heap_alloc_new w _) (below_new _ _),heap_new2 w _ _⟩
theorem QS.drew {w W:World} {vc:Array Value} {sq:Nat} {pv rt:ByteArray} {l3 l4:Value} {ss:List ByteArray} {rs:List Jn.R} (h:QS w vc sq pv rt l3 l4 ss rs W):QS w vc sq pv rt l3 l4 ss rs W.drew :=
  ⟨h.below.drew,h.vbox,h.res,h.box,h.row3,h.row4.imp fun _ hc=>⟨hc.1,hc.2.step fun _ hg=>⟨rfl,hg⟩⟩⟩
theorem QS.cells {w W:World} {vc:Array Value} {sq:Nat} {pv rt:ByteArray} {l3 l4:Value} {ss:List ByteArray} {rs:List Jn.R} (h:QS w vc sq pv rt l3 l4 ss rs W):W.cell? ⟨w.heap.size+2,0,none⟩=some (.int .u64 (sq:Int))∧W.cell? ⟨w.heap.size+2,1,none⟩=some (.string pv)∧W.cell? ⟨w.heap.size+2,2,none⟩=some (.string rt)∧W.cell? ⟨w.heap.size+2,3,none⟩=some l3∧W.cell? ⟨w.heap.size+2,4,none⟩=some l4 :=
  ⟨block_cells h.box 0 _ rfl,block_cells h.box 1 _ rfl,block_cells h.box 2 _ rfl,block_cells h.box 3 _ rfl,block_cells h.box 4 _ rfl⟩
theorem Q1.zero {w W:World} {vc:Array Value} {v:V} (h:Q1 w vc W) (hs:Jn.SaysB v Jn.B0):(W.setCells (w.heap.size+1) 0 [.int .u64 0,.string ⟨#[]⟩,.string ⟨#[]⟩,.slice none 0 0,.slice none 0 0]).heap[w.heap.size+1]?=some (.cells #[.int .u64 0,.string ⟨#[]⟩,.string ⟨#[]⟩,.slice none 0 0,.slice none 0 0] 26 (0,0))∧BlockGave v w (.returned (.agg #[.int .u64 0,.string ⟨#[]⟩,.string ⟨#[]⟩,.slice none 0 0,.slice none 0 0])) (W.setCells (w.heap.size+1) 0 [.int .u64 0,.string ⟨#[]⟩,.string ⟨#[]⟩,.slice none 0 0,.slice none 0 0]) :=
  ⟨putB5 h.res _ _ _ _ _,below_setCellsV (by omega) _ _ h.below,Jn.B0,_,_,hs,rfl,BkN.zero _ _⟩
theorem Jn.saysB_no {k:Nat} {b:Bool} {n:Int} {s:ByteArray} {l:List V} {f:List (ByteArray × V)} (h:l.length≠5):Jn.SaysB ⟨k,b,n,s,l,f⟩ Jn.B0:=by
  unfold Jn.SaysB
  split
  rename_i hq
  simp only [V.mk.injEq] at hq
  obtain ⟨_,_,_,_,rfl,_⟩:=hq
  split
  · simp at h
  · rfl
theorem QS.start {w W:World} {vc:Array Value} (h:Q1 w vc W) (hsz:W.heap.size=w.heap.size+2) (sq:Nat) (pv rt:ByteArray):QS w vc sq pv rt (.slice none 0 0) (.slice none 0 0) [] [] (W.alloc (.cells #[.int .u64 (sq:Int),.string pv,.string rt,.slice none 0 0,.slice none 0 0] 26)) :=
  ⟨h.below.trans ((below_new _ _).mono h.below.size),blk_call h.vbox (below_new _ _),blk_call h.res (below_new _ _),by rw [←hsz];exact heap_alloc_new W _,⟨rfl,.inl ⟨rfl,rfl⟩⟩,[],⟨rfl,.inl ⟨rfl,rfl⟩⟩,KeptR.none _ _ _⟩
set_option maxHeartbeats 32000000 in
set_option maxRecDepth 100000 in
theorem blockOf_c (zk:Nat) (zb:Bool) (zn:Int) (zs:ByteArray) (za:Option Addr) (zl zc:Nat) (ta:Option Addr) (tl tc:Nat) (v:V) (w:World) (hU:Bn.HasU w) (hr:Rep w w.heap.size v (.agg #[.int .u8 (zk:Int),.bool zb,.int .i64 zn,.string zs,.slice za zl zc,.slice ta tl tc])) (hsm:∀x∈v.5,x.5.length≤1048576) :
    Calls Tryz.prog 59 #[.agg #[.int .u8 (zk:Int),.bool zb,.int .i64 zn,.string zs,.slice za zl zc,.slice ta tl tc]] w (BlockGave v w):=by
  obtain ⟨k0,b0,n0,s0,l,f⟩:=v
  rw [Rep] at hr
  obtain ⟨ao,lc,fo,fc,he,hk,hn,hs,hll,hfl,hL,hF⟩:=hr
  simp at he
  obtain ⟨hz,rfl,rfl,rfl,⟨rfl,rfl,rfl⟩,rfl,rfl,rfl⟩:=he
  obtain rfl:zk=k0:=by omega
  by_cases h5:l.length=5
  · obtain ⟨⟨ka,ba,na,sa,la,fa⟩,⟨kb,bb,nb,sb,lb,fb⟩,⟨kc,bc,nc,sc,lc',fc'⟩,⟨kd,bd,nd,sd,ld,fd⟩,⟨ke,be,ne,se,le,fe⟩,rfl⟩:=Jn.list5 h5
    obtain ⟨g,o,rfl,hg,hR⟩:=hL (by simp)
    obtain ⟨_,_,_,_,⟨_,_,qa,_,_,_⟩,_,_⟩:=rep_six hR 0 rfl
    obtain ⟨_,_,_,_,⟨_,_,_,qb,_,_⟩,hsb,_⟩:=rep_six hR 1 rfl
    obtain ⟨_,_,_,_,⟨_,_,_,qc,_,_⟩,hsc,_⟩:=rep_six hR 2 rfl
    obtain ⟨ad,cd,_,_,⟨_,_,_,_,qd,_⟩,_,hRd⟩:=rep_six hR 3 rfl
    obtain ⟨ae,ce,_,_,⟨_,_,_,_,qe,_⟩,_,hRe⟩:=rep_six hR 4 rfl
    have hdl:ld.length≤1048576:=hsm ⟨kd,bd,nd,sd,ld,fd⟩ (by simp)
    have hel:le.length≤1048576:=hsm ⟨ke,be,ne,se,le,fe⟩ (by simp)
    obtain ⟨sq,hsq⟩:∃sq,sq=Jn.u64 na:=⟨_,rfl⟩
    have vseq:IntKind.u64.wrap na=(sq:Int):=by rw [hsq];exact Jn.u64_eq na
    have HSQ:Hid (sq=Jn.u64 na):=hsq
    obtain ⟨i9,hi9,hy0,hy1,hy2⟩:=info_parts info9
    obtain ⟨ir,hir,hr0,hr1,hr2⟩:=info_parts infoRev3
    clear hsq
    obtain ⟨dn,hdn⟩:∃dn,dn=ld.length:=⟨_,rfl⟩
    obtain ⟨en,hen⟩:∃en,en=le.length:=⟨_,rfl⟩
    rw [←hdn] at qd hdl hRd
    rw [←hen] at qe hel hRe
    have HDN:Hid (dn=ld.length):=hdn
    have HSS:Hid (∀s∈ld.map (fun x=>x.4),s.size≤maxLen):=by
      intro s hs
      obtain ⟨⟨kx,bx,nx,sx,lx,fx⟩,hx,rfl⟩:=List.mem_map.1 hs
      obtain ⟨i,hi,hix⟩:=List.getElem_of_mem hx
      obtain ⟨g3,o3,_,_,hR3⟩:=hRd (by omega)
      obtain ⟨_,_,_,_,_,hsx,_⟩:=rep_six hR3 i (by rw [List.getElem?_eq_getElem hi,hix])
      exact hsx
    have HEN:Hid (en=le.length):=hen
    have HRD:Hid (0<dn→∃g' o',ad=some ⟨g',o',none⟩∧g'<w.heap.size∧RepL w w.heap.size g' o' ld):=hRd
    have HRE:Hid (0<en→∃g' o',ae=some ⟨g',o',none⟩∧g'<w.heap.size∧RepL w w.heap.size g' o' le):=hRe
    have HU:Hid (∀W,Below w.heap.size w W→Bn.HasU W):=fun W hW=>hU.stays hW
    obtain ⟨vc,hvc⟩:∃vc:Array Value,vc=#[.int .u8 (zk:Int),.bool zb,.int .i64 zn,.string zs,.slice (some ⟨g,o,none⟩) 5 zc,.slice ta f.length tc]:=⟨_,rfl⟩
    obtain ⟨w1,hw1⟩:∃w1,w1=(w.alloc (.cells #[.int .u8 (zk:Int),.bool zb,.int .i64 zn,.string zs,.slice (some ⟨g,o,none⟩) 5 zc,.slice ta f.length tc] 32)).alloc (.cells #[.int .u64 0,.string ⟨#[]⟩,.string ⟨#[]⟩,.slice none 0 0,.slice none 0 0] 26):=⟨_,rfl⟩
    have S1:Hid (Q1 w vc w1∧w1.heap.size=w.heap.size+2):=by
      rw [hw1,hvc];exact ⟨Q1.start w _,by simp⟩
    have HV4:Hid (∀W:World,W.heap[w.heap.size]?=some (.cells vc 32 (0,0))→W.cell? ⟨w.heap.size,4,none⟩=some (.slice (some ⟨g,o,none⟩) 5 zc)):=fun W hW=>block_cells hW 4 _ (by rw [hvc];rfl)
    have HG:Hid (∀W,Below w.heap.size w W→W.cell? ⟨g,o+2,none⟩=some (.int .i64 na)∧W.cell? ⟨g,o+6+3,none⟩=some (.string sb)∧W.cell? ⟨g,o+12+3,none⟩=some (.string sc)∧W.cell? ⟨g,o+18+4,none⟩=some (.slice ad dn cd)∧W.cell? ⟨g,o+24+4,none⟩=some (.slice ae en ce)):=fun W hW=>by
      have k:∀(q:Nat) (v:Value),w.cell? ⟨g,q,none⟩=some v→W.cell? ⟨g,q,none⟩=some v:=fun q v hv=>(hW.cell (p:=⟨g,q,none⟩) hg).trans hv
      exact ⟨k _ _ qa,k _ _ qb,k _ _ qc,k _ _ qd,k _ _ qe⟩
    clear hU hdn hen hRd hRe hL hF hR qa qb qc qd qe hvc
    go_enter Tryz.func59,Tryz.ntmps59
    go_upto_region 1 with fail
    rw [←hw1]
    clear hw1
    have p4:=HV4.out _ S1.out.1.vbox
    obtain ⟨qa,qb,qc,qd,qe⟩:=HG.out _ S1.out.1.below
    go_upto_region 3 with fail
    go_region_held3 (fun W'=>W'.cell? ⟨w.heap.size,4,none⟩=some (.slice (some ⟨g,o,none⟩) 5 zc)∧W'.cell? ⟨g,o+2,none⟩=some (.int .i64 na)∧W'.cell? ⟨g,o+6+3,none⟩=some (.string sb)∧W'.cell? ⟨g,o+12+3,none⟩=some (.string sc)) (go_keep) (fail)
    obtain ⟨w3,hw3⟩:∃w3,w3=(w1.alloc (.cells #[.int .u64 (sq:Int),.string sb,.string sc,.slice none 0 0,.slice none 0 0] 26)).drew:=⟨_,rfl⟩
    have S3:Hid (QS w vc sq sb sc (.slice none 0 0) (.slice none 0 0) [] [] w3):=by rw [hw3];exact (QS.start S1.out.1 S1.out.2 _ _ _).drew
    rw [←hw3,S1.out.2]
    clear hw3 S1 p4 qa qb qc qd qe
    have p4:=HV4.out _ S3.out.vbox
    obtain ⟨qa,qb,qc,qd,qe⟩:=HG.out _ S3.out.below
    go_wp2
    go_loopw [36] (fun i wr=>∃(j:Nat) (lv:Value),j≤dn∧i=.int .i64 (j:Int)∧QS w vc sq sb sc lv (.slice none 0 0) ((ld.take j).map fun x=>x.4) [] wr) (fun i _=>dn - (intOf i).toNat)
    case atStart=>exact ⟨0,_,Nat.zero_le _,rfl,S3.out⟩
    case round =>
      obtain ⟨j,lv,hj,rfl,hS⟩:=hrel
      have S:Hid (QS w vc sq sb sc lv (.slice none 0 0) ((ld.take j).map fun x=>x.4) [] wr):=hS
      clear hS S3 p4 qa qb qc qd qe
      have HLJ:Hid (((ld.take j).map fun x=>x.4).length=j):=by show _=_;rw [List.length_map,List.length_take,←HDN.out];omega
      by_cases hlt:j<dn
      · obtain ⟨⟨kx,bx,nx,sx,lx,fx⟩,hx⟩:∃x,ld[j]?=some x:=⟨_,List.getElem?_eq_getElem (by rw [←HDN.out];exact hlt)⟩
        obtain ⟨g3,o3,rfl,hg3,hR3⟩:=HRD.out (by omega)
        obtain ⟨ax,cx,ay,cy,h6,hsx,_⟩:=rep_six hR3 j hx
        obtain ⟨d0,d1,d2,d3,d4,d5⟩:=h6.stays S.out.below hg3
        have HX:Hid (ld[j]?=some ⟨kx,bx,nx,sx,lx,fx⟩):=hx
        clear hx hR3 h6
        go_upto_region 7 with fail
        obtain ⟨w2,hw2⟩:∃w2,w2=wr.alloc (.cells #[.int .u8 (kx:Int),.bool bx,.int .i64 nx,.string sx,.slice ax lx.length cx,.slice ay fx.length cy] 32):=⟨_,rfl⟩
        obtain ⟨B,hB⟩:∃B,B=wr.heap.size:=⟨_,rfl⟩
        have S2:Hid (QS w vc sq sb sc lv (.slice none 0 0) ((ld.take j).map fun x=>x.4) [] w2):=by rw [hw2];exact S.out.call (below_new _ _)
        have HBX:Hid (w2.heap[B]?=some (.cells #[.int .u8 (kx:Int),.bool bx,.int .i64 nx,.string sx,.slice ax lx.length cx,.slice ay fx.length cy] 32 (0,0))):=by
          rw [hw2,hB];exact heap_alloc_new wr _
        rw [←hw2,←hB]
        clear hw2 hB d0 d1 d2 d3 d4 d5 S
        have hown:=S2.out.row3
        rw [HLJ.out] at hown
        have HOWN:Hid (w2.ownsRow (w.heap.size+3) 9 1 lv j (((ld.take j).map fun x=>x.4).map Value.string)):=hown
        clear hown
        obtain ⟨p0,p1,p2,p3,p4⟩:=S2.out.cells
        have q3:=block_cells HBX.out 3 _ rfl
        have fit63:Hid (j+1≤maxLen):=by show _≤_;unfold maxLen;omega
        have fit47:Hid ((j+1)*16≤140737488355328):=by show _≤_;omega
        have HSZ:Hid (w.heap.size+3≤(w2.alloc (.cells #[.string sx] 9)).heap.size):=by have:=S2.out.lt;show _≤_;simp;omega
        have HN:Hid (∀gg cap w5,(w2.alloc (.cells #[.string sx] 9)).grownBy w5 lv.ownBlock→w5.ownsRow (w.heap.size+3) 9 1 (.slice (some ⟨gg,0,none⟩) (j+1) cap) (j+1) ((((ld.take j).map fun x=>x.4).map Value.string)++[.string sx])→QS w vc sq sb sc (.slice (some ⟨gg,0,none⟩) (j+1) cap) (.slice none 0 0) ((ld.take (j+1)).map fun x=>x.4) [] (w5.setCell ⟨w.heap.size+2,3,none⟩ (.slice (some ⟨gg,0,none⟩) (j+1) cap))∧w5.heap[w.heap.size+2]?=some (.cells #[.int .u64 (sq:Int),.string sb,.string sc,lv,.slice none 0 0] 26 (0,0))):=by
          intro gg cap w5 hgr hno
          have h:=QS.next3 (gg:=gg) (cap:=cap) (s:=sx) S2.out (below_new _ _) hgr (by rw [HLJ.out];exact hno)
          rw [HLJ.out] at h
          rw [List.take_add_one,HX.out,List.map_append]
          exact h
        go_wp2_with (first | (at_builtin;refine wpList_append_lies _ rfl _ _ 23 rfl (w.heap.size+3) 9 i9 (.string ⟨#[]⟩) 1 16 Tryz.underlying23 hi9 hy0 hy1 hy2 rfl (by decide) _ _ _ rfl (HOWN.out.alloc _) ⟨w2.heap.size,0,none⟩ 1 1 [.string sx] rfl rfl (World.news_of_block (heap_alloc_new w2 _)) (by intro u hu;simp at hu;subst hu;rfl) (by decide) fit63.out fit47.out HSZ.out _ rfl ?_;intro gg cap w5 hown5 hgrow hat hglt;have N:=HN.out gg cap w5 hgrow hown5;have S5:Hid (_):=N.1;have fz5:=row_freeV N.2;have t3:=block_cells N.2 3 _ rfl;clear N hown5 hgrow hat hglt))
        go_roundw
        case rel=>first | exact ⟨j+1,_,by omega,by go_num,S5.out⟩ | ((repeat apply Exists.intro);exact ⟨⟨j+1,_,by omega,by go_num,S5.out⟩,rfl⟩)
        case measure=>simp [intOf];omega
      · have hjn:j=dn:=by omega
        subst hjn
        have S9:Hid (QS w vc sq sb sc lv (.slice none 0 0) (ld.map fun x=>x.4) [] wr):=by
          have h:=S.out
          rw [List.take_of_length_le (by rw [←HDN.out];exact Nat.le_refl _)] at h
          exact h
        obtain ⟨l3,hl3⟩:∃l3,l3=lv:=⟨_,rfl⟩
        rw [←hl3] at S9
        obtain ⟨w4,hw4⟩:∃w4,w4=wr:=⟨_,rfl⟩
        rw [←hw4] at S9
        rw [←hw4]
        clear hl3 hw4 S HLJ
        have p4:=HV4.out _ S9.out.vbox
        obtain ⟨qa,qb,qc,qd,qe⟩:=HG.out _ S9.out.below
        go_wp2
        go_loopw [54] (fun i wr=>∃(j:Nat) (lv:Value) (rs:List Jn.R),j≤en∧i=.int .i64 (j:Int)∧QS w vc sq sb sc l3 lv (ld.map fun x=>x.4) rs wr∧rs.length=j∧∀(i:Nat) (x:V) (q:Jn.R),le[i]?=some x→rs[i]?=some q→Jn.Says x.4 q) (fun i _=>en - (intOf i).toNat)
        case atStart=>exact ⟨0,_,[],Nat.zero_le _,rfl,S9.out,rfl,fun i x q _ h=>by simp at h⟩
        case round =>
          obtain ⟨j,lv,rs,hj,rfl,hS,hrs,hsay⟩:=hrel
          have S:Hid (QS w vc sq sb sc l3 lv (ld.map fun x=>x.4) rs wr):=hS
          have HRS:Hid (rs.length=j∧∀(i:Nat) (x:V) (q:Jn.R),le[i]?=some x→rs[i]?=some q→Jn.Says x.4 q):=⟨hrs,hsay⟩
          clear hS S9 p4 qa qb qc qd qe hrs hsay
          by_cases hlt:j<en
          · obtain ⟨⟨kx,bx,nx,sx,lx,fx⟩,hx⟩:∃x,le[j]?=some x:=⟨_,List.getElem?_eq_getElem (by rw [←HEN.out];exact hlt)⟩
            obtain ⟨g3,o3,rfl,hg3,hR3⟩:=HRE.out (by omega)
            obtain ⟨ax,cx,ay,cy,h6,hsx,_⟩:=rep_six hR3 j hx
            obtain ⟨d0,d1,d2,d3,d4,d5⟩:=h6.stays S.out.below hg3
            have HX:Hid (le[j]?=some ⟨kx,bx,nx,sx,lx,fx⟩):=hx
            clear hx hR3 h6
            go_upto_region 12 with fail
            obtain ⟨w2,hw2⟩:∃w2,w2=wr.alloc (.cells #[.int .u8 (kx:Int),.bool bx,.int .i64 nx,.string sx,.slice ax lx.length cx,.slice ay fx.length cy] 32):=⟨_,rfl⟩
            obtain ⟨B,hB⟩:∃B,B=wr.heap.size:=⟨_,rfl⟩
            have S2:Hid (QS w vc sq sb sc l3 lv (ld.map fun x=>x.4) rs w2):=by rw [hw2];exact S.out.call (below_new _ _)
            have HBX:Hid (w2.heap[B]?=some (.cells #[.int .u8 (kx:Int),.bool bx,.int .i64 nx,.string sx,.slice ax lx.length cx,.slice ay fx.length cy] 32 (0,0))):=by
              rw [hw2,hB];exact heap_alloc_new wr _
            have CR:Hid (∀W,Below w2.heap.size w2 W→Calls Tryz.prog 95 #[.string sx] W (RevGave sx W)):=fun W hW=>revOf_c sx W (HU.out W (S2.out.below.trans (hW.mono S2.out.below.size)))
            rw [←hw2,←hB]
            clear hw2 hB d0 d1 d2 d3 d4 d5 S
            obtain ⟨cs,hown,hkr⟩:=S2.out.row4
            have HKR:Hid (KeptR w2 (w.heap.size+3) lv cs rs):=hkr
            have HOW0:Hid (w2.ownsRow (w.heap.size+3) 34 10 lv rs.length cs):=hown
            rw [HRS.out.1] at hown
            have HOWN:Hid (w2.ownsRow (w.heap.size+3) 34 10 lv j cs):=hown
            clear hown hkr
            obtain ⟨p0,p1,p2,p3,p4⟩:=S2.out.cells
            have q3:=block_cells HBX.out 3 _ rfl
            have ltB:=(Array.getElem?_eq_some_iff.1 HBX.out).1
            have ltO:w.heap.size+2<w2.heap.size:=S2.out.lt
            have fit63:Hid (j+1≤maxLen):=by show _≤_;unfold maxLen;omega
            have fit47:Hid ((j+1)*120≤140737488355328):=by show _≤_;omega
            go_region_law (first
              | (go_simp;go_at_call 95;refine (CR.out _ (by first | exact Below.refl _ _ | exact (Below.refl _ _).drew)).mono ?_;rintro e w3 ⟨hb3,r,xk,xb,xn,xs,xa,xl,xc,ya,yl,yc,hsay,rfl,hxk,hk1,hk2,hk3,hk4,hra⟩
                 have HB3:Hid (Below w2.heap.size w2 w3):=(by first | exact (Below.refl _ _).drew.trans hb3 | exact hb3)
                 have HRA:Hid (RepA w3 (fun g=>w2.heap.size≤g∧g<w3.heap.size) r.val (.agg #[.int .u8 (xk:Int),.bool xb,.int .i64 xn,.string xs,.slice xa xl xc,.slice ya yl yc])∧Jn.Fits r∧Jn.Says sx r):=⟨hra,⟨hk1,hk2,hk3,hk4⟩,hsay⟩
                 obtain ⟨r0,r1,r2,r3,r4⟩:=(S2.out.call HB3.out).cells
                 have rq3:=block_cells (blk_call HBX.out HB3.out) 3 _ rfl
                 have lt3:w.heap.size+2<w3.heap.size:=(S2.out.call HB3.out).lt
                 clear hb3 hra hk1 hk2 hk3 hk4 hsay hxk)
              | (revert HB3;intro HB3
                 refine step_append_lies _ (by rfl) _ _ _ (by rfl) (w.heap.size+3) 34 ir _ 10 120 Tryz.underlying24 hir hr0 hr1 hr2 rfl (by omega) lv j cs (by rfl) ((own_call HOWN.out HB3.out).alloc _) ⟨w3.heap.size,0,none⟩ 1 1 [.int .u8 (r.kind:Int),.string r.table,.int .u64 (r.doc:Int),.int .u64 (r.ver:Int),.int .u8 (xk:Int),.bool xb,.int .i64 xn,.string xs,.slice xa xl xc,.slice ya yl yc] (by rfl) (by rfl) (World.news_of_block (heap_alloc_new w3 _)) (by simp [Value.oneCell']) (by omega) fit63.out fit47.out (by simp;omega) (w3.heap.size+1) (by simp) ?_;intro gg cap w5 hown5 hgrow hat hglt
                 have N:=QS.next4 S2.out HB3.out (below_new _ _) HOW0.out HKR.out HRA.out.1 HRA.out.2.1 hgrow (by simpa using hat) (by rw [HRS.out.1];exact hown5)
                 rw [HRS.out.1] at N
                 have S5:Hid (QS w vc sq sb sc l3 (.slice (some ⟨gg,0,none⟩) (j+1) cap) (ld.map fun x=>x.4) (rs++[r]) (w5.setCell ⟨w.heap.size+2,4,none⟩ (.slice (some ⟨gg,0,none⟩) (j+1) cap))):=N.1
                 have t4:=block_cells N.2 4 _ rfl
                 have fz5:=row_freeV N.2
                 have lt5:=(Array.getElem?_eq_some_iff.1 N.2).1
                 clear N hown5 hgrow hat hglt)
              | fail "no arm")
            all_goals
              have H6:Hid ((rs++[r]).length=j+1∧∀(i:Nat) (x:V) (q:Jn.R),le[i]?=some x→(rs++[r])[i]?=some q→Jn.Says x.4 q):=by
                refine ⟨by simp [HRS.out.1],fun i x q hx hq=>?_⟩
                rcases Nat.lt_or_ge i rs.length with hi | hi
                · rw [List.getElem?_append_left hi] at hq;exact HRS.out.2 i x q hx hq
                · have hi2:i=j:=by
                    have:=(List.getElem?_eq_some_iff.1 hq).1
                    rw [List.length_append] at this
                    have h1:=HRS.out.1
                    simp at this;omega
                  subst hi2
                  rw [List.getElem?_append_right (by have:=HRS.out.1;omega),HRS.out.1,Nat.sub_self] at hq
                  simp at hq
                  subst hq
                  rw [HX.out] at hx
                  simp at hx
                  subst hx
                  exact HRA.out.2.2
              go_wp2
              go_roundw
              case rel=>first | exact ⟨j+1,_,_,by omega,by go_num,S5.out,H6.out.1,H6.out.2⟩ | ((repeat apply Exists.intro);exact ⟨⟨j+1,_,_,by omega,by go_num,S5.out,H6.out.1,H6.out.2⟩,rfl⟩)
              case measure=>simp [intOf];omega
          · have hjn:j=en:=by omega
            subst hjn
            obtain ⟨a3,n3,c3,rfl⟩:∃a n c,l3=.slice a n c:=by obtain ⟨a,c,e⟩:=own_slc S.out.row3;exact ⟨a,_,c,e⟩
            obtain ⟨a4,n4,c4,rfl⟩:∃a n c,lv=.slice a n c:=by obtain ⟨cs,ho,_⟩:=S.out.row4;obtain ⟨a,c,e⟩:=own_slc ho;exact ⟨a,_,c,e⟩
            have HSAY:Hid (Jn.SaysB ⟨zk,zb,zn,zs,[⟨ka,ba,na,sa,la,fa⟩,⟨kb,bb,nb,sb,lb,fb⟩,⟨kc,bc,nc,sc,lc',fc'⟩,⟨kd,bd,nd,sd,ld,fd⟩,⟨ke,be,ne,se,le,fe⟩],f⟩ ⟨sq,sb,sc,ld.map fun x=>x.4,rs⟩) :=
              ⟨HSQ.out,rfl,rfl,rfl,by show rs.length=le.length;rw [HRS.out.1];exact HEN.out,HRS.out.2⟩
            have F:=S.out.done (v:=⟨zk,zb,zn,zs,[⟨ka,ba,na,sa,la,fa⟩,⟨kb,bb,nb,sb,lb,fb⟩,⟨kc,bc,nc,sc,lc',fc'⟩,⟨kd,bd,nd,sd,ld,fd⟩,⟨ke,be,ne,se,le,fe⟩],f⟩) (by rw [HSQ.out];exact Jn.u64_lt _) hsb hsc HSS.out (by rw [HRS.out.1];unfold maxLen;omega) HSAY.out
            have HF:Hid (_∧_):=F
            clear F
            obtain ⟨p0,p1,p2,p3,p4⟩:=S.out.cells
            have hres:=S.out.res
            have fz:=row_freeV hres
            have y0:=block_cells hres 0 _ rfl
            have y1:=block_cells hres 1 _ rfl
            have y2:=block_cells hres 2 _ rfl
            have y3:=block_cells hres 3 _ rfl
            have y4:=block_cells hres 4 _ rfl
            clear hres
            go_wp2
            rw [setsB5]
            exact bodyPost_ret (v:=.agg #[.int .u64 (sq:Int),.string sb,.string sc,.slice a3 n3 c3,.slice a4 n4 c4]) (results_cell_row rfl _ _ (w.heap.size+1) 26 #[.int .u64 (sq:Int),.string sb,.string sc,.slice a3 n3 c3,.slice a4 n4 c4] (0,0) _ rfl HF.out.1 Tryz.underlying26 rfl info_blk) rfl HF.out.2
  · have HS:Hid (Jn.SaysB ⟨zk,zb,zn,zs,l,f⟩ Jn.B0):=Jn.saysB_no h5
    have q1:((l.length:Int)==5)=false:=by rw [beq_eq_false_iff_ne];omega
    obtain ⟨w1,hw1⟩:∃w1,w1=(w.alloc (.cells #[.int .u8 (zk:Int),.bool zb,.int .i64 zn,.string zs,.slice za l.length zc,.slice ta f.length tc] 32)).alloc (.cells #[.int .u64 0,.string ⟨#[]⟩,.string ⟨#[]⟩,.slice none 0 0,.slice none 0 0] 26):=⟨_,rfl⟩
    have S1:Hid (Q1 w #[.int .u8 (zk:Int),.bool zb,.int .i64 zn,.string zs,.slice za l.length zc,.slice ta f.length tc] w1):=by
      rw [hw1];exact Q1.start w _
    clear hL hF hU
    go_enter Tryz.func59,Tryz.ntmps59
    go_upto_region 1 with fail
    rw [←hw1]
    clear hw1
    have p4:=block_cells S1.out.vbox 4 _ rfl
    have hres:=S1.out.res
    have fz:=row_freeV hres
    have y0:=block_cells hres 0 _ rfl
    have y1:=block_cells hres 1 _ rfl
    have y2:=block_cells hres 2 _ rfl
    have y3:=block_cells hres 3 _ rfl
    have y4:=block_cells hres 4 _ rfl
    have HF:Hid (_∧_):=S1.out.zero HS.out
    clear hres
    go_wp2
    all_goals rw [setsB5]
    all_goals exact bodyPost_ret (v:=.agg #[.int .u64 0,.string ⟨#[]⟩,.string ⟨#[]⟩,.slice none 0 0,.slice none 0 0]) (results_cell_row rfl _ _ (w.heap.size+1) 26 #[.int .u64 0,.string ⟨#[]⟩,.string ⟨#[]⟩,.slice none 0 0,.slice none 0 0] (0,0) _ rfl HF.out.1 Tryz.underlying26 rfl info_blk) rfl HF.out.2
end Go.Proofs.YtggnfejjcgbebaaGreatDoor
