/- Several texts, joined. -/
import Derived.Test.YtfhkaffakniioaaGreatDoorQ29M
set_option maxHeartbeats 8000000
set_option maxRecDepth 100000
namespace Go.Proofs.YtfhkaffakniioaaGreatDoor
open Go.RowKit
namespace Ps
attribute [local go_sem] zaR
def StV (W0 W:World) (v:Value) (x:St):Prop:=∃ia ic ea ec,v=.agg #[.int .u8 (x.kind:Int),.string (Lx.bs x.table),.string (Lx.bs x.field),.slice ia x.items.length ic,.slice ea x.expr.length ec,.bool x.history,.bool x.desc]∧Its W0 W W0.heap.size (.slice ia x.items.length ic) x.items∧RowE W0 W (.slice ea x.expr.length ec) x.expr
theorem put7 {W:World} {g:Nat} {t:TypeId} {z0 z1 z2 z3 z4 z5 z6:Value} (h:W.heap[g]?=some (.cells #[z0,z1,z2,z3,z4,z5,z6] t (0,0))) (a0 a1 a2 a3 a4 a5 a6:Value):(W.setCells g 0 [a0,a1,a2,a3,a4,a5,a6]).heap[g]?=some (.cells #[a0,a1,a2,a3,a4,a5,a6] t (0,0)):=by
 have h0:(W.setCell ⟨g,0,none⟩ a0).heap[g]?=some (.cells #[a0,z1,z2,z3,z4,z5,z6] t (0,0)):=heap_setCell_same _ g 0 _ t a0 h
 have h1:((W.setCell ⟨g,0,none⟩ a0).setCell ⟨g,1,none⟩ a1).heap[g]?=some (.cells #[a0,a1,z2,z3,z4,z5,z6] t (0,0)):=heap_setCell_same _ g 1 _ t a1 h0
 have h2:(((W.setCell ⟨g,0,none⟩ a0).setCell ⟨g,1,none⟩ a1).setCell ⟨g,2,none⟩ a2).heap[g]?=some (.cells #[a0,a1,a2,z3,z4,z5,z6] t (0,0)):=heap_setCell_same _ g 2 _ t a2 h1
 have h3:((((W.setCell ⟨g,0,none⟩ a0).setCell ⟨g,1,none⟩ a1).setCell ⟨g,2,none⟩ a2).setCell ⟨g,3,none⟩ a3).heap[g]?=some (.cells #[a0,a1,a2,a3,z4,z5,z6] t (0,0)):=heap_setCell_same _ g 3 _ t a3 h2
 have h4:(((((W.setCell ⟨g,0,none⟩ a0).setCell ⟨g,1,none⟩ a1).setCell ⟨g,2,none⟩ a2).setCell ⟨g,3,none⟩ a3).setCell ⟨g,4,none⟩ a4).heap[g]?=some (.cells #[a0,a1,a2,a3,a4,z5,z6] t (0,0)):=heap_setCell_same _ g 4 _ t a4 h3
 have h5:((((((W.setCell ⟨g,0,none⟩ a0).setCell ⟨g,1,none⟩ a1).setCell ⟨g,2,none⟩ a2).setCell ⟨g,3,none⟩ a3).setCell ⟨g,4,none⟩ a4).setCell ⟨g,5,none⟩ a5).heap[g]?=some (.cells #[a0,a1,a2,a3,a4,a5,z6] t (0,0)):=heap_setCell_same _ g 5 _ t a5 h4
 have h6:(((((((W.setCell ⟨g,0,none⟩ a0).setCell ⟨g,1,none⟩ a1).setCell ⟨g,2,none⟩ a2).setCell ⟨g,3,none⟩ a3).setCell ⟨g,4,none⟩ a4).setCell ⟨g,5,none⟩ a5).setCell ⟨g,6,none⟩ a6).heap[g]?=some (.cells #[a0,a1,a2,a3,a4,a5,a6] t (0,0)):=heap_setCell_same _ g 6 _ t a6 h5
 exact h6
theorem KT.sets {a:World} {g i:Nat} {D:Array Value} {t:TypeId} {us:List Value} (hg:a.heap[g]?=some (.cells D t (0,0))):KT [t] a (a.setCells g i us):=(zbS g us i a).mono fun k _ e=>⟨D,t,List.mem_singleton.2 rfl,by rw[e];exact hg⟩
section
variable {W0:World} {pb:Nat} {W:World} {s:S} {sb:Option Nat}
theorem update_c (h:PS W0 W pb s sb) (hO:HasO W0) (hL:HasL W0):Calls Tryz.prog 74 #[.pointer (some ⟨pb,0,none⟩)] W fun e W'=>∃v,e=.returned v∧Hid (PB W0 W pb (zdC s) W'∧StV W0 W' v (zcH s)):=by
 obtain⟨bx,hbx⟩:∃bx,bx=W.heap.size:=⟨_,rfl⟩
 obtain⟨rb,hrb⟩:∃rb,rb=W.heap.size+1:=⟨_,rfl⟩
 obtain⟨u1,hu1⟩:∃u1,u1=W.alloc (.cells #[.pointer (some ⟨pb,0,none⟩)] 99):=⟨_,rfl⟩
 obtain⟨u2,hu2⟩:∃u2,u2=u1.alloc (.cells #[.int .u8 0,.string ⟨#[]⟩,.string ⟨#[]⟩,.slice none 0 0,.slice none 0 0,.bool false,.bool false] 26):=⟨_,rfl⟩
 have bu1:Below W.heap.size W u1:=by rw[hu1];exact bnew _ _
 have bu2:Below u1.heap.size u1 u2:=by rw[hu2];exact bnew _ _
 have su1:u1.heap.size=W.heap.size+1:=by rw[hu1];simp
 have su2:u2.heap.size=W.heap.size+2:=by rw[hu2];simp[su1]
 have HB2:Hid (Below W.heap.size W u2∧u2.heap[bx]?=some (.cells #[.pointer (some ⟨pb,0,none⟩)] 99 (0,0))∧u2.heap[rb]?=some (.cells #[.int .u8 0,.string ⟨#[]⟩,.string ⟨#[]⟩,.slice none 0 0,.slice none 0 0,.bool false,.bool false] 26 (0,0))∧PS W0 u2 pb s sb∧bx=W.heap.size∧rb=W.heap.size+1∧u2.heap.size=W.heap.size+2):=by
  have hb:Below W.heap.size W u2:=bu1.trans (bu2.mono bu1.size)
  exact⟨hb,(bu2.block bx (by omega)).trans (by rw[hu1];exact new_at hbx),by rw[hu2];exact new_at (by omega),h.call hb,hbx,hrb,su2⟩
 have y0:u2.cell? ⟨bx,0,none⟩=some (.pointer (some ⟨pb,0,none⟩)):=by rw[cell_of_row _ _ _ _ _ _ HB2.out.2.1];rfl
 obtain⟨tb,htb⟩:∃tb,tb=nameT [] s:=⟨_,rfl⟩
 obtain⟨z,hz⟩:∃z,z=name [] s:=⟨_,rfl⟩
 have CN:Hid (Calls Tryz.prog 72 #[.pointer (some ⟨pb,0,none⟩),.slice none 0 0] u2 fun e W'=>e=.returned (.string (Lx.bs tb))∧Hid (PB W0 u2 pb z W')):=by
  rw[htb,hz]
  refine(name_pb (PB.refl HB2.out.2.2.2.1)).mono ?_
  rintro e W' ⟨rfl,q⟩
  exact⟨rfl,q.out.1⟩
 have HP0:Hid (W0.heap.size≤W.heap.size):=h.base_le
 have HO:Hid (HasO W0∧HasL W0):=⟨hO,hL⟩
 have HZ:Hid (name [] s=z∧nameT [] s=tb):=⟨hz.symm,htb.symm⟩
 clear bu1 bu2 su1 su2 htb hz h hO hL
 go_enter Tryz.func74,Tryz.ntmps74
 go_upto_region 1 with fail
 rw[←hu1,←hu2,←hrb,←hbx]
 clear hu1 hu2 hrb hbx
 go_upto_region 2 with (go_at_call 72;refine(CN.out).mono ?_;rintro en w3 ⟨rfl,G3⟩)
 obtain⟨w4,hw4⟩:∃w4,w4=w3.alloc (.cells #[.int .u8 4,.string (Lx.bs tb),.string ⟨#[]⟩,.slice none 0 0,.slice none 0 0,.bool false,.bool false] 26):=⟨_,rfl⟩
 obtain⟨xb,hxb⟩:∃xb,xb=w3.heap.size:=⟨_,rfl⟩
 have D4:Hid (PB W0 u2 pb z w4∧KT [67] u2 w4∧w4.heap[xb]?=some (.cells (updC tb (.slice none 0 0)) 26 (0,0))∧xb+1=w4.heap.size∧u2.heap.size≤xb):=by
  have hb:Below w3.heap.size w3 w4:=by rw[hw4];exact bnew _ _
  have hg:=G3.out.call hb
  have hg':=hg
  obtain⟨_,_,k⟩:=hg'
  exact⟨hg,KT.parser HB2.out.2.2.2.1 k,by rw[hw4];exact new_at hxb,by rw[hw4,hxb];simp,by rw[hxb];exact G3.out.size⟩
 rw[←hw4,←hxb]
 clear hw4 hxb G3 y0
 have y4:w4.cell? ⟨bx,0,none⟩=some (.pointer (some ⟨pb,0,none⟩)):=by rw[cell_of_row _ _ _ _ _ _ (D4.out.2.1.row HB2.out.2.1 (by decide))];rfl
 obtain⟨z2,hz2⟩:∃z2,z2=must [[83,69,84]] z:=⟨_,rfl⟩
 have CM:Hid (Calls Tryz.prog 70 #[.pointer (some ⟨pb,0,none⟩),.slice (some ⟨w4.heap.size,0,none⟩) 1 1] (w4.alloc (.cells #[.string ⟨#[83,69,84]⟩] 9)) fun e W''=>e=.returned (.string (Lx.bs (mustT [[83,69,84]] z)))∧Hid (PB W0 w4 pb z2 W'')):=by
  obtain⟨sb4,k4,_⟩:=D4.out.1
  rw[hz2]
  exact must_pb (PB.refl k4) (ts:=[[83,69,84]]) rfl rfl (by decide)
 have HZ2:Hid (z2=must [[83,69,84]] z):=hz2
 clear hz2
 go_upto_region 3 with (go_at_call 70;refine(CM.out).mono ?_;rintro en w5 ⟨rfl,G5⟩)
 clear CM y4
 go_upto_region 4 with fail
 obtain⟨w6,hw6⟩:∃w6,w6=w5.alloc (.cells #[.slice none 0 0] 50):=⟨_,rfl⟩
 obtain⟨nb,hnb⟩:∃nb,nb=w5.heap.size:=⟨_,rfl⟩
 have D6:Hid (PB W0 w4 pb z2 w6∧PB W0 u2 pb z2 w6∧KT [67] u2 w6∧KT [67] w4 w6∧PV W0 pb xb nb bx xb (updC tb) 26 0 [] w6∧xb≤w6.heap.size):=by
  have hb:Below w5.heap.size w5 w6:=by rw[hw6];exact bnew _ _
  have g6:=G5.out.call hb
  have g6':=D4.out.1.trans g6
  have kk:KT [67] u2 w6:=by obtain⟨_,_,k⟩:=g6';exact KT.parser HB2.out.2.2.2.1 k
  have k4:KT [67] w4 w6:=by obtain⟨_,p4,_⟩:=D4.out.1;obtain⟨_,_,k⟩:=g6;exact KT.parser p4 k
  have hs:xb≤w5.heap.size:=by have:=D4.out.2.2.2.1;have:=G5.out.size;omega
  exact⟨g6,g6',kk,k4,⟨rfl,fun _ q=>(by cases q),⟨.slice none 0 0,by rw[hw6];exact new_at hnb,⟨rfl,.inl ⟨rfl,rfl⟩⟩⟩,kk.row HB2.out.2.1 (by decide),⟨_,k4.row D4.out.2.2.1 (by decide),Its.nil _ _ _⟩,by rw[hnb];exact hs,Nat.le_refl _⟩,by have:=hb.size;omega⟩
 rw[←hw6,←hnb]
 clear hw6 hnb G5
 have y6:w6.cell? ⟨bx,0,none⟩=some (.pointer (some ⟨pb,0,none⟩)):=by rw[cell_of_row _ _ _ _ _ _ D6.out.2.2.2.2.1.bo];rfl
 obtain⟨R,hR⟩:∃R,R=parts updP z2 []:=⟨_,rfl⟩
 have HR:Hid (zcI s=R):=by show _=_;rw[hR,zcI,HZ.out.1,HZ2.out]
 have CT:Hid (Calls Tryz.prog 107 #[.pointer (some ⟨pb,0,none⟩),.func (.func 108) #[] #[.pointer (some ⟨bx,0,none⟩),.pointer (some ⟨nb,0,none⟩),.pointer (some ⟨xb,0,none⟩)]] w6 fun en W'=>en=.returned (.int .i64 (R.2.2:Int))∧Hid (PBX W0 pb xb w6 R.1 W'∧PV W0 pb xb nb bx xb (updC tb) 26 R.2.2 R.2.1 W')):=by
  obtain⟨sb6,k6,_⟩:=D6.out.1
  rw[hR]
  refine(parts_update less_updP (updA_c (by have:=HP0.out;have:=D4.out.2.2.2.2;have:=HB2.out.2.2.2.2;omega) HO.out.1 HO.out.2) (PV.kept (by decide)) k6 D6.out.2.2.2.2.1 D6.out.2.2.2.2.2 (by have:=k6.lim;omega)).mono ?_
  rintro en W' ⟨rfl,q1,q2,q3⟩
  exact⟨rfl,q1,q2⟩
 clear hR
 go_upto_region 5 with (go_at_call 107;refine(CT.out).mono ?_;rintro en w7 ⟨rfl,G7⟩)
 clear CT y6
 have y7:w7.cell? ⟨bx,0,none⟩=some (.pointer (some ⟨pb,0,none⟩)):=by rw[cell_of_row _ _ _ _ _ _ G7.out.2.bo];rfl
 have CW:Hid (Calls Tryz.prog 75 #[.pointer (some ⟨pb,0,none⟩)] w7 fun e W'=>∃a c,e=.returned (.slice a (whereE R.1).length c)∧Hid (PB W0 w7 pb (whereS R.1) W'∧RowE W0 W' (.slice a (whereE R.1).length c) (whereE R.1))):=by
  obtain⟨sb7,k7,_⟩:=G7.out.1
  refine(where_pb (PB.refl k7) HO.out.1 HO.out.2).mono ?_
  rintro e W' ⟨a,c,rfl,q⟩
  exact⟨a,c,rfl,q.out.1,q.out.2.2⟩
 obtain⟨en,hen⟩:∃en,en=(whereE R.1).length:=⟨_,rfl⟩
 have HEN:Hid (en=(whereE R.1).length):=hen
 rw[←hen] at CW
 clear hen
 go_wp2_with fail
 refine(CW.out).mono ?_
 rintro e w8 ⟨ea,ec,rfl,G8⟩
 obtain⟨iv,x7,its7⟩:∃iv,w7.heap[xb]?=some (.cells (updC tb iv) 26 (0,0))∧Its W0 w7 xb iv R.2.1:=G7.out.2.it
 obtain⟨ia,ic,rfl⟩:=its7.form
 have K8:Hid (KT [67] w7 w8∧Its W0 w7 xb (.slice ia R.2.1.length ic) R.2.1):=(by obtain⟨_,k7,_⟩:=G7.out.1;obtain⟨_,_,q⟩:=G8.out.1;exact⟨KT.parser k7 q,its7⟩)
 have x8:w8.heap[xb]?=some (.cells (updC tb (.slice ia R.2.1.length ic)) 26 (0,0)):=K8.out.1.row x7 (by decide)
 have X8:Hid (w8.heap[xb]?=some (.cells (updC tb (.slice ia R.2.1.length ic)) 26 (0,0))):=x8
 have R6:w6.heap[rb]?=some (.cells #[.int .u8 0,.string ⟨#[]⟩,.string ⟨#[]⟩,.slice none 0 0,.slice none 0 0,.bool false,.bool false] 26 (0,0)):=D6.out.2.2.1.row HB2.out.2.2.1 (by decide)
 have R7:w7.heap[rb]?=some (.cells #[.int .u8 0,.string ⟨#[]⟩,.string ⟨#[]⟩,.slice none 0 0,.slice none 0 0,.bool false,.bool false] 26 (0,0)):=(by
  obtain⟨_,_,q⟩:=G7.out.1
  refine(q.block rb (row_lt R6) fun z=>?_).trans R6
  rcases z with z | z
  ·obtain⟨_,k6,_⟩:=D6.out.1
   obtain⟨D',hD⟩:=k6.pbty
   rw[z,hD] at R6
   cases R6
  ·have:=D4.out.2.2.2.2;have:=HB2.out.2.2.2.2;omega)
 have R8:Hid (w8.heap[rb]?=some (.cells #[.int .u8 0,.string ⟨#[]⟩,.string ⟨#[]⟩,.slice none 0 0,.slice none 0 0,.bool false,.bool false] 26 (0,0))∧rb<xb∧W.heap.size≤rb):=(⟨K8.out.1.row R7 (by decide),(by have:=D4.out.2.2.2.2;have:=HB2.out.2.2.2.2;omega),(by have:=HB2.out.2.2.2.2;omega)⟩)
 have c0:w8.cell? ⟨xb,0,none⟩=some (.int .u8 4):=(by rw[cell_of_row _ _ _ _ _ _ x8];rfl)
 have c1:w8.cell? ⟨xb,1,none⟩=some (.string (Lx.bs tb)):=(by rw[cell_of_row _ _ _ _ _ _ x8];rfl)
 have c2:w8.cell? ⟨xb,2,none⟩=some (.string ⟨#[]⟩):=(by rw[cell_of_row _ _ _ _ _ _ x8];rfl)
 have c3:w8.cell? ⟨xb,3,none⟩=some (.slice ia R.2.1.length ic):=(by rw[cell_of_row _ _ _ _ _ _ x8];rfl)
 have c4:w8.cell? ⟨xb,4,none⟩=some (.slice none 0 0):=(by rw[cell_of_row _ _ _ _ _ _ x8];rfl)
 have c5:w8.cell? ⟨xb,5,none⟩=some (.bool false):=(by rw[cell_of_row _ _ _ _ _ _ x8];rfl)
 have c6:w8.cell? ⟨xb,6,none⟩=some (.bool false):=(by rw[cell_of_row _ _ _ _ _ _ x8];rfl)
 have xf:∀r,w8.frozen? ⟨xb,r,none⟩=false:=(fun r=>by simp[World.frozen?,x8])
 have rc:∀r v,(#[.int .u8 0,.string ⟨#[]⟩,.string ⟨#[]⟩,.slice none 0 0,.slice none 0 0,.bool false,.bool false]:Array Value)[r]?=some v→w8.cell? ⟨rb,r,none⟩=some v:=(fun r v hv=>by rw[cell_of_row _ _ _ _ _ _ R8.out.1];exact hv)
 have d0:=rc 0 _ rfl
 have d1:=rc 1 _ rfl
 have d2:=rc 2 _ rfl
 have d3:=rc 3 _ rfl
 have d4:=rc 4 _ rfl
 have d5:=rc 5 _ rfl
 have d6:=rc 6 _ rfl
 have rf:∀r,w8.frozen? ⟨rb,r,none⟩=false:=(fun r=>by simp[World.frozen?,R8.out.1])
 have n1:¬rb=xb:=(by have:=R8.out.2.1;omega)
 have n2:¬xb=rb:=(by have:=R8.out.2.1;omega)
 have l1:=row_lt R8.out.1
 have l2:=row_lt X8.out
 clear x7 x8 its7 R6 R7 rc y7 CW
 have FIN:Hid ((((w8.setCell ⟨xb,4,none⟩ (.slice ea en ec)).setCells rb 0 [.int .u8 4,.string (Lx.bs tb),.string ⟨#[]⟩,.slice ia R.2.1.length ic,.slice ea en ec,.bool false,.bool false]).heap[rb]?=some (.cells #[.int .u8 4,.string (Lx.bs tb),.string ⟨#[]⟩,.slice ia R.2.1.length ic,.slice ea en ec,.bool false,.bool false] 26 (0,0)))∧PB W0 W pb (zdC s) ((w8.setCell ⟨xb,4,none⟩ (.slice ea en ec)).setCells rb 0 [.int .u8 4,.string (Lx.bs tb),.string ⟨#[]⟩,.slice ia R.2.1.length ic,.slice ea en ec,.bool false,.bool false])∧StV W0 ((w8.setCell ⟨xb,4,none⟩ (.slice ea en ec)).setCells rb 0 [.int .u8 4,.string (Lx.bs tb),.string ⟨#[]⟩,.slice ia R.2.1.length ic,.slice ea en ec,.bool false,.bool false]) (.agg #[.int .u8 4,.string (Lx.bs tb),.string ⟨#[]⟩,.slice ia R.2.1.length ic,.slice ea en ec,.bool false,.bool false]) (zcH s)):=by
  obtain⟨us,hus⟩:∃us:List Value,us=[.int .u8 4,.string (Lx.bs tb),.string ⟨#[]⟩,.slice ia R.2.1.length ic,.slice ea en ec,.bool false,.bool false]:=⟨_,rfl⟩
  have k9:KT [26] w8 (w8.setCell ⟨xb,4,none⟩ (.slice ea en ec)):=KT.set X8.out
  have rb9:(w8.setCell ⟨xb,4,none⟩ (.slice ea en ec)).heap[rb]?=some (.cells #[.int .u8 0,.string ⟨#[]⟩,.string ⟨#[]⟩,.slice none 0 0,.slice none 0 0,.bool false,.bool false] 26 (0,0)):=(zbG (by have:=R8.out.2.1;omega)).trans R8.out.1
  have k10:KT [26] w8 ((w8.setCell ⟨xb,4,none⟩ (.slice ea en ec)).setCells rb 0 us):=k9.trans (KT.sets rb9)
  have x9:Kp (fun g=>g=pb∨W.heap.size≤g) w8 (w8.setCell ⟨xb,4,none⟩ (.slice ea en ec)):=(kp_set _ _ _ _).mono fun g _ e=>.inr (by have:=R8.out.2;omega)
  have x10:Kp (fun g=>g=pb∨W.heap.size≤g) (w8.setCell ⟨xb,4,none⟩ (.slice ea en ec)) ((w8.setCell ⟨xb,4,none⟩ (.slice ea en ec)).setCells rb 0 us):=(zbS _ _ _ _).mono fun g _ e=>.inr (by have:=R8.out.2;omega)
  obtain⟨sb8,p8,q8⟩:=G8.out.1
  obtain⟨_,_,q7⟩:=G7.out.1
  obtain⟨_,_,q6⟩:=D6.out.2.1
  have kx:Kp (fun g=>g=pb∨W.heap.size≤g) W ((w8.setCell ⟨xb,4,none⟩ (.slice ea en ec)).setCells rb 0 us):=zaN (zaN (zaN (zaN (zaN (kx_below HB2.out.1) (kx_of q6)) (q7.mono fun g _ z=>z.imp id fun z=>by have:=D4.out.2.2.2.2;have:=HB2.out.2.2.2.2;omega)) (kx_of q8)) x9) x10
  have e1:zdC s=whereS R.1:=by rw[zdC,HR.out]
  have e2:zcH s=⟨4,tb,[],R.2.1,whereE R.1,false,false⟩:=by rw[zcH,HR.out,HZ.out.2]
  have e3:=HEN.out
  rw[←hus]
  refine⟨by rw[hus];exact put7 rb9 _ _ _ _ _ _ _,?_,?_⟩
  ·rw[e1]
   exact⟨sb8,p8.kt (X:=W.heap.size) k10 (zaN x9 x10) HP0.out (by decide) (by decide),kx.os,kx.tape,kx.output,kx.size,fun g hg q=>kx.block g hg fun z=>z.elim q (by omega)⟩
  ·rw[e2]
   subst e3
   exact⟨ia,ic,ea,ec,by rw[hus];rfl,((K8.out.2.kt K8.out.1 (by decide) (by decide)).kt k10 (by decide) (by decide)).to (by have:=D4.out.2.2.2.2;have:=HB2.out.1.size;have:=HP0.out;omega),G8.out.2.kt k10 (by decide)⟩
 go_wp2
 exact bodyPost_ret (v:=.agg #[.int .u8 4,.string (Lx.bs tb),.string ⟨#[]⟩,.slice ia R.2.1.length ic,.slice ea en ec,.bool false,.bool false]) (results_cell_row rfl _ _ rb 26 #[.int .u8 4,.string (Lx.bs tb),.string ⟨#[]⟩,.slice ia R.2.1.length ic,.slice ea en ec,.bool false,.bool false] (0,0) _ rfl FIN.out.1 Tryz.underlying26 rfl (by kernel_rfl)) rfl ⟨_,rfl,FIN.out.2⟩
end
end Ps
end Go.Proofs.YtfhkaffakniioaaGreatDoor
