/- Several texts, joined. -/
import Derived.Test.YtfhkaffakniioaaGreatDoorPrIM
set_option maxHeartbeats 16000000
set_option maxRecDepth 100000
namespace Go.Proofs.YtfhkaffakniioaaGreatDoor
open Go.RowKit
namespace Ps
attribute [local go_sem] zaR
section
variable {W0:World} {pb:Nat} {W:World} {s:S} {sb:Option Nat}
theorem selected_c (h:PS W0 W pb s sb) (hO:HasO W0) (hL:HasL W0):Calls Tryz.prog 76 #[.pointer (some ⟨pb,0,none⟩)] W fun e W'=>∃v,e=.returned v∧Hid (PB W0 W pb (zaP s) W'∧StV W0 W' v (zaO s)):=by
 obtain⟨rb,hrb⟩:∃rb,rb=W.heap.size:=⟨_,rfl⟩
 obtain⟨w1,hw1⟩:∃w1,w1=W.alloc (.cells #[.int .u8 0,.string ⟨#[]⟩,.string ⟨#[]⟩,.slice none 0 0,.slice none 0 0,.bool false,.bool false] 26):=⟨_,rfl⟩
 obtain⟨s1,hs1⟩:∃s1,s1=s:=⟨_,rfl⟩
 have R1:Hid (RB W0 W pb rb s1 w1):=by rw[hs1];exact RB.start h hrb hw1
 have E1:=hidp hs1
 have HO:Hid (HasO W0∧HasL W0):=⟨hO,hL⟩
 clear h hs1 hO hL
 go_enter Tryz.func76,Tryz.ntmps76
 go_upto_region 1 with fail
 rw[←hw1,←hrb]
 clear hw1 hrb
 go_upto_region 2 with fail
 obtain⟨w2,hw2⟩:∃u,u=w1.alloc (.cells #[.int .u8 6,.string ⟨#[]⟩,.string ⟨#[]⟩,.slice none 0 0,.slice none 0 0,.bool false,.bool false] 26):=⟨_,rfl⟩
 obtain⟨xb,hxb⟩:∃xb,xb=w1.heap.size:=⟨_,rfl⟩
 obtain⟨s2,hs2⟩:∃z,z=s1:=⟨_,rfl⟩
 have R2:Hid (SL W0 W pb rb xb s2 ⟨6,[],[],[],[],false,false⟩ (.slice none 0 0) (.slice none 0 0) w2):=by rw[hs2];exact SL.start R1.out hxb hw2 rfl (Its.nil _ _ _) (RowE.nil _ _)
 rw[←hw2,←hxb]
 clear hw2 hxb
 have E2:=hidp hs2
 clear hs2
 cases hb:is [[42]] s2
 ·have HBA:=hidp hb
  have C2:=hidp (R2.out.toRB.may (ts:=[[42]]) (C:=#[.string ⟨#[42]⟩]) (n:=1) rfl rfl (by decide))
  obtain⟨s3,hs3⟩:∃z,z=s2:=⟨_,rfl⟩
  rw[hb,show may [[42]] s2=s3 by rw[may,hb,hs3];rfl] at C2
  have HB2:=hidp hb
  clear hb
  have E3:=hidp hs3
  clear hs3
  go_wp2_with fail
  refine(C2.out).mono ?_
  rintro e w3 ⟨rfl,G3⟩
  have R3:=hidp (R2.out.step G3.out)
  clear C2
  obtain⟨s4,hs4⟩:∃z,z=(parts selP s3 []).1:=⟨_,rfl⟩
  obtain⟨il,hil⟩:∃z,z=(parts selP s3 []).2.1:=⟨_,rfl⟩
  have C3:=hidp (R3.out.toRB.items HO.out.1 HO.out.2)
  rw[←hil,←hs4] at C3
  have Eil:=hidp hil
  clear hil
  have E4:=hidp hs4
  clear hs4
  go_wp2_with fail
  refine(C3.out).mono ?_
  rintro e w4 ⟨ia,ic,rfl,X4⟩
  have G4:=hidp X4.out.1
  have R4:=hidp (R3.out.step G4.out)
  clear C3
  obtain⟨xc,xf,xl⟩:=R4.out.cells
  have c0:w4.cell? ⟨xb,0,none⟩=some (.int .u8 6):=xc 0 _ rfl
  have c1:w4.cell? ⟨xb,1,none⟩=some (.string ⟨#[]⟩):=xc 1 _ rfl
  have c2:w4.cell? ⟨xb,2,none⟩=some (.string ⟨#[]⟩):=xc 2 _ rfl
  have c3:w4.cell? ⟨xb,3,none⟩=some (.slice none 0 0):=xc 3 _ rfl
  have c4:w4.cell? ⟨xb,4,none⟩=some (.slice none 0 0):=xc 4 _ rfl
  have c5:w4.cell? ⟨xb,5,none⟩=some (.bool false):=xc 5 _ rfl
  have c6:w4.cell? ⟨xb,6,none⟩=some (.bool false):=xc 6 _ rfl
  clear xc
  go_upto_region 4 with fail
  obtain⟨w5,hw5⟩:∃z,z=w4.setCell ⟨xb,3,none⟩ (.slice ia il.length ic):=⟨_,rfl⟩
  have R5:Hid (SL W0 W pb rb xb s4 ⟨6,[],[],il,[],false,false⟩ (.slice ia il.length ic) (.slice none 0 0) w5):=by rw[hw5];exact R4.out.set rfl X4.out.2 R4.out.exp
  rw[←hw5]
  clear hw5 c0 c1 c2 c3 c4 c5 c6 xf xl
  obtain⟨s5,hs5⟩:∃z,z=s4:=⟨_,rfl⟩
  rw[←hs5] at R5
  have E5:=hidp hs5
  clear hs5
  have EA:Hid (itemsS s2=s5∧itemsX s2=il):=by
   show _∧_
   have hb:=HBA.out
   exact⟨by rw[itemsS,hb,E5.out,E4.out,E3.out];rfl,by rw[itemsX,hb,Eil.out,E3.out];rfl⟩
  obtain⟨s6,hs6⟩:∃z,z=must [[70,82,79,77]] s5:=⟨_,rfl⟩
  have C5:=hidp (R5.out.toRB.must (ts:=[[70,82,79,77]]) (C:=#[.string ⟨#[70,82,79,77]⟩]) (n:=1) rfl rfl (by decide))
  rw[←hs6] at C5
  have E6:=hidp hs6
  clear hs6
  go_wp2_with fail
  refine(C5.out).mono ?_
  rintro e w6 ⟨rfl,G6⟩
  have R6:=hidp (R5.out.step G6.out)
  clear C5
  cases hb:is [[72,73,83,84,79,82,89]] s6
  ·have HBH:=hidp hb
   have C6:=hidp (R6.out.toRB.may (ts:=[[72,73,83,84,79,82,89]]) (C:=#[.string ⟨#[72,73,83,84,79,82,89]⟩]) (n:=1) rfl rfl (by decide))
   obtain⟨s7,hs7⟩:∃z,z=s6:=⟨_,rfl⟩
   rw[hb,show may [[72,73,83,84,79,82,89]] s6=s7 by rw[may,hb,hs7];rfl] at C6
   have HB6:=hidp hb
   clear hb
   have E7:=hidp hs7
   clear hs7
   go_wp2_with fail
   refine(C6.out).mono ?_
   rintro e w7 ⟨rfl,G7⟩
   have R7:=hidp (R6.out.step G7.out)
   clear C6
   obtain⟨xc,xf,xl⟩:=R7.out.cells
   have c0:w7.cell? ⟨xb,0,none⟩=some (.int .u8 6):=xc 0 _ rfl
   have c1:w7.cell? ⟨xb,1,none⟩=some (.string ⟨#[]⟩):=xc 1 _ rfl
   have c2:w7.cell? ⟨xb,2,none⟩=some (.string ⟨#[]⟩):=xc 2 _ rfl
   have c3:w7.cell? ⟨xb,3,none⟩=some (.slice ia il.length ic):=xc 3 _ rfl
   have c4:w7.cell? ⟨xb,4,none⟩=some (.slice none 0 0):=xc 4 _ rfl
   have c5:w7.cell? ⟨xb,5,none⟩=some (.bool false):=xc 5 _ rfl
   have c6:w7.cell? ⟨xb,6,none⟩=some (.bool false):=xc 6 _ rfl
   clear xc
   go_upto_region 6 with fail
   obtain⟨w8,hw8⟩:∃z,z=w7.setCell ⟨xb,5,none⟩ (.bool false):=⟨_,rfl⟩
   have R8:Hid (SL W0 W pb rb xb s7 ⟨6,[],[],il,[],false,false⟩ (.slice ia il.length ic) (.slice none 0 0) w8):=by rw[hw8];exact R7.out.set rfl R7.out.its R7.out.exp
   rw[←hw8]
   clear hw8 c0 c1 c2 c3 c4 c5 c6 xf xl
   obtain⟨s8,hs8⟩:∃z,z=s7:=⟨_,rfl⟩
   rw[←hs8] at R8
   have E8:=hidp hs8
   clear hs8
   obtain⟨xc,xf,xl⟩:=R8.out.cells
   have c0:w8.cell? ⟨xb,0,none⟩=some (.int .u8 6):=xc 0 _ rfl
   have c1:w8.cell? ⟨xb,1,none⟩=some (.string ⟨#[]⟩):=xc 1 _ rfl
   have c2:w8.cell? ⟨xb,2,none⟩=some (.string ⟨#[]⟩):=xc 2 _ rfl
   have c3:w8.cell? ⟨xb,3,none⟩=some (.slice ia il.length ic):=xc 3 _ rfl
   have c4:w8.cell? ⟨xb,4,none⟩=some (.slice none 0 0):=xc 4 _ rfl
   have c5:w8.cell? ⟨xb,5,none⟩=some (.bool false):=xc 5 _ rfl
   have c6:w8.cell? ⟨xb,6,none⟩=some (.bool false):=xc 6 _ rfl
   clear xc
   have EH:Hid (histB s6=false∧histS s6=s8):=by
    show _∧_
    have hb:=HBH.out
    exact⟨hb,by rw[histS,histB,hb,E8.out,E7.out];rfl⟩
   obtain⟨s9,hs9⟩:∃z,z=name [] s8:=⟨_,rfl⟩
   obtain⟨nm,hnm⟩:∃z,z=nameT [] s8:=⟨_,rfl⟩
   have C8:=hidp (R8.out.toRB.name)
   rw[←hs9,←hnm] at C8
   have Enm:=hidp hnm
   clear hnm
   have E9:=hidp hs9
   clear hs9
   go_wp2_with fail
   refine(C8.out).mono ?_
   rintro e w9 ⟨rfl,G9⟩
   have R9:=hidp (R8.out.step G9.out)
   clear C8
   clear c0 c1 c2 c3 c4 c5 c6 xf xl
   obtain⟨xc,xf,xl⟩:=R9.out.cells
   have c0:w9.cell? ⟨xb,0,none⟩=some (.int .u8 6):=xc 0 _ rfl
   have c1:w9.cell? ⟨xb,1,none⟩=some (.string ⟨#[]⟩):=xc 1 _ rfl
   have c2:w9.cell? ⟨xb,2,none⟩=some (.string ⟨#[]⟩):=xc 2 _ rfl
   have c3:w9.cell? ⟨xb,3,none⟩=some (.slice ia il.length ic):=xc 3 _ rfl
   have c4:w9.cell? ⟨xb,4,none⟩=some (.slice none 0 0):=xc 4 _ rfl
   have c5:w9.cell? ⟨xb,5,none⟩=some (.bool false):=xc 5 _ rfl
   have c6:w9.cell? ⟨xb,6,none⟩=some (.bool false):=xc 6 _ rfl
   clear xc
   go_upto_region 9 with fail
   obtain⟨w10,hw10⟩:∃z,z=w9.setCell ⟨xb,1,none⟩ (.string (Lx.bs nm)):=⟨_,rfl⟩
   have R10:Hid (SL W0 W pb rb xb s9 ⟨6,nm,[],il,[],false,false⟩ (.slice ia il.length ic) (.slice none 0 0) w10):=by rw[hw10];exact R9.out.set rfl R9.out.its R9.out.exp
   rw[←hw10]
   clear hw10 c0 c1 c2 c3 c4 c5 c6 xf xl
   obtain⟨s10,hs10⟩:∃z,z=s9:=⟨_,rfl⟩
   rw[←hs10] at R10
   have E10:=hidp hs10
   clear hs10
   obtain⟨xc,xf,xl⟩:=R10.out.cells
   have c0:w10.cell? ⟨xb,0,none⟩=some (.int .u8 6):=xc 0 _ rfl
   have c1:w10.cell? ⟨xb,1,none⟩=some (.string (Lx.bs nm)):=xc 1 _ rfl
   have c2:w10.cell? ⟨xb,2,none⟩=some (.string ⟨#[]⟩):=xc 2 _ rfl
   have c3:w10.cell? ⟨xb,3,none⟩=some (.slice ia il.length ic):=xc 3 _ rfl
   have c4:w10.cell? ⟨xb,4,none⟩=some (.slice none 0 0):=xc 4 _ rfl
   have c5:w10.cell? ⟨xb,5,none⟩=some (.bool false):=xc 5 _ rfl
   have c6:w10.cell? ⟨xb,6,none⟩=some (.bool false):=xc 6 _ rfl
   clear xc
   have EF:Hid (fromS s6=s10):=by
    show _=_
    rw[fromS,EH.out.1,EH.out.2,E10.out,E9.out]
    rfl
   obtain⟨s11,hs11⟩:∃z,z=whereS s10:=⟨_,rfl⟩
   obtain⟨wrl,hwr⟩:∃z,z=whereE s10:=⟨_,rfl⟩
   have C10:=hidp (R10.out.toRB.wher HO.out.1 HO.out.2)
   rw[←hwr,←hs11] at C10
   have Ewr:=hidp hwr
   clear hwr
   have E11:=hidp hs11
   clear hs11
   go_wp2_with fail
   refine(C10.out).mono ?_
   rintro e w11 ⟨wra,wrc,rfl,X11⟩
   have G11:=hidp X11.out.1
   have R11:=hidp (R10.out.step G11.out)
   clear C10
   have EW:Hid (whereS s10=s11∧whereE s10=wrl):=⟨E11.out.symm,Ewr.out.symm⟩
   clear c0 c1 c2 c3 c4 c5 c6 xf xl
   obtain⟨xc,xf,xl⟩:=R11.out.cells
   have c0:w11.cell? ⟨xb,0,none⟩=some (.int .u8 6):=xc 0 _ rfl
   have c1:w11.cell? ⟨xb,1,none⟩=some (.string (Lx.bs nm)):=xc 1 _ rfl
   have c2:w11.cell? ⟨xb,2,none⟩=some (.string ⟨#[]⟩):=xc 2 _ rfl
   have c3:w11.cell? ⟨xb,3,none⟩=some (.slice ia il.length ic):=xc 3 _ rfl
   have c4:w11.cell? ⟨xb,4,none⟩=some (.slice none 0 0):=xc 4 _ rfl
   have c5:w11.cell? ⟨xb,5,none⟩=some (.bool false):=xc 5 _ rfl
   have c6:w11.cell? ⟨xb,6,none⟩=some (.bool false):=xc 6 _ rfl
   clear xc
   go_upto_region 12 with fail
   obtain⟨w12,hw12⟩:∃z,z=w11.setCell ⟨xb,4,none⟩ (.slice wra wrl.length wrc):=⟨_,rfl⟩
   have R12:Hid (SL W0 W pb rb xb s11 ⟨6,nm,[],il,wrl,false,false⟩ (.slice ia il.length ic) (.slice wra wrl.length wrc) w12):=by rw[hw12];exact R11.out.set rfl R11.out.its X11.out.2
   rw[←hw12]
   clear hw12 c0 c1 c2 c3 c4 c5 c6 xf xl
   obtain⟨s12,hs12⟩:∃z,z=s11:=⟨_,rfl⟩
   rw[←hs12] at R12
   have E12:=hidp hs12
   clear hs12
   have EW2:Hid (whereS s10=s12∧whereE s10=wrl):=⟨EW.out.1.trans E12.out.symm,EW.out.2⟩
   clear EW
   have EW:=EW2
   clear EW2
   cases hb:is [[79,82,68,69,82]] s12
   ·have HBO:=hidp hb
    have C12:=hidp (R12.out.toRB.may (ts:=[[79,82,68,69,82]]) (C:=#[.string ⟨#[79,82,68,69,82]⟩]) (n:=1) rfl rfl (by decide))
    obtain⟨s13,hs13⟩:∃z,z=s12:=⟨_,rfl⟩
    rw[hb,show may [[79,82,68,69,82]] s12=s13 by rw[may,hb,hs13];rfl] at C12
    have HB12:=hidp hb
    clear hb
    have E13:=hidp hs13
    clear hs13
    go_wp2_with fail
    refine(C12.out).mono ?_
    rintro e w13 ⟨rfl,G13⟩
    have R13:=hidp (R12.out.step G13.out)
    clear C12
    have EO:Hid (orderB s12=false∧orderS s12=s13):=by
     show _∧_
     have hb:=HBO.out
     exact⟨hb,by rw[orderS,orderB,hb,E13.out];rfl⟩
    obtain⟨xc,xf,xl⟩:=R13.out.cells
    have c0:w13.cell? ⟨xb,0,none⟩=some (.int .u8 6):=xc 0 _ rfl
    have c1:w13.cell? ⟨xb,1,none⟩=some (.string (Lx.bs nm)):=xc 1 _ rfl
    have c2:w13.cell? ⟨xb,2,none⟩=some (.string ⟨#[]⟩):=xc 2 _ rfl
    have c3:w13.cell? ⟨xb,3,none⟩=some (.slice ia il.length ic):=xc 3 _ rfl
    have c4:w13.cell? ⟨xb,4,none⟩=some (.slice wra wrl.length wrc):=xc 4 _ rfl
    have c5:w13.cell? ⟨xb,5,none⟩=some (.bool false):=xc 5 _ rfl
    have c6:w13.cell? ⟨xb,6,none⟩=some (.bool false):=xc 6 _ rfl
    clear xc
    obtain⟨rc,rf,rl⟩:=R13.out.toRB.cells
    have d0:=rc 0 _ rfl
    have d1:=rc 1 _ rfl
    have d2:=rc 2 _ rfl
    have d3:=rc 3 _ rfl
    have d4:=rc 4 _ rfl
    have d5:=rc 5 _ rfl
    have d6:=rc 6 _ rfl
    clear rc
    have n1:¬rb=xb:=by have:=R13.out.lt;omega
    have n2:¬xb=rb:=by have:=R13.out.lt;omega
    have HQ:Hid (zaP s=s13∧zaO s=⟨6,nm,[],il,wrl,false,false⟩):=by
     show _∧_
     have ea:zaS s=s6:=by rw[zaS,←E1.out,←E2.out,EA.out.1,E6.out]
     have ex:itemsX s=il:=by rw[←E1.out,←E2.out];exact EA.out.2
     have eh:histB s6=false:=EH.out.1
     have eh2:histS s6=s8:=EH.out.2
     have ef:fromS s6=s10:=EF.out
     have ew:whereS s10=s12∧whereE s10=wrl:=EW.out
     refine⟨?_,?_⟩
     ·rw[zaP,ea,ef,ew.1,EO.out.2]
     ·rw[zaO,ea,ef,ew.1,ew.2,ex,eh,eh2,EO.out.1,←Enm.out]
      rfl
    have FIN:Hid ((w13.setCells rb 0 [.int .u8 6,.string (Lx.bs nm),.string ⟨#[]⟩,.slice ia il.length ic,.slice wra wrl.length wrc,.bool false,.bool false]).heap[rb]?=some (.cells #[.int .u8 6,.string (Lx.bs nm),.string ⟨#[]⟩,.slice ia il.length ic,.slice wra wrl.length wrc,.bool false,.bool false] 26 (0,0))∧PB W0 W pb (zaP s) (w13.setCells rb 0 [.int .u8 6,.string (Lx.bs nm),.string ⟨#[]⟩,.slice ia il.length ic,.slice wra wrl.length wrc,.bool false,.bool false])∧StV W0 (w13.setCells rb 0 [.int .u8 6,.string (Lx.bs nm),.string ⟨#[]⟩,.slice ia il.length ic,.slice wra wrl.length wrc,.bool false,.bool false]) (.agg #[.int .u8 6,.string (Lx.bs nm),.string ⟨#[]⟩,.slice ia il.length ic,.slice wra wrl.length wrc,.bool false,.bool false]) (zaO s)):=by
     rw[HQ.out.1,HQ.out.2]
     exact R13.out.fin
    go_wp2
    exact bodyPost_ret (v:=.agg #[.int .u8 6,.string (Lx.bs nm),.string ⟨#[]⟩,.slice ia il.length ic,.slice wra wrl.length wrc,.bool false,.bool false]) (results_cell_row rfl _ _ rb 26 #[.int .u8 6,.string (Lx.bs nm),.string ⟨#[]⟩,.slice ia il.length ic,.slice wra wrl.length wrc,.bool false,.bool false] (0,0) _ rfl FIN.out.1 Tryz.underlying26 rfl (by kernel_rfl)) rfl ⟨_,rfl,FIN.out.2⟩
   ·have HBO:=hidp hb
    have C12:=hidp (R12.out.toRB.may (ts:=[[79,82,68,69,82]]) (C:=#[.string ⟨#[79,82,68,69,82]⟩]) (n:=1) rfl rfl (by decide))
    obtain⟨s13,hs13⟩:∃z,z=next s12:=⟨_,rfl⟩
    rw[hb,show may [[79,82,68,69,82]] s12=s13 by rw[may,if_pos hb,hs13]] at C12
    have HB12:=hidp hb
    clear hb
    have E13:=hidp hs13
    clear hs13
    go_wp2_with fail
    refine(C12.out).mono ?_
    rintro e w13 ⟨rfl,G13⟩
    have R13:=hidp (R12.out.step G13.out)
    clear C12
    obtain⟨s14,hs14⟩:∃z,z=must [[66,89]] s13:=⟨_,rfl⟩
    have C13:=hidp (R13.out.toRB.must (ts:=[[66,89]]) (C:=#[.string ⟨#[66,89]⟩]) (n:=1) rfl rfl (by decide))
    rw[←hs14] at C13
    have E14:=hidp hs14
    clear hs14
    go_wp2_with fail
    refine(C13.out).mono ?_
    rintro e w14 ⟨rfl,G14⟩
    have R14:=hidp (R13.out.step G14.out)
    clear C13
    obtain⟨s15,hs15⟩:∃z,z=name [] s14:=⟨_,rfl⟩
    obtain⟨fd,hfd⟩:∃z,z=nameT [] s14:=⟨_,rfl⟩
    have C14:=hidp (R14.out.toRB.name)
    rw[←hs15,←hfd] at C14
    have Efd:=hidp hfd
    clear hfd
    have E15:=hidp hs15
    clear hs15
    go_wp2_with fail
    refine(C14.out).mono ?_
    rintro e w15 ⟨rfl,G15⟩
    have R15:=hidp (R14.out.step G15.out)
    clear C14
    obtain⟨xc,xf,xl⟩:=R15.out.cells
    have c0:w15.cell? ⟨xb,0,none⟩=some (.int .u8 6):=xc 0 _ rfl
    have c1:w15.cell? ⟨xb,1,none⟩=some (.string (Lx.bs nm)):=xc 1 _ rfl
    have c2:w15.cell? ⟨xb,2,none⟩=some (.string ⟨#[]⟩):=xc 2 _ rfl
    have c3:w15.cell? ⟨xb,3,none⟩=some (.slice ia il.length ic):=xc 3 _ rfl
    have c4:w15.cell? ⟨xb,4,none⟩=some (.slice wra wrl.length wrc):=xc 4 _ rfl
    have c5:w15.cell? ⟨xb,5,none⟩=some (.bool false):=xc 5 _ rfl
    have c6:w15.cell? ⟨xb,6,none⟩=some (.bool false):=xc 6 _ rfl
    clear xc
    go_upto_region 15 with fail
    obtain⟨w16,hw16⟩:∃z,z=w15.setCell ⟨xb,2,none⟩ (.string (Lx.bs fd)):=⟨_,rfl⟩
    have R16:Hid (SL W0 W pb rb xb s15 ⟨6,nm,fd,il,wrl,false,false⟩ (.slice ia il.length ic) (.slice wra wrl.length wrc) w16):=by rw[hw16];exact R15.out.set rfl R15.out.its R15.out.exp
    rw[←hw16]
    clear hw16 c0 c1 c2 c3 c4 c5 c6 xf xl
    obtain⟨s16,hs16⟩:∃z,z=s15:=⟨_,rfl⟩
    rw[←hs16] at R16
    have E16:=hidp hs16
    clear hs16
    obtain⟨s17,hs17⟩:∃z,z=may [[68,69,83,67]] s16:=⟨_,rfl⟩
    obtain⟨ds,hds⟩:∃z,z=is [[68,69,83,67]] s16:=⟨_,rfl⟩
    have C16:=hidp (R16.out.toRB.may (ts:=[[68,69,83,67]]) (C:=#[.string ⟨#[68,69,83,67]⟩]) (n:=1) rfl rfl (by decide))
    rw[←hs17,←hds] at C16
    have Eds:=hidp hds
    clear hds
    have E17:=hidp hs17
    clear hs17
    go_wp2_with fail
    refine(C16.out).mono ?_
    rintro e w17 ⟨rfl,G17⟩
    have R17:=hidp (R16.out.step G17.out)
    clear C16
    obtain⟨xc,xf,xl⟩:=R17.out.cells
    have c0:w17.cell? ⟨xb,0,none⟩=some (.int .u8 6):=xc 0 _ rfl
    have c1:w17.cell? ⟨xb,1,none⟩=some (.string (Lx.bs nm)):=xc 1 _ rfl
    have c2:w17.cell? ⟨xb,2,none⟩=some (.string (Lx.bs fd)):=xc 2 _ rfl
    have c3:w17.cell? ⟨xb,3,none⟩=some (.slice ia il.length ic):=xc 3 _ rfl
    have c4:w17.cell? ⟨xb,4,none⟩=some (.slice wra wrl.length wrc):=xc 4 _ rfl
    have c5:w17.cell? ⟨xb,5,none⟩=some (.bool false):=xc 5 _ rfl
    have c6:w17.cell? ⟨xb,6,none⟩=some (.bool false):=xc 6 _ rfl
    clear xc
    go_upto_region 16 with fail
    obtain⟨w18,hw18⟩:∃z,z=w17.setCell ⟨xb,6,none⟩ (.bool ds):=⟨_,rfl⟩
    have R18:Hid (SL W0 W pb rb xb s17 ⟨6,nm,fd,il,wrl,false,ds⟩ (.slice ia il.length ic) (.slice wra wrl.length wrc) w18):=by rw[hw18];exact R17.out.set rfl R17.out.its R17.out.exp
    rw[←hw18]
    clear hw18 c0 c1 c2 c3 c4 c5 c6 xf xl
    obtain⟨s18,hs18⟩:∃z,z=s17:=⟨_,rfl⟩
    rw[←hs18] at R18
    have E18:=hidp hs18
    clear hs18
    have EO:Hid (orderB s12=true∧orderS s12=s18∧nameT [] (byS s12)=fd∧descB s12=ds):=by
     show _∧_∧_∧_
     have hb:=HBO.out
     have e1:byS s12=s14:=by rw[byS,E14.out,E13.out]
     refine⟨hb,?_,?_,?_⟩
     ·rw[orderS,orderB,if_pos hb,e1,E18.out,E17.out,E16.out,E15.out]
     ·rw[e1,Efd.out]
     ·rw[descB,e1,Eds.out,E16.out,E15.out]
    obtain⟨xc,xf,xl⟩:=R18.out.cells
    have c0:w18.cell? ⟨xb,0,none⟩=some (.int .u8 6):=xc 0 _ rfl
    have c1:w18.cell? ⟨xb,1,none⟩=some (.string (Lx.bs nm)):=xc 1 _ rfl
    have c2:w18.cell? ⟨xb,2,none⟩=some (.string (Lx.bs fd)):=xc 2 _ rfl
    have c3:w18.cell? ⟨xb,3,none⟩=some (.slice ia il.length ic):=xc 3 _ rfl
    have c4:w18.cell? ⟨xb,4,none⟩=some (.slice wra wrl.length wrc):=xc 4 _ rfl
    have c5:w18.cell? ⟨xb,5,none⟩=some (.bool false):=xc 5 _ rfl
    have c6:w18.cell? ⟨xb,6,none⟩=some (.bool ds):=xc 6 _ rfl
    clear xc
    obtain⟨rc,rf,rl⟩:=R18.out.toRB.cells
    have d0:=rc 0 _ rfl
    have d1:=rc 1 _ rfl
    have d2:=rc 2 _ rfl
    have d3:=rc 3 _ rfl
    have d4:=rc 4 _ rfl
    have d5:=rc 5 _ rfl
    have d6:=rc 6 _ rfl
    clear rc
    have n1:¬rb=xb:=by have:=R18.out.lt;omega
    have n2:¬xb=rb:=by have:=R18.out.lt;omega
    have HQ:Hid (zaP s=s18∧zaO s=⟨6,nm,fd,il,wrl,false,ds⟩):=by
     show _∧_
     have ea:zaS s=s6:=by rw[zaS,←E1.out,←E2.out,EA.out.1,E6.out]
     have ex:itemsX s=il:=by rw[←E1.out,←E2.out];exact EA.out.2
     have eh:histB s6=false:=EH.out.1
     have eh2:histS s6=s8:=EH.out.2
     have ef:fromS s6=s10:=EF.out
     have ew:whereS s10=s12∧whereE s10=wrl:=EW.out
     refine⟨?_,?_⟩
     ·rw[zaP,ea,ef,ew.1,EO.out.2.1]
     ·rw[zaO,ea,ef,ew.1,ew.2,ex,eh,eh2,EO.out.1,←Enm.out,EO.out.2.2.1,EO.out.2.2.2]
      rfl
    have FIN:Hid ((w18.setCells rb 0 [.int .u8 6,.string (Lx.bs nm),.string (Lx.bs fd),.slice ia il.length ic,.slice wra wrl.length wrc,.bool false,.bool ds]).heap[rb]?=some (.cells #[.int .u8 6,.string (Lx.bs nm),.string (Lx.bs fd),.slice ia il.length ic,.slice wra wrl.length wrc,.bool false,.bool ds] 26 (0,0))∧PB W0 W pb (zaP s) (w18.setCells rb 0 [.int .u8 6,.string (Lx.bs nm),.string (Lx.bs fd),.slice ia il.length ic,.slice wra wrl.length wrc,.bool false,.bool ds])∧StV W0 (w18.setCells rb 0 [.int .u8 6,.string (Lx.bs nm),.string (Lx.bs fd),.slice ia il.length ic,.slice wra wrl.length wrc,.bool false,.bool ds]) (.agg #[.int .u8 6,.string (Lx.bs nm),.string (Lx.bs fd),.slice ia il.length ic,.slice wra wrl.length wrc,.bool false,.bool ds]) (zaO s)):=by
     rw[HQ.out.1,HQ.out.2]
     exact R18.out.fin
    go_wp2
    exact bodyPost_ret (v:=.agg #[.int .u8 6,.string (Lx.bs nm),.string (Lx.bs fd),.slice ia il.length ic,.slice wra wrl.length wrc,.bool false,.bool ds]) (results_cell_row rfl _ _ rb 26 #[.int .u8 6,.string (Lx.bs nm),.string (Lx.bs fd),.slice ia il.length ic,.slice wra wrl.length wrc,.bool false,.bool ds] (0,0) _ rfl FIN.out.1 Tryz.underlying26 rfl (by kernel_rfl)) rfl ⟨_,rfl,FIN.out.2⟩
  ·have HBH:=hidp hb
   have C6:=hidp (R6.out.toRB.may (ts:=[[72,73,83,84,79,82,89]]) (C:=#[.string ⟨#[72,73,83,84,79,82,89]⟩]) (n:=1) rfl rfl (by decide))
   obtain⟨s7,hs7⟩:∃z,z=next s6:=⟨_,rfl⟩
   rw[hb,show may [[72,73,83,84,79,82,89]] s6=s7 by rw[may,if_pos hb,hs7]] at C6
   have HB6:=hidp hb
   clear hb
   have E7:=hidp hs7
   clear hs7
   go_wp2_with fail
   refine(C6.out).mono ?_
   rintro e w7 ⟨rfl,G7⟩
   have R7:=hidp (R6.out.step G7.out)
   clear C6
   obtain⟨xc,xf,xl⟩:=R7.out.cells
   have c0:w7.cell? ⟨xb,0,none⟩=some (.int .u8 6):=xc 0 _ rfl
   have c1:w7.cell? ⟨xb,1,none⟩=some (.string ⟨#[]⟩):=xc 1 _ rfl
   have c2:w7.cell? ⟨xb,2,none⟩=some (.string ⟨#[]⟩):=xc 2 _ rfl
   have c3:w7.cell? ⟨xb,3,none⟩=some (.slice ia il.length ic):=xc 3 _ rfl
   have c4:w7.cell? ⟨xb,4,none⟩=some (.slice none 0 0):=xc 4 _ rfl
   have c5:w7.cell? ⟨xb,5,none⟩=some (.bool false):=xc 5 _ rfl
   have c6:w7.cell? ⟨xb,6,none⟩=some (.bool false):=xc 6 _ rfl
   clear xc
   go_upto_region 6 with fail
   obtain⟨w8,hw8⟩:∃z,z=w7.setCell ⟨xb,5,none⟩ (.bool true):=⟨_,rfl⟩
   have R8:Hid (SL W0 W pb rb xb s7 ⟨6,[],[],il,[],true,false⟩ (.slice ia il.length ic) (.slice none 0 0) w8):=by rw[hw8];exact R7.out.set rfl R7.out.its R7.out.exp
   rw[←hw8]
   clear hw8 c0 c1 c2 c3 c4 c5 c6 xf xl
   obtain⟨s8,hs8⟩:∃z,z=s7:=⟨_,rfl⟩
   rw[←hs8] at R8
   have E8:=hidp hs8
   clear hs8
   obtain⟨xc,xf,xl⟩:=R8.out.cells
   have c0:w8.cell? ⟨xb,0,none⟩=some (.int .u8 6):=xc 0 _ rfl
   have c1:w8.cell? ⟨xb,1,none⟩=some (.string ⟨#[]⟩):=xc 1 _ rfl
   have c2:w8.cell? ⟨xb,2,none⟩=some (.string ⟨#[]⟩):=xc 2 _ rfl
   have c3:w8.cell? ⟨xb,3,none⟩=some (.slice ia il.length ic):=xc 3 _ rfl
   have c4:w8.cell? ⟨xb,4,none⟩=some (.slice none 0 0):=xc 4 _ rfl
   have c5:w8.cell? ⟨xb,5,none⟩=some (.bool true):=xc 5 _ rfl
   have c6:w8.cell? ⟨xb,6,none⟩=some (.bool false):=xc 6 _ rfl
   clear xc
   obtain⟨s9,hs9⟩:∃z,z=must [[40]] s8:=⟨_,rfl⟩
   have C8:=hidp (R8.out.toRB.must (ts:=[[40]]) (C:=#[.string ⟨#[40]⟩]) (n:=1) rfl rfl (by decide))
   rw[←hs9] at C8
   have E9:=hidp hs9
   clear hs9
   go_wp2_with fail
   refine(C8.out).mono ?_
   rintro e w9 ⟨rfl,G9⟩
   have R9:=hidp (R8.out.step G9.out)
   clear C8
   clear c0 c1 c2 c3 c4 c5 c6 xf xl
   have EH:Hid (histB s6=true∧histS s6=s9):=by
    show _∧_
    have hb:=HBH.out
    exact⟨hb,by rw[histS,histB,if_pos hb,E9.out,E8.out,E7.out]⟩
   obtain⟨s10,hs10⟩:∃z,z=name [] s9:=⟨_,rfl⟩
   obtain⟨nm,hnm⟩:∃z,z=nameT [] s9:=⟨_,rfl⟩
   have C9:=hidp (R9.out.toRB.name)
   rw[←hs10,←hnm] at C9
   have Enm:=hidp hnm
   clear hnm
   have E10:=hidp hs10
   clear hs10
   go_wp2_with fail
   refine(C9.out).mono ?_
   rintro e w10 ⟨rfl,G10⟩
   have R10:=hidp (R9.out.step G10.out)
   clear C9
   obtain⟨xc,xf,xl⟩:=R10.out.cells
   have c0:w10.cell? ⟨xb,0,none⟩=some (.int .u8 6):=xc 0 _ rfl
   have c1:w10.cell? ⟨xb,1,none⟩=some (.string ⟨#[]⟩):=xc 1 _ rfl
   have c2:w10.cell? ⟨xb,2,none⟩=some (.string ⟨#[]⟩):=xc 2 _ rfl
   have c3:w10.cell? ⟨xb,3,none⟩=some (.slice ia il.length ic):=xc 3 _ rfl
   have c4:w10.cell? ⟨xb,4,none⟩=some (.slice none 0 0):=xc 4 _ rfl
   have c5:w10.cell? ⟨xb,5,none⟩=some (.bool true):=xc 5 _ rfl
   have c6:w10.cell? ⟨xb,6,none⟩=some (.bool false):=xc 6 _ rfl
   clear xc
   go_upto_region 9 with fail
   obtain⟨w11,hw11⟩:∃z,z=w10.setCell ⟨xb,1,none⟩ (.string (Lx.bs nm)):=⟨_,rfl⟩
   have R11:Hid (SL W0 W pb rb xb s10 ⟨6,nm,[],il,[],true,false⟩ (.slice ia il.length ic) (.slice none 0 0) w11):=by rw[hw11];exact R10.out.set rfl R10.out.its R10.out.exp
   rw[←hw11]
   clear hw11 c0 c1 c2 c3 c4 c5 c6 xf xl
   obtain⟨s11,hs11⟩:∃z,z=s10:=⟨_,rfl⟩
   rw[←hs11] at R11
   have E11:=hidp hs11
   clear hs11
   obtain⟨xc,xf,xl⟩:=R11.out.cells
   have c0:w11.cell? ⟨xb,0,none⟩=some (.int .u8 6):=xc 0 _ rfl
   have c1:w11.cell? ⟨xb,1,none⟩=some (.string (Lx.bs nm)):=xc 1 _ rfl
   have c2:w11.cell? ⟨xb,2,none⟩=some (.string ⟨#[]⟩):=xc 2 _ rfl
   have c3:w11.cell? ⟨xb,3,none⟩=some (.slice ia il.length ic):=xc 3 _ rfl
   have c4:w11.cell? ⟨xb,4,none⟩=some (.slice none 0 0):=xc 4 _ rfl
   have c5:w11.cell? ⟨xb,5,none⟩=some (.bool true):=xc 5 _ rfl
   have c6:w11.cell? ⟨xb,6,none⟩=some (.bool false):=xc 6 _ rfl
   clear xc
   obtain⟨s12,hs12⟩:∃z,z=must [[41]] s11:=⟨_,rfl⟩
   have C11:=hidp (R11.out.toRB.must (ts:=[[41]]) (C:=#[.string ⟨#[41]⟩]) (n:=1) rfl rfl (by decide))
   rw[←hs12] at C11
   have E12:=hidp hs12
   clear hs12
   go_wp2_with fail
   refine(C11.out).mono ?_
   rintro e w12 ⟨rfl,G12⟩
   have R12:=hidp (R11.out.step G12.out)
   clear C11
   clear c0 c1 c2 c3 c4 c5 c6 xf xl
   have EF:Hid (fromS s6=s12):=by
    show _=_
    rw[fromS,EH.out.1,EH.out.2,if_pos rfl,E12.out,E11.out,E10.out]
   obtain⟨s13,hs13⟩:∃z,z=whereS s12:=⟨_,rfl⟩
   obtain⟨wrl,hwr⟩:∃z,z=whereE s12:=⟨_,rfl⟩
   have C12:=hidp (R12.out.toRB.wher HO.out.1 HO.out.2)
   rw[←hwr,←hs13] at C12
   have Ewr:=hidp hwr
   clear hwr
   have E13:=hidp hs13
   clear hs13
   go_wp2_with fail
   refine(C12.out).mono ?_
   rintro e w13 ⟨wra,wrc,rfl,X13⟩
   have G13:=hidp X13.out.1
   have R13:=hidp (R12.out.step G13.out)
   clear C12
   have EW:Hid (whereS s12=s13∧whereE s12=wrl):=⟨E13.out.symm,Ewr.out.symm⟩
   obtain⟨xc,xf,xl⟩:=R13.out.cells
   have c0:w13.cell? ⟨xb,0,none⟩=some (.int .u8 6):=xc 0 _ rfl
   have c1:w13.cell? ⟨xb,1,none⟩=some (.string (Lx.bs nm)):=xc 1 _ rfl
   have c2:w13.cell? ⟨xb,2,none⟩=some (.string ⟨#[]⟩):=xc 2 _ rfl
   have c3:w13.cell? ⟨xb,3,none⟩=some (.slice ia il.length ic):=xc 3 _ rfl
   have c4:w13.cell? ⟨xb,4,none⟩=some (.slice none 0 0):=xc 4 _ rfl
   have c5:w13.cell? ⟨xb,5,none⟩=some (.bool true):=xc 5 _ rfl
   have c6:w13.cell? ⟨xb,6,none⟩=some (.bool false):=xc 6 _ rfl
   clear xc
   go_upto_region 12 with fail
   obtain⟨w14,hw14⟩:∃z,z=w13.setCell ⟨xb,4,none⟩ (.slice wra wrl.length wrc):=⟨_,rfl⟩
   have R14:Hid (SL W0 W pb rb xb s13 ⟨6,nm,[],il,wrl,true,false⟩ (.slice ia il.length ic) (.slice wra wrl.length wrc) w14):=by rw[hw14];exact R13.out.set rfl R13.out.its X13.out.2
   rw[←hw14]
   clear hw14 c0 c1 c2 c3 c4 c5 c6 xf xl
   obtain⟨s14,hs14⟩:∃z,z=s13:=⟨_,rfl⟩
   rw[←hs14] at R14
   have E14:=hidp hs14
   clear hs14
   have EW2:Hid (whereS s12=s14∧whereE s12=wrl):=⟨EW.out.1.trans E14.out.symm,EW.out.2⟩
   clear EW
   have EW:=EW2
   clear EW2
   cases hb:is [[79,82,68,69,82]] s14
   ·have HBO:=hidp hb
    have C14:=hidp (R14.out.toRB.may (ts:=[[79,82,68,69,82]]) (C:=#[.string ⟨#[79,82,68,69,82]⟩]) (n:=1) rfl rfl (by decide))
    obtain⟨s15,hs15⟩:∃z,z=s14:=⟨_,rfl⟩
    rw[hb,show may [[79,82,68,69,82]] s14=s15 by rw[may,hb,hs15];rfl] at C14
    have HB14:=hidp hb
    clear hb
    have E15:=hidp hs15
    clear hs15
    go_wp2_with fail
    refine(C14.out).mono ?_
    rintro e w15 ⟨rfl,G15⟩
    have R15:=hidp (R14.out.step G15.out)
    clear C14
    have EO:Hid (orderB s14=false∧orderS s14=s15):=by
     show _∧_
     have hb:=HBO.out
     exact⟨hb,by rw[orderS,orderB,hb,E15.out];rfl⟩
    obtain⟨xc,xf,xl⟩:=R15.out.cells
    have c0:w15.cell? ⟨xb,0,none⟩=some (.int .u8 6):=xc 0 _ rfl
    have c1:w15.cell? ⟨xb,1,none⟩=some (.string (Lx.bs nm)):=xc 1 _ rfl
    have c2:w15.cell? ⟨xb,2,none⟩=some (.string ⟨#[]⟩):=xc 2 _ rfl
    have c3:w15.cell? ⟨xb,3,none⟩=some (.slice ia il.length ic):=xc 3 _ rfl
    have c4:w15.cell? ⟨xb,4,none⟩=some (.slice wra wrl.length wrc):=xc 4 _ rfl
    have c5:w15.cell? ⟨xb,5,none⟩=some (.bool true):=xc 5 _ rfl
    have c6:w15.cell? ⟨xb,6,none⟩=some (.bool false):=xc 6 _ rfl
    clear xc
    obtain⟨rc,rf,rl⟩:=R15.out.toRB.cells
    have d0:=rc 0 _ rfl
    have d1:=rc 1 _ rfl
    have d2:=rc 2 _ rfl
    have d3:=rc 3 _ rfl
    have d4:=rc 4 _ rfl
    have d5:=rc 5 _ rfl
    have d6:=rc 6 _ rfl
    clear rc
    have n1:¬rb=xb:=by have:=R15.out.lt;omega
    have n2:¬xb=rb:=by have:=R15.out.lt;omega
    have HQ:Hid (zaP s=s15∧zaO s=⟨6,nm,[],il,wrl,true,false⟩):=by
     show _∧_
     have ea:zaS s=s6:=by rw[zaS,←E1.out,←E2.out,EA.out.1,E6.out]
     have ex:itemsX s=il:=by rw[←E1.out,←E2.out];exact EA.out.2
     have eh:histB s6=true:=EH.out.1
     have eh2:histS s6=s9:=EH.out.2
     have ef:fromS s6=s12:=EF.out
     have ew:whereS s12=s14∧whereE s12=wrl:=EW.out
     refine⟨?_,?_⟩
     ·rw[zaP,ea,ef,ew.1,EO.out.2]
     ·rw[zaO,ea,ef,ew.1,ew.2,ex,eh,eh2,EO.out.1,←Enm.out]
      rfl
    have FIN:Hid ((w15.setCells rb 0 [.int .u8 6,.string (Lx.bs nm),.string ⟨#[]⟩,.slice ia il.length ic,.slice wra wrl.length wrc,.bool true,.bool false]).heap[rb]?=some (.cells #[.int .u8 6,.string (Lx.bs nm),.string ⟨#[]⟩,.slice ia il.length ic,.slice wra wrl.length wrc,.bool true,.bool false] 26 (0,0))∧PB W0 W pb (zaP s) (w15.setCells rb 0 [.int .u8 6,.string (Lx.bs nm),.string ⟨#[]⟩,.slice ia il.length ic,.slice wra wrl.length wrc,.bool true,.bool false])∧StV W0 (w15.setCells rb 0 [.int .u8 6,.string (Lx.bs nm),.string ⟨#[]⟩,.slice ia il.length ic,.slice wra wrl.length wrc,.bool true,.bool false]) (.agg #[.int .u8 6,.string (Lx.bs nm),.string ⟨#[]⟩,.slice ia il.length ic,.slice wra wrl.length wrc,.bool true,.bool false]) (zaO s)):=by
     rw[HQ.out.1,HQ.out.2]
     exact R15.out.fin
    go_wp2
    exact bodyPost_ret (v:=.agg #[.int .u8 6,.string (Lx.bs nm),.string ⟨#[]⟩,.slice ia il.length ic,.slice wra wrl.length wrc,.bool true,.bool false]) (results_cell_row rfl _ _ rb 26 #[.int .u8 6,.string (Lx.bs nm),.string ⟨#[]⟩,.slice ia il.length ic,.slice wra wrl.length wrc,.bool true,.bool false] (0,0) _ rfl FIN.out.1 Tryz.underlying26 rfl (by kernel_rfl)) rfl ⟨_,rfl,FIN.out.2⟩
   ·have HBO:=hidp hb
    have C14:=hidp (R14.out.toRB.may (ts:=[[79,82,68,69,82]]) (C:=#[.string ⟨#[79,82,68,69,82]⟩]) (n:=1) rfl rfl (by decide))
    obtain⟨s15,hs15⟩:∃z,z=next s14:=⟨_,rfl⟩
    rw[hb,show may [[79,82,68,69,82]] s14=s15 by rw[may,if_pos hb,hs15]] at C14
    have HB14:=hidp hb
    clear hb
    have E15:=hidp hs15
    clear hs15
    go_wp2_with fail
    refine(C14.out).mono ?_
    rintro e w15 ⟨rfl,G15⟩
    have R15:=hidp (R14.out.step G15.out)
    clear C14
    obtain⟨s16,hs16⟩:∃z,z=must [[66,89]] s15:=⟨_,rfl⟩
    have C15:=hidp (R15.out.toRB.must (ts:=[[66,89]]) (C:=#[.string ⟨#[66,89]⟩]) (n:=1) rfl rfl (by decide))
    rw[←hs16] at C15
    have E16:=hidp hs16
    clear hs16
    go_wp2_with fail
    refine(C15.out).mono ?_
    rintro e w16 ⟨rfl,G16⟩
    have R16:=hidp (R15.out.step G16.out)
    clear C15
    obtain⟨s17,hs17⟩:∃z,z=name [] s16:=⟨_,rfl⟩
    obtain⟨fd,hfd⟩:∃z,z=nameT [] s16:=⟨_,rfl⟩
    have C16:=hidp (R16.out.toRB.name)
    rw[←hs17,←hfd] at C16
    have Efd:=hidp hfd
    clear hfd
    have E17:=hidp hs17
    clear hs17
    go_wp2_with fail
    refine(C16.out).mono ?_
    rintro e w17 ⟨rfl,G17⟩
    have R17:=hidp (R16.out.step G17.out)
    clear C16
    obtain⟨xc,xf,xl⟩:=R17.out.cells
    have c0:w17.cell? ⟨xb,0,none⟩=some (.int .u8 6):=xc 0 _ rfl
    have c1:w17.cell? ⟨xb,1,none⟩=some (.string (Lx.bs nm)):=xc 1 _ rfl
    have c2:w17.cell? ⟨xb,2,none⟩=some (.string ⟨#[]⟩):=xc 2 _ rfl
    have c3:w17.cell? ⟨xb,3,none⟩=some (.slice ia il.length ic):=xc 3 _ rfl
    have c4:w17.cell? ⟨xb,4,none⟩=some (.slice wra wrl.length wrc):=xc 4 _ rfl
    have c5:w17.cell? ⟨xb,5,none⟩=some (.bool true):=xc 5 _ rfl
    have c6:w17.cell? ⟨xb,6,none⟩=some (.bool false):=xc 6 _ rfl
    clear xc
    go_upto_region 15 with fail
    obtain⟨w18,hw18⟩:∃z,z=w17.setCell ⟨xb,2,none⟩ (.string (Lx.bs fd)):=⟨_,rfl⟩
    have R18:Hid (SL W0 W pb rb xb s17 ⟨6,nm,fd,il,wrl,true,false⟩ (.slice ia il.length ic) (.slice wra wrl.length wrc) w18):=by rw[hw18];exact R17.out.set rfl R17.out.its R17.out.exp
    rw[←hw18]
    clear hw18 c0 c1 c2 c3 c4 c5 c6 xf xl
    obtain⟨s18,hs18⟩:∃z,z=s17:=⟨_,rfl⟩
    rw[←hs18] at R18
    have E18:=hidp hs18
    clear hs18
    obtain⟨s19,hs19⟩:∃z,z=may [[68,69,83,67]] s18:=⟨_,rfl⟩
    obtain⟨ds,hds⟩:∃z,z=is [[68,69,83,67]] s18:=⟨_,rfl⟩
    have C18:=hidp (R18.out.toRB.may (ts:=[[68,69,83,67]]) (C:=#[.string ⟨#[68,69,83,67]⟩]) (n:=1) rfl rfl (by decide))
    rw[←hs19,←hds] at C18
    have Eds:=hidp hds
    clear hds
    have E19:=hidp hs19
    clear hs19
    go_wp2_with fail
    refine(C18.out).mono ?_
    rintro e w19 ⟨rfl,G19⟩
    have R19:=hidp (R18.out.step G19.out)
    clear C18
    obtain⟨xc,xf,xl⟩:=R19.out.cells
    have c0:w19.cell? ⟨xb,0,none⟩=some (.int .u8 6):=xc 0 _ rfl
    have c1:w19.cell? ⟨xb,1,none⟩=some (.string (Lx.bs nm)):=xc 1 _ rfl
    have c2:w19.cell? ⟨xb,2,none⟩=some (.string (Lx.bs fd)):=xc 2 _ rfl
    have c3:w19.cell? ⟨xb,3,none⟩=some (.slice ia il.length ic):=xc 3 _ rfl
    have c4:w19.cell? ⟨xb,4,none⟩=some (.slice wra wrl.length wrc):=xc 4 _ rfl
    have c5:w19.cell? ⟨xb,5,none⟩=some (.bool true):=xc 5 _ rfl
    have c6:w19.cell? ⟨xb,6,none⟩=some (.bool false):=xc 6 _ rfl
    clear xc
    go_upto_region 16 with fail
    obtain⟨w20,hw20⟩:∃z,z=w19.setCell ⟨xb,6,none⟩ (.bool ds):=⟨_,rfl⟩
    have R20:Hid (SL W0 W pb rb xb s19 ⟨6,nm,fd,il,wrl,true,ds⟩ (.slice ia il.length ic) (.slice wra wrl.length wrc) w20):=by rw[hw20];exact R19.out.set rfl R19.out.its R19.out.exp
    rw[←hw20]
    clear hw20 c0 c1 c2 c3 c4 c5 c6 xf xl
    obtain⟨s20,hs20⟩:∃z,z=s19:=⟨_,rfl⟩
    rw[←hs20] at R20
    have E20:=hidp hs20
    clear hs20
    have EO:Hid (orderB s14=true∧orderS s14=s20∧nameT [] (byS s14)=fd∧descB s14=ds):=by
     show _∧_∧_∧_
     have hb:=HBO.out
     have e1:byS s14=s16:=by rw[byS,E16.out,E15.out]
     refine⟨hb,?_,?_,?_⟩
     ·rw[orderS,orderB,if_pos hb,e1,E20.out,E19.out,E18.out,E17.out]
     ·rw[e1,Efd.out]
     ·rw[descB,e1,Eds.out,E18.out,E17.out]
    obtain⟨xc,xf,xl⟩:=R20.out.cells
    have c0:w20.cell? ⟨xb,0,none⟩=some (.int .u8 6):=xc 0 _ rfl
    have c1:w20.cell? ⟨xb,1,none⟩=some (.string (Lx.bs nm)):=xc 1 _ rfl
    have c2:w20.cell? ⟨xb,2,none⟩=some (.string (Lx.bs fd)):=xc 2 _ rfl
    have c3:w20.cell? ⟨xb,3,none⟩=some (.slice ia il.length ic):=xc 3 _ rfl
    have c4:w20.cell? ⟨xb,4,none⟩=some (.slice wra wrl.length wrc):=xc 4 _ rfl
    have c5:w20.cell? ⟨xb,5,none⟩=some (.bool true):=xc 5 _ rfl
    have c6:w20.cell? ⟨xb,6,none⟩=some (.bool ds):=xc 6 _ rfl
    clear xc
    obtain⟨rc,rf,rl⟩:=R20.out.toRB.cells
    have d0:=rc 0 _ rfl
    have d1:=rc 1 _ rfl
    have d2:=rc 2 _ rfl
    have d3:=rc 3 _ rfl
    have d4:=rc 4 _ rfl
    have d5:=rc 5 _ rfl
    have d6:=rc 6 _ rfl
    clear rc
    have n1:¬rb=xb:=by have:=R20.out.lt;omega
    have n2:¬xb=rb:=by have:=R20.out.lt;omega
    have HQ:Hid (zaP s=s20∧zaO s=⟨6,nm,fd,il,wrl,true,ds⟩):=by
     show _∧_
     have ea:zaS s=s6:=by rw[zaS,←E1.out,←E2.out,EA.out.1,E6.out]
     have ex:itemsX s=il:=by rw[←E1.out,←E2.out];exact EA.out.2
     have eh:histB s6=true:=EH.out.1
     have eh2:histS s6=s9:=EH.out.2
     have ef:fromS s6=s12:=EF.out
     have ew:whereS s12=s14∧whereE s12=wrl:=EW.out
     refine⟨?_,?_⟩
     ·rw[zaP,ea,ef,ew.1,EO.out.2.1]
     ·rw[zaO,ea,ef,ew.1,ew.2,ex,eh,eh2,EO.out.1,←Enm.out,EO.out.2.2.1,EO.out.2.2.2]
      rfl
    have FIN:Hid ((w20.setCells rb 0 [.int .u8 6,.string (Lx.bs nm),.string (Lx.bs fd),.slice ia il.length ic,.slice wra wrl.length wrc,.bool true,.bool ds]).heap[rb]?=some (.cells #[.int .u8 6,.string (Lx.bs nm),.string (Lx.bs fd),.slice ia il.length ic,.slice wra wrl.length wrc,.bool true,.bool ds] 26 (0,0))∧PB W0 W pb (zaP s) (w20.setCells rb 0 [.int .u8 6,.string (Lx.bs nm),.string (Lx.bs fd),.slice ia il.length ic,.slice wra wrl.length wrc,.bool true,.bool ds])∧StV W0 (w20.setCells rb 0 [.int .u8 6,.string (Lx.bs nm),.string (Lx.bs fd),.slice ia il.length ic,.slice wra wrl.length wrc,.bool true,.bool ds]) (.agg #[.int .u8 6,.string (Lx.bs nm),.string (Lx.bs fd),.slice ia il.length ic,.slice wra wrl.length wrc,.bool true,.bool ds]) (zaO s)):=by
     rw[HQ.out.1,HQ.out.2]
     exact R20.out.fin
    go_wp2
    exact bodyPost_ret (v:=.agg #[.int .u8 6,.string (Lx.bs nm),.string (Lx.bs fd),.slice ia il.length ic,.slice wra wrl.length wrc,.bool true,.bool ds]) (results_cell_row rfl _ _ rb 26 #[.int .u8 6,.string (Lx.bs nm),.string (Lx.bs fd),.slice ia il.length ic,.slice wra wrl.length wrc,.bool true,.bool ds] (0,0) _ rfl FIN.out.1 Tryz.underlying26 rfl (by kernel_rfl)) rfl ⟨_,rfl,FIN.out.2⟩
 ·have HBA:=hidp hb
  have C2:=hidp (R2.out.toRB.may (ts:=[[42]]) (C:=#[.string ⟨#[42]⟩]) (n:=1) rfl rfl (by decide))
  obtain⟨s3,hs3⟩:∃z,z=next s2:=⟨_,rfl⟩
  rw[hb,show may [[42]] s2=s3 by rw[may,if_pos hb,hs3]] at C2
  have HB2:=hidp hb
  clear hb
  have E3:=hidp hs3
  clear hs3
  go_wp2_with fail
  refine(C2.out).mono ?_
  rintro e w3 ⟨rfl,G3⟩
  have R3:=hidp (R2.out.step G3.out)
  clear C2
  have EA:Hid (itemsS s2=s3∧itemsX s2=[]):=by
   show _∧_
   have hb:=HBA.out
   exact⟨by rw[itemsS,if_pos hb,E3.out],by rw[itemsX,if_pos hb]⟩
  obtain⟨s4,hs4⟩:∃z,z=must [[70,82,79,77]] s3:=⟨_,rfl⟩
  have C3:=hidp (R3.out.toRB.must (ts:=[[70,82,79,77]]) (C:=#[.string ⟨#[70,82,79,77]⟩]) (n:=1) rfl rfl (by decide))
  rw[←hs4] at C3
  have E4:=hidp hs4
  clear hs4
  go_wp2_with fail
  refine(C3.out).mono ?_
  rintro e w4 ⟨rfl,G4⟩
  have R4:=hidp (R3.out.step G4.out)
  clear C3
  cases hb:is [[72,73,83,84,79,82,89]] s4
  ·have HBH:=hidp hb
   have C4:=hidp (R4.out.toRB.may (ts:=[[72,73,83,84,79,82,89]]) (C:=#[.string ⟨#[72,73,83,84,79,82,89]⟩]) (n:=1) rfl rfl (by decide))
   obtain⟨s5,hs5⟩:∃z,z=s4:=⟨_,rfl⟩
   rw[hb,show may [[72,73,83,84,79,82,89]] s4=s5 by rw[may,hb,hs5];rfl] at C4
   have HB4:=hidp hb
   clear hb
   have E5:=hidp hs5
   clear hs5
   go_wp2_with fail
   refine(C4.out).mono ?_
   rintro e w5 ⟨rfl,G5⟩
   have R5:=hidp (R4.out.step G5.out)
   clear C4
   obtain⟨xc,xf,xl⟩:=R5.out.cells
   have c0:w5.cell? ⟨xb,0,none⟩=some (.int .u8 6):=xc 0 _ rfl
   have c1:w5.cell? ⟨xb,1,none⟩=some (.string ⟨#[]⟩):=xc 1 _ rfl
   have c2:w5.cell? ⟨xb,2,none⟩=some (.string ⟨#[]⟩):=xc 2 _ rfl
   have c3:w5.cell? ⟨xb,3,none⟩=some (.slice none 0 0):=xc 3 _ rfl
   have c4:w5.cell? ⟨xb,4,none⟩=some (.slice none 0 0):=xc 4 _ rfl
   have c5:w5.cell? ⟨xb,5,none⟩=some (.bool false):=xc 5 _ rfl
   have c6:w5.cell? ⟨xb,6,none⟩=some (.bool false):=xc 6 _ rfl
   clear xc
   go_upto_region 6 with fail
   obtain⟨w6,hw6⟩:∃z,z=w5.setCell ⟨xb,5,none⟩ (.bool false):=⟨_,rfl⟩
   have R6:Hid (SL W0 W pb rb xb s5 ⟨6,[],[],[],[],false,false⟩ (.slice none 0 0) (.slice none 0 0) w6):=by rw[hw6];exact R5.out.set rfl R5.out.its R5.out.exp
   rw[←hw6]
   clear hw6 c0 c1 c2 c3 c4 c5 c6 xf xl
   obtain⟨s6,hs6⟩:∃z,z=s5:=⟨_,rfl⟩
   rw[←hs6] at R6
   have E6:=hidp hs6
   clear hs6
   obtain⟨xc,xf,xl⟩:=R6.out.cells
   have c0:w6.cell? ⟨xb,0,none⟩=some (.int .u8 6):=xc 0 _ rfl
   have c1:w6.cell? ⟨xb,1,none⟩=some (.string ⟨#[]⟩):=xc 1 _ rfl
   have c2:w6.cell? ⟨xb,2,none⟩=some (.string ⟨#[]⟩):=xc 2 _ rfl
   have c3:w6.cell? ⟨xb,3,none⟩=some (.slice none 0 0):=xc 3 _ rfl
   have c4:w6.cell? ⟨xb,4,none⟩=some (.slice none 0 0):=xc 4 _ rfl
   have c5:w6.cell? ⟨xb,5,none⟩=some (.bool false):=xc 5 _ rfl
   have c6:w6.cell? ⟨xb,6,none⟩=some (.bool false):=xc 6 _ rfl
   clear xc
   have EH:Hid (histB s4=false∧histS s4=s6):=by
    show _∧_
    have hb:=HBH.out
    exact⟨hb,by rw[histS,histB,hb,E6.out,E5.out];rfl⟩
   obtain⟨s7,hs7⟩:∃z,z=name [] s6:=⟨_,rfl⟩
   obtain⟨nm,hnm⟩:∃z,z=nameT [] s6:=⟨_,rfl⟩
   have C6:=hidp (R6.out.toRB.name)
   rw[←hs7,←hnm] at C6
   have Enm:=hidp hnm
   clear hnm
   have E7:=hidp hs7
   clear hs7
   go_wp2_with fail
   refine(C6.out).mono ?_
   rintro e w7 ⟨rfl,G7⟩
   have R7:=hidp (R6.out.step G7.out)
   clear C6
   clear c0 c1 c2 c3 c4 c5 c6 xf xl
   obtain⟨xc,xf,xl⟩:=R7.out.cells
   have c0:w7.cell? ⟨xb,0,none⟩=some (.int .u8 6):=xc 0 _ rfl
   have c1:w7.cell? ⟨xb,1,none⟩=some (.string ⟨#[]⟩):=xc 1 _ rfl
   have c2:w7.cell? ⟨xb,2,none⟩=some (.string ⟨#[]⟩):=xc 2 _ rfl
   have c3:w7.cell? ⟨xb,3,none⟩=some (.slice none 0 0):=xc 3 _ rfl
   have c4:w7.cell? ⟨xb,4,none⟩=some (.slice none 0 0):=xc 4 _ rfl
   have c5:w7.cell? ⟨xb,5,none⟩=some (.bool false):=xc 5 _ rfl
   have c6:w7.cell? ⟨xb,6,none⟩=some (.bool false):=xc 6 _ rfl
   clear xc
   go_upto_region 9 with fail
   obtain⟨w8,hw8⟩:∃z,z=w7.setCell ⟨xb,1,none⟩ (.string (Lx.bs nm)):=⟨_,rfl⟩
   have R8:Hid (SL W0 W pb rb xb s7 ⟨6,nm,[],[],[],false,false⟩ (.slice none 0 0) (.slice none 0 0) w8):=by rw[hw8];exact R7.out.set rfl R7.out.its R7.out.exp
   rw[←hw8]
   clear hw8 c0 c1 c2 c3 c4 c5 c6 xf xl
   obtain⟨s8,hs8⟩:∃z,z=s7:=⟨_,rfl⟩
   rw[←hs8] at R8
   have E8:=hidp hs8
   clear hs8
   obtain⟨xc,xf,xl⟩:=R8.out.cells
   have c0:w8.cell? ⟨xb,0,none⟩=some (.int .u8 6):=xc 0 _ rfl
   have c1:w8.cell? ⟨xb,1,none⟩=some (.string (Lx.bs nm)):=xc 1 _ rfl
   have c2:w8.cell? ⟨xb,2,none⟩=some (.string ⟨#[]⟩):=xc 2 _ rfl
   have c3:w8.cell? ⟨xb,3,none⟩=some (.slice none 0 0):=xc 3 _ rfl
   have c4:w8.cell? ⟨xb,4,none⟩=some (.slice none 0 0):=xc 4 _ rfl
   have c5:w8.cell? ⟨xb,5,none⟩=some (.bool false):=xc 5 _ rfl
   have c6:w8.cell? ⟨xb,6,none⟩=some (.bool false):=xc 6 _ rfl
   clear xc
   have EF:Hid (fromS s4=s8):=by
    show _=_
    rw[fromS,EH.out.1,EH.out.2,E8.out,E7.out]
    rfl
   obtain⟨s9,hs9⟩:∃z,z=whereS s8:=⟨_,rfl⟩
   obtain⟨wrl,hwr⟩:∃z,z=whereE s8:=⟨_,rfl⟩
   have C8:=hidp (R8.out.toRB.wher HO.out.1 HO.out.2)
   rw[←hwr,←hs9] at C8
   have Ewr:=hidp hwr
   clear hwr
   have E9:=hidp hs9
   clear hs9
   go_wp2_with fail
   refine(C8.out).mono ?_
   rintro e w9 ⟨wra,wrc,rfl,X9⟩
   have G9:=hidp X9.out.1
   have R9:=hidp (R8.out.step G9.out)
   clear C8
   have EW:Hid (whereS s8=s9∧whereE s8=wrl):=⟨E9.out.symm,Ewr.out.symm⟩
   clear c0 c1 c2 c3 c4 c5 c6 xf xl
   obtain⟨xc,xf,xl⟩:=R9.out.cells
   have c0:w9.cell? ⟨xb,0,none⟩=some (.int .u8 6):=xc 0 _ rfl
   have c1:w9.cell? ⟨xb,1,none⟩=some (.string (Lx.bs nm)):=xc 1 _ rfl
   have c2:w9.cell? ⟨xb,2,none⟩=some (.string ⟨#[]⟩):=xc 2 _ rfl
   have c3:w9.cell? ⟨xb,3,none⟩=some (.slice none 0 0):=xc 3 _ rfl
   have c4:w9.cell? ⟨xb,4,none⟩=some (.slice none 0 0):=xc 4 _ rfl
   have c5:w9.cell? ⟨xb,5,none⟩=some (.bool false):=xc 5 _ rfl
   have c6:w9.cell? ⟨xb,6,none⟩=some (.bool false):=xc 6 _ rfl
   clear xc
   go_upto_region 12 with fail
   obtain⟨w10,hw10⟩:∃z,z=w9.setCell ⟨xb,4,none⟩ (.slice wra wrl.length wrc):=⟨_,rfl⟩
   have R10:Hid (SL W0 W pb rb xb s9 ⟨6,nm,[],[],wrl,false,false⟩ (.slice none 0 0) (.slice wra wrl.length wrc) w10):=by rw[hw10];exact R9.out.set rfl R9.out.its X9.out.2
   rw[←hw10]
   clear hw10 c0 c1 c2 c3 c4 c5 c6 xf xl
   obtain⟨s10,hs10⟩:∃z,z=s9:=⟨_,rfl⟩
   rw[←hs10] at R10
   have E10:=hidp hs10
   clear hs10
   have EW2:Hid (whereS s8=s10∧whereE s8=wrl):=⟨EW.out.1.trans E10.out.symm,EW.out.2⟩
   clear EW
   have EW:=EW2
   clear EW2
   cases hb:is [[79,82,68,69,82]] s10
   ·have HBO:=hidp hb
    have C10:=hidp (R10.out.toRB.may (ts:=[[79,82,68,69,82]]) (C:=#[.string ⟨#[79,82,68,69,82]⟩]) (n:=1) rfl rfl (by decide))
    obtain⟨s11,hs11⟩:∃z,z=s10:=⟨_,rfl⟩
    rw[hb,show may [[79,82,68,69,82]] s10=s11 by rw[may,hb,hs11];rfl] at C10
    have HB10:=hidp hb
    clear hb
    have E11:=hidp hs11
    clear hs11
    go_wp2_with fail
    refine(C10.out).mono ?_
    rintro e w11 ⟨rfl,G11⟩
    have R11:=hidp (R10.out.step G11.out)
    clear C10
    have EO:Hid (orderB s10=false∧orderS s10=s11):=by
     show _∧_
     have hb:=HBO.out
     exact⟨hb,by rw[orderS,orderB,hb,E11.out];rfl⟩
    obtain⟨xc,xf,xl⟩:=R11.out.cells
    have c0:w11.cell? ⟨xb,0,none⟩=some (.int .u8 6):=xc 0 _ rfl
    have c1:w11.cell? ⟨xb,1,none⟩=some (.string (Lx.bs nm)):=xc 1 _ rfl
    have c2:w11.cell? ⟨xb,2,none⟩=some (.string ⟨#[]⟩):=xc 2 _ rfl
    have c3:w11.cell? ⟨xb,3,none⟩=some (.slice none 0 0):=xc 3 _ rfl
    have c4:w11.cell? ⟨xb,4,none⟩=some (.slice wra wrl.length wrc):=xc 4 _ rfl
    have c5:w11.cell? ⟨xb,5,none⟩=some (.bool false):=xc 5 _ rfl
    have c6:w11.cell? ⟨xb,6,none⟩=some (.bool false):=xc 6 _ rfl
    clear xc
    obtain⟨rc,rf,rl⟩:=R11.out.toRB.cells
    have d0:=rc 0 _ rfl
    have d1:=rc 1 _ rfl
    have d2:=rc 2 _ rfl
    have d3:=rc 3 _ rfl
    have d4:=rc 4 _ rfl
    have d5:=rc 5 _ rfl
    have d6:=rc 6 _ rfl
    clear rc
    have n1:¬rb=xb:=by have:=R11.out.lt;omega
    have n2:¬xb=rb:=by have:=R11.out.lt;omega
    have HQ:Hid (zaP s=s11∧zaO s=⟨6,nm,[],[],wrl,false,false⟩):=by
     show _∧_
     have ea:zaS s=s4:=by rw[zaS,←E1.out,←E2.out,EA.out.1,E4.out]
     have ex:itemsX s=[]:=by rw[←E1.out,←E2.out];exact EA.out.2
     have eh:histB s4=false:=EH.out.1
     have eh2:histS s4=s6:=EH.out.2
     have ef:fromS s4=s8:=EF.out
     have ew:whereS s8=s10∧whereE s8=wrl:=EW.out
     refine⟨?_,?_⟩
     ·rw[zaP,ea,ef,ew.1,EO.out.2]
     ·rw[zaO,ea,ef,ew.1,ew.2,ex,eh,eh2,EO.out.1,←Enm.out]
      rfl
    have FIN:Hid ((w11.setCells rb 0 [.int .u8 6,.string (Lx.bs nm),.string ⟨#[]⟩,.slice none 0 0,.slice wra wrl.length wrc,.bool false,.bool false]).heap[rb]?=some (.cells #[.int .u8 6,.string (Lx.bs nm),.string ⟨#[]⟩,.slice none 0 0,.slice wra wrl.length wrc,.bool false,.bool false] 26 (0,0))∧PB W0 W pb (zaP s) (w11.setCells rb 0 [.int .u8 6,.string (Lx.bs nm),.string ⟨#[]⟩,.slice none 0 0,.slice wra wrl.length wrc,.bool false,.bool false])∧StV W0 (w11.setCells rb 0 [.int .u8 6,.string (Lx.bs nm),.string ⟨#[]⟩,.slice none 0 0,.slice wra wrl.length wrc,.bool false,.bool false]) (.agg #[.int .u8 6,.string (Lx.bs nm),.string ⟨#[]⟩,.slice none 0 0,.slice wra wrl.length wrc,.bool false,.bool false]) (zaO s)):=by
     rw[HQ.out.1,HQ.out.2]
     exact R11.out.fin
    go_wp2
    exact bodyPost_ret (v:=.agg #[.int .u8 6,.string (Lx.bs nm),.string ⟨#[]⟩,.slice none 0 0,.slice wra wrl.length wrc,.bool false,.bool false]) (results_cell_row rfl _ _ rb 26 #[.int .u8 6,.string (Lx.bs nm),.string ⟨#[]⟩,.slice none 0 0,.slice wra wrl.length wrc,.bool false,.bool false] (0,0) _ rfl FIN.out.1 Tryz.underlying26 rfl (by kernel_rfl)) rfl ⟨_,rfl,FIN.out.2⟩
   ·have HBO:=hidp hb
    have C10:=hidp (R10.out.toRB.may (ts:=[[79,82,68,69,82]]) (C:=#[.string ⟨#[79,82,68,69,82]⟩]) (n:=1) rfl rfl (by decide))
    obtain⟨s11,hs11⟩:∃z,z=next s10:=⟨_,rfl⟩
    rw[hb,show may [[79,82,68,69,82]] s10=s11 by rw[may,if_pos hb,hs11]] at C10
    have HB10:=hidp hb
    clear hb
    have E11:=hidp hs11
    clear hs11
    go_wp2_with fail
    refine(C10.out).mono ?_
    rintro e w11 ⟨rfl,G11⟩
    have R11:=hidp (R10.out.step G11.out)
    clear C10
    obtain⟨s12,hs12⟩:∃z,z=must [[66,89]] s11:=⟨_,rfl⟩
    have C11:=hidp (R11.out.toRB.must (ts:=[[66,89]]) (C:=#[.string ⟨#[66,89]⟩]) (n:=1) rfl rfl (by decide))
    rw[←hs12] at C11
    have E12:=hidp hs12
    clear hs12
    go_wp2_with fail
    refine(C11.out).mono ?_
    rintro e w12 ⟨rfl,G12⟩
    have R12:=hidp (R11.out.step G12.out)
    clear C11
    obtain⟨s13,hs13⟩:∃z,z=name [] s12:=⟨_,rfl⟩
    obtain⟨fd,hfd⟩:∃z,z=nameT [] s12:=⟨_,rfl⟩
    have C12:=hidp (R12.out.toRB.name)
    rw[←hs13,←hfd] at C12
    have Efd:=hidp hfd
    clear hfd
    have E13:=hidp hs13
    clear hs13
    go_wp2_with fail
    refine(C12.out).mono ?_
    rintro e w13 ⟨rfl,G13⟩
    have R13:=hidp (R12.out.step G13.out)
    clear C12
    obtain⟨xc,xf,xl⟩:=R13.out.cells
    have c0:w13.cell? ⟨xb,0,none⟩=some (.int .u8 6):=xc 0 _ rfl
    have c1:w13.cell? ⟨xb,1,none⟩=some (.string (Lx.bs nm)):=xc 1 _ rfl
    have c2:w13.cell? ⟨xb,2,none⟩=some (.string ⟨#[]⟩):=xc 2 _ rfl
    have c3:w13.cell? ⟨xb,3,none⟩=some (.slice none 0 0):=xc 3 _ rfl
    have c4:w13.cell? ⟨xb,4,none⟩=some (.slice wra wrl.length wrc):=xc 4 _ rfl
    have c5:w13.cell? ⟨xb,5,none⟩=some (.bool false):=xc 5 _ rfl
    have c6:w13.cell? ⟨xb,6,none⟩=some (.bool false):=xc 6 _ rfl
    clear xc
    go_upto_region 15 with fail
    obtain⟨w14,hw14⟩:∃z,z=w13.setCell ⟨xb,2,none⟩ (.string (Lx.bs fd)):=⟨_,rfl⟩
    have R14:Hid (SL W0 W pb rb xb s13 ⟨6,nm,fd,[],wrl,false,false⟩ (.slice none 0 0) (.slice wra wrl.length wrc) w14):=by rw[hw14];exact R13.out.set rfl R13.out.its R13.out.exp
    rw[←hw14]
    clear hw14 c0 c1 c2 c3 c4 c5 c6 xf xl
    obtain⟨s14,hs14⟩:∃z,z=s13:=⟨_,rfl⟩
    rw[←hs14] at R14
    have E14:=hidp hs14
    clear hs14
    obtain⟨s15,hs15⟩:∃z,z=may [[68,69,83,67]] s14:=⟨_,rfl⟩
    obtain⟨ds,hds⟩:∃z,z=is [[68,69,83,67]] s14:=⟨_,rfl⟩
    have C14:=hidp (R14.out.toRB.may (ts:=[[68,69,83,67]]) (C:=#[.string ⟨#[68,69,83,67]⟩]) (n:=1) rfl rfl (by decide))
    rw[←hs15,←hds] at C14
    have Eds:=hidp hds
    clear hds
    have E15:=hidp hs15
    clear hs15
    go_wp2_with fail
    refine(C14.out).mono ?_
    rintro e w15 ⟨rfl,G15⟩
    have R15:=hidp (R14.out.step G15.out)
    clear C14
    obtain⟨xc,xf,xl⟩:=R15.out.cells
    have c0:w15.cell? ⟨xb,0,none⟩=some (.int .u8 6):=xc 0 _ rfl
    have c1:w15.cell? ⟨xb,1,none⟩=some (.string (Lx.bs nm)):=xc 1 _ rfl
    have c2:w15.cell? ⟨xb,2,none⟩=some (.string (Lx.bs fd)):=xc 2 _ rfl
    have c3:w15.cell? ⟨xb,3,none⟩=some (.slice none 0 0):=xc 3 _ rfl
    have c4:w15.cell? ⟨xb,4,none⟩=some (.slice wra wrl.length wrc):=xc 4 _ rfl
    have c5:w15.cell? ⟨xb,5,none⟩=some (.bool false):=xc 5 _ rfl
    have c6:w15.cell? ⟨xb,6,none⟩=some (.bool false):=xc 6 _ rfl
    clear xc
    go_upto_region 16 with fail
    obtain⟨w16,hw16⟩:∃z,z=w15.setCell ⟨xb,6,none⟩ (.bool ds):=⟨_,rfl⟩
    have R16:Hid (SL W0 W pb rb xb s15 ⟨6,nm,fd,[],wrl,false,ds⟩ (.slice none 0 0) (.slice wra wrl.length wrc) w16):=by rw[hw16];exact R15.out.set rfl R15.out.its R15.out.exp
    rw[←hw16]
    clear hw16 c0 c1 c2 c3 c4 c5 c6 xf xl
    obtain⟨s16,hs16⟩:∃z,z=s15:=⟨_,rfl⟩
    rw[←hs16] at R16
    have E16:=hidp hs16
    clear hs16
    have EO:Hid (orderB s10=true∧orderS s10=s16∧nameT [] (byS s10)=fd∧descB s10=ds):=by
     show _∧_∧_∧_
     have hb:=HBO.out
     have e1:byS s10=s12:=by rw[byS,E12.out,E11.out]
     refine⟨hb,?_,?_,?_⟩
     ·rw[orderS,orderB,if_pos hb,e1,E16.out,E15.out,E14.out,E13.out]
     ·rw[e1,Efd.out]
     ·rw[descB,e1,Eds.out,E14.out,E13.out]
    obtain⟨xc,xf,xl⟩:=R16.out.cells
    have c0:w16.cell? ⟨xb,0,none⟩=some (.int .u8 6):=xc 0 _ rfl
    have c1:w16.cell? ⟨xb,1,none⟩=some (.string (Lx.bs nm)):=xc 1 _ rfl
    have c2:w16.cell? ⟨xb,2,none⟩=some (.string (Lx.bs fd)):=xc 2 _ rfl
    have c3:w16.cell? ⟨xb,3,none⟩=some (.slice none 0 0):=xc 3 _ rfl
    have c4:w16.cell? ⟨xb,4,none⟩=some (.slice wra wrl.length wrc):=xc 4 _ rfl
    have c5:w16.cell? ⟨xb,5,none⟩=some (.bool false):=xc 5 _ rfl
    have c6:w16.cell? ⟨xb,6,none⟩=some (.bool ds):=xc 6 _ rfl
    clear xc
    obtain⟨rc,rf,rl⟩:=R16.out.toRB.cells
    have d0:=rc 0 _ rfl
    have d1:=rc 1 _ rfl
    have d2:=rc 2 _ rfl
    have d3:=rc 3 _ rfl
    have d4:=rc 4 _ rfl
    have d5:=rc 5 _ rfl
    have d6:=rc 6 _ rfl
    clear rc
    have n1:¬rb=xb:=by have:=R16.out.lt;omega
    have n2:¬xb=rb:=by have:=R16.out.lt;omega
    have HQ:Hid (zaP s=s16∧zaO s=⟨6,nm,fd,[],wrl,false,ds⟩):=by
     show _∧_
     have ea:zaS s=s4:=by rw[zaS,←E1.out,←E2.out,EA.out.1,E4.out]
     have ex:itemsX s=[]:=by rw[←E1.out,←E2.out];exact EA.out.2
     have eh:histB s4=false:=EH.out.1
     have eh2:histS s4=s6:=EH.out.2
     have ef:fromS s4=s8:=EF.out
     have ew:whereS s8=s10∧whereE s8=wrl:=EW.out
     refine⟨?_,?_⟩
     ·rw[zaP,ea,ef,ew.1,EO.out.2.1]
     ·rw[zaO,ea,ef,ew.1,ew.2,ex,eh,eh2,EO.out.1,←Enm.out,EO.out.2.2.1,EO.out.2.2.2]
      rfl
    have FIN:Hid ((w16.setCells rb 0 [.int .u8 6,.string (Lx.bs nm),.string (Lx.bs fd),.slice none 0 0,.slice wra wrl.length wrc,.bool false,.bool ds]).heap[rb]?=some (.cells #[.int .u8 6,.string (Lx.bs nm),.string (Lx.bs fd),.slice none 0 0,.slice wra wrl.length wrc,.bool false,.bool ds] 26 (0,0))∧PB W0 W pb (zaP s) (w16.setCells rb 0 [.int .u8 6,.string (Lx.bs nm),.string (Lx.bs fd),.slice none 0 0,.slice wra wrl.length wrc,.bool false,.bool ds])∧StV W0 (w16.setCells rb 0 [.int .u8 6,.string (Lx.bs nm),.string (Lx.bs fd),.slice none 0 0,.slice wra wrl.length wrc,.bool false,.bool ds]) (.agg #[.int .u8 6,.string (Lx.bs nm),.string (Lx.bs fd),.slice none 0 0,.slice wra wrl.length wrc,.bool false,.bool ds]) (zaO s)):=by
     rw[HQ.out.1,HQ.out.2]
     exact R16.out.fin
    go_wp2
    exact bodyPost_ret (v:=.agg #[.int .u8 6,.string (Lx.bs nm),.string (Lx.bs fd),.slice none 0 0,.slice wra wrl.length wrc,.bool false,.bool ds]) (results_cell_row rfl _ _ rb 26 #[.int .u8 6,.string (Lx.bs nm),.string (Lx.bs fd),.slice none 0 0,.slice wra wrl.length wrc,.bool false,.bool ds] (0,0) _ rfl FIN.out.1 Tryz.underlying26 rfl (by kernel_rfl)) rfl ⟨_,rfl,FIN.out.2⟩
  ·have HBH:=hidp hb
   have C4:=hidp (R4.out.toRB.may (ts:=[[72,73,83,84,79,82,89]]) (C:=#[.string ⟨#[72,73,83,84,79,82,89]⟩]) (n:=1) rfl rfl (by decide))
   obtain⟨s5,hs5⟩:∃z,z=next s4:=⟨_,rfl⟩
   rw[hb,show may [[72,73,83,84,79,82,89]] s4=s5 by rw[may,if_pos hb,hs5]] at C4
   have HB4:=hidp hb
   clear hb
   have E5:=hidp hs5
   clear hs5
   go_wp2_with fail
   refine(C4.out).mono ?_
   rintro e w5 ⟨rfl,G5⟩
   have R5:=hidp (R4.out.step G5.out)
   clear C4
   obtain⟨xc,xf,xl⟩:=R5.out.cells
   have c0:w5.cell? ⟨xb,0,none⟩=some (.int .u8 6):=xc 0 _ rfl
   have c1:w5.cell? ⟨xb,1,none⟩=some (.string ⟨#[]⟩):=xc 1 _ rfl
   have c2:w5.cell? ⟨xb,2,none⟩=some (.string ⟨#[]⟩):=xc 2 _ rfl
   have c3:w5.cell? ⟨xb,3,none⟩=some (.slice none 0 0):=xc 3 _ rfl
   have c4:w5.cell? ⟨xb,4,none⟩=some (.slice none 0 0):=xc 4 _ rfl
   have c5:w5.cell? ⟨xb,5,none⟩=some (.bool false):=xc 5 _ rfl
   have c6:w5.cell? ⟨xb,6,none⟩=some (.bool false):=xc 6 _ rfl
   clear xc
   go_upto_region 6 with fail
   obtain⟨w6,hw6⟩:∃z,z=w5.setCell ⟨xb,5,none⟩ (.bool true):=⟨_,rfl⟩
   have R6:Hid (SL W0 W pb rb xb s5 ⟨6,[],[],[],[],true,false⟩ (.slice none 0 0) (.slice none 0 0) w6):=by rw[hw6];exact R5.out.set rfl R5.out.its R5.out.exp
   rw[←hw6]
   clear hw6 c0 c1 c2 c3 c4 c5 c6 xf xl
   obtain⟨s6,hs6⟩:∃z,z=s5:=⟨_,rfl⟩
   rw[←hs6] at R6
   have E6:=hidp hs6
   clear hs6
   obtain⟨xc,xf,xl⟩:=R6.out.cells
   have c0:w6.cell? ⟨xb,0,none⟩=some (.int .u8 6):=xc 0 _ rfl
   have c1:w6.cell? ⟨xb,1,none⟩=some (.string ⟨#[]⟩):=xc 1 _ rfl
   have c2:w6.cell? ⟨xb,2,none⟩=some (.string ⟨#[]⟩):=xc 2 _ rfl
   have c3:w6.cell? ⟨xb,3,none⟩=some (.slice none 0 0):=xc 3 _ rfl
   have c4:w6.cell? ⟨xb,4,none⟩=some (.slice none 0 0):=xc 4 _ rfl
   have c5:w6.cell? ⟨xb,5,none⟩=some (.bool true):=xc 5 _ rfl
   have c6:w6.cell? ⟨xb,6,none⟩=some (.bool false):=xc 6 _ rfl
   clear xc
   obtain⟨s7,hs7⟩:∃z,z=must [[40]] s6:=⟨_,rfl⟩
   have C6:=hidp (R6.out.toRB.must (ts:=[[40]]) (C:=#[.string ⟨#[40]⟩]) (n:=1) rfl rfl (by decide))
   rw[←hs7] at C6
   have E7:=hidp hs7
   clear hs7
   go_wp2_with fail
   refine(C6.out).mono ?_
   rintro e w7 ⟨rfl,G7⟩
   have R7:=hidp (R6.out.step G7.out)
   clear C6
   clear c0 c1 c2 c3 c4 c5 c6 xf xl
   have EH:Hid (histB s4=true∧histS s4=s7):=by
    show _∧_
    have hb:=HBH.out
    exact⟨hb,by rw[histS,histB,if_pos hb,E7.out,E6.out,E5.out]⟩
   obtain⟨s8,hs8⟩:∃z,z=name [] s7:=⟨_,rfl⟩
   obtain⟨nm,hnm⟩:∃z,z=nameT [] s7:=⟨_,rfl⟩
   have C7:=hidp (R7.out.toRB.name)
   rw[←hs8,←hnm] at C7
   have Enm:=hidp hnm
   clear hnm
   have E8:=hidp hs8
   clear hs8
   go_wp2_with fail
   refine(C7.out).mono ?_
   rintro e w8 ⟨rfl,G8⟩
   have R8:=hidp (R7.out.step G8.out)
   clear C7
   obtain⟨xc,xf,xl⟩:=R8.out.cells
   have c0:w8.cell? ⟨xb,0,none⟩=some (.int .u8 6):=xc 0 _ rfl
   have c1:w8.cell? ⟨xb,1,none⟩=some (.string ⟨#[]⟩):=xc 1 _ rfl
   have c2:w8.cell? ⟨xb,2,none⟩=some (.string ⟨#[]⟩):=xc 2 _ rfl
   have c3:w8.cell? ⟨xb,3,none⟩=some (.slice none 0 0):=xc 3 _ rfl
   have c4:w8.cell? ⟨xb,4,none⟩=some (.slice none 0 0):=xc 4 _ rfl
   have c5:w8.cell? ⟨xb,5,none⟩=some (.bool true):=xc 5 _ rfl
   have c6:w8.cell? ⟨xb,6,none⟩=some (.bool false):=xc 6 _ rfl
   clear xc
   go_upto_region 9 with fail
   obtain⟨w9,hw9⟩:∃z,z=w8.setCell ⟨xb,1,none⟩ (.string (Lx.bs nm)):=⟨_,rfl⟩
   have R9:Hid (SL W0 W pb rb xb s8 ⟨6,nm,[],[],[],true,false⟩ (.slice none 0 0) (.slice none 0 0) w9):=by rw[hw9];exact R8.out.set rfl R8.out.its R8.out.exp
   rw[←hw9]
   clear hw9 c0 c1 c2 c3 c4 c5 c6 xf xl
   obtain⟨s9,hs9⟩:∃z,z=s8:=⟨_,rfl⟩
   rw[←hs9] at R9
   have E9:=hidp hs9
   clear hs9
   obtain⟨xc,xf,xl⟩:=R9.out.cells
   have c0:w9.cell? ⟨xb,0,none⟩=some (.int .u8 6):=xc 0 _ rfl
   have c1:w9.cell? ⟨xb,1,none⟩=some (.string (Lx.bs nm)):=xc 1 _ rfl
   have c2:w9.cell? ⟨xb,2,none⟩=some (.string ⟨#[]⟩):=xc 2 _ rfl
   have c3:w9.cell? ⟨xb,3,none⟩=some (.slice none 0 0):=xc 3 _ rfl
   have c4:w9.cell? ⟨xb,4,none⟩=some (.slice none 0 0):=xc 4 _ rfl
   have c5:w9.cell? ⟨xb,5,none⟩=some (.bool true):=xc 5 _ rfl
   have c6:w9.cell? ⟨xb,6,none⟩=some (.bool false):=xc 6 _ rfl
   clear xc
   obtain⟨s10,hs10⟩:∃z,z=must [[41]] s9:=⟨_,rfl⟩
   have C9:=hidp (R9.out.toRB.must (ts:=[[41]]) (C:=#[.string ⟨#[41]⟩]) (n:=1) rfl rfl (by decide))
   rw[←hs10] at C9
   have E10:=hidp hs10
   clear hs10
   go_wp2_with fail
   refine(C9.out).mono ?_
   rintro e w10 ⟨rfl,G10⟩
   have R10:=hidp (R9.out.step G10.out)
   clear C9
   clear c0 c1 c2 c3 c4 c5 c6 xf xl
   have EF:Hid (fromS s4=s10):=by
    show _=_
    rw[fromS,EH.out.1,EH.out.2,if_pos rfl,E10.out,E9.out,E8.out]
   obtain⟨s11,hs11⟩:∃z,z=whereS s10:=⟨_,rfl⟩
   obtain⟨wrl,hwr⟩:∃z,z=whereE s10:=⟨_,rfl⟩
   have C10:=hidp (R10.out.toRB.wher HO.out.1 HO.out.2)
   rw[←hwr,←hs11] at C10
   have Ewr:=hidp hwr
   clear hwr
   have E11:=hidp hs11
   clear hs11
   go_wp2_with fail
   refine(C10.out).mono ?_
   rintro e w11 ⟨wra,wrc,rfl,X11⟩
   have G11:=hidp X11.out.1
   have R11:=hidp (R10.out.step G11.out)
   clear C10
   have EW:Hid (whereS s10=s11∧whereE s10=wrl):=⟨E11.out.symm,Ewr.out.symm⟩
   obtain⟨xc,xf,xl⟩:=R11.out.cells
   have c0:w11.cell? ⟨xb,0,none⟩=some (.int .u8 6):=xc 0 _ rfl
   have c1:w11.cell? ⟨xb,1,none⟩=some (.string (Lx.bs nm)):=xc 1 _ rfl
   have c2:w11.cell? ⟨xb,2,none⟩=some (.string ⟨#[]⟩):=xc 2 _ rfl
   have c3:w11.cell? ⟨xb,3,none⟩=some (.slice none 0 0):=xc 3 _ rfl
   have c4:w11.cell? ⟨xb,4,none⟩=some (.slice none 0 0):=xc 4 _ rfl
   have c5:w11.cell? ⟨xb,5,none⟩=some (.bool true):=xc 5 _ rfl
   have c6:w11.cell? ⟨xb,6,none⟩=some (.bool false):=xc 6 _ rfl
   clear xc
   go_upto_region 12 with fail
   obtain⟨w12,hw12⟩:∃z,z=w11.setCell ⟨xb,4,none⟩ (.slice wra wrl.length wrc):=⟨_,rfl⟩
   have R12:Hid (SL W0 W pb rb xb s11 ⟨6,nm,[],[],wrl,true,false⟩ (.slice none 0 0) (.slice wra wrl.length wrc) w12):=by rw[hw12];exact R11.out.set rfl R11.out.its X11.out.2
   rw[←hw12]
   clear hw12 c0 c1 c2 c3 c4 c5 c6 xf xl
   obtain⟨s12,hs12⟩:∃z,z=s11:=⟨_,rfl⟩
   rw[←hs12] at R12
   have E12:=hidp hs12
   clear hs12
   have EW2:Hid (whereS s10=s12∧whereE s10=wrl):=⟨EW.out.1.trans E12.out.symm,EW.out.2⟩
   clear EW
   have EW:=EW2
   clear EW2
   cases hb:is [[79,82,68,69,82]] s12
   ·have HBO:=hidp hb
    have C12:=hidp (R12.out.toRB.may (ts:=[[79,82,68,69,82]]) (C:=#[.string ⟨#[79,82,68,69,82]⟩]) (n:=1) rfl rfl (by decide))
    obtain⟨s13,hs13⟩:∃z,z=s12:=⟨_,rfl⟩
    rw[hb,show may [[79,82,68,69,82]] s12=s13 by rw[may,hb,hs13];rfl] at C12
    have HB12:=hidp hb
    clear hb
    have E13:=hidp hs13
    clear hs13
    go_wp2_with fail
    refine(C12.out).mono ?_
    rintro e w13 ⟨rfl,G13⟩
    have R13:=hidp (R12.out.step G13.out)
    clear C12
    have EO:Hid (orderB s12=false∧orderS s12=s13):=by
     show _∧_
     have hb:=HBO.out
     exact⟨hb,by rw[orderS,orderB,hb,E13.out];rfl⟩
    obtain⟨xc,xf,xl⟩:=R13.out.cells
    have c0:w13.cell? ⟨xb,0,none⟩=some (.int .u8 6):=xc 0 _ rfl
    have c1:w13.cell? ⟨xb,1,none⟩=some (.string (Lx.bs nm)):=xc 1 _ rfl
    have c2:w13.cell? ⟨xb,2,none⟩=some (.string ⟨#[]⟩):=xc 2 _ rfl
    have c3:w13.cell? ⟨xb,3,none⟩=some (.slice none 0 0):=xc 3 _ rfl
    have c4:w13.cell? ⟨xb,4,none⟩=some (.slice wra wrl.length wrc):=xc 4 _ rfl
    have c5:w13.cell? ⟨xb,5,none⟩=some (.bool true):=xc 5 _ rfl
    have c6:w13.cell? ⟨xb,6,none⟩=some (.bool false):=xc 6 _ rfl
    clear xc
    obtain⟨rc,rf,rl⟩:=R13.out.toRB.cells
    have d0:=rc 0 _ rfl
    have d1:=rc 1 _ rfl
    have d2:=rc 2 _ rfl
    have d3:=rc 3 _ rfl
    have d4:=rc 4 _ rfl
    have d5:=rc 5 _ rfl
    have d6:=rc 6 _ rfl
    clear rc
    have n1:¬rb=xb:=by have:=R13.out.lt;omega
    have n2:¬xb=rb:=by have:=R13.out.lt;omega
    have HQ:Hid (zaP s=s13∧zaO s=⟨6,nm,[],[],wrl,true,false⟩):=by
     show _∧_
     have ea:zaS s=s4:=by rw[zaS,←E1.out,←E2.out,EA.out.1,E4.out]
     have ex:itemsX s=[]:=by rw[←E1.out,←E2.out];exact EA.out.2
     have eh:histB s4=true:=EH.out.1
     have eh2:histS s4=s7:=EH.out.2
     have ef:fromS s4=s10:=EF.out
     have ew:whereS s10=s12∧whereE s10=wrl:=EW.out
     refine⟨?_,?_⟩
     ·rw[zaP,ea,ef,ew.1,EO.out.2]
     ·rw[zaO,ea,ef,ew.1,ew.2,ex,eh,eh2,EO.out.1,←Enm.out]
      rfl
    have FIN:Hid ((w13.setCells rb 0 [.int .u8 6,.string (Lx.bs nm),.string ⟨#[]⟩,.slice none 0 0,.slice wra wrl.length wrc,.bool true,.bool false]).heap[rb]?=some (.cells #[.int .u8 6,.string (Lx.bs nm),.string ⟨#[]⟩,.slice none 0 0,.slice wra wrl.length wrc,.bool true,.bool false] 26 (0,0))∧PB W0 W pb (zaP s) (w13.setCells rb 0 [.int .u8 6,.string (Lx.bs nm),.string ⟨#[]⟩,.slice none 0 0,.slice wra wrl.length wrc,.bool true,.bool false])∧StV W0 (w13.setCells rb 0 [.int .u8 6,.string (Lx.bs nm),.string ⟨#[]⟩,.slice none 0 0,.slice wra wrl.length wrc,.bool true,.bool false]) (.agg #[.int .u8 6,.string (Lx.bs nm),.string ⟨#[]⟩,.slice none 0 0,.slice wra wrl.length wrc,.bool true,.bool false]) (zaO s)):=by
     rw[HQ.out.1,HQ.out.2]
     exact R13.out.fin
    go_wp2
    exact bodyPost_ret (v:=.agg #[.int .u8 6,.string (Lx.bs nm),.string ⟨#[]⟩,.slice none 0 0,.slice wra wrl.length wrc,.bool true,.bool false]) (results_cell_row rfl _ _ rb 26 #[.int .u8 6,.string (Lx.bs nm),.string ⟨#[]⟩,.slice none 0 0,.slice wra wrl.length wrc,.bool true,.bool false] (0,0) _ rfl FIN.out.1 Tryz.underlying26 rfl (by kernel_rfl)) rfl ⟨_,rfl,FIN.out.2⟩
   ·have HBO:=hidp hb
    have C12:=hidp (R12.out.toRB.may (ts:=[[79,82,68,69,82]]) (C:=#[.string ⟨#[79,82,68,69,82]⟩]) (n:=1) rfl rfl (by decide))
    obtain⟨s13,hs13⟩:∃z,z=next s12:=⟨_,rfl⟩
    rw[hb,show may [[79,82,68,69,82]] s12=s13 by rw[may,if_pos hb,hs13]] at C12
    have HB12:=hidp hb
    clear hb
    have E13:=hidp hs13
    clear hs13
    go_wp2_with fail
    refine(C12.out).mono ?_
    rintro e w13 ⟨rfl,G13⟩
    have R13:=hidp (R12.out.step G13.out)
    clear C12
    obtain⟨s14,hs14⟩:∃z,z=must [[66,89]] s13:=⟨_,rfl⟩
    have C13:=hidp (R13.out.toRB.must (ts:=[[66,89]]) (C:=#[.string ⟨#[66,89]⟩]) (n:=1) rfl rfl (by decide))
    rw[←hs14] at C13
    have E14:=hidp hs14
    clear hs14
    go_wp2_with fail
    refine(C13.out).mono ?_
    rintro e w14 ⟨rfl,G14⟩
    have R14:=hidp (R13.out.step G14.out)
    clear C13
    obtain⟨s15,hs15⟩:∃z,z=name [] s14:=⟨_,rfl⟩
    obtain⟨fd,hfd⟩:∃z,z=nameT [] s14:=⟨_,rfl⟩
    have C14:=hidp (R14.out.toRB.name)
    rw[←hs15,←hfd] at C14
    have Efd:=hidp hfd
    clear hfd
    have E15:=hidp hs15
    clear hs15
    go_wp2_with fail
    refine(C14.out).mono ?_
    rintro e w15 ⟨rfl,G15⟩
    have R15:=hidp (R14.out.step G15.out)
    clear C14
    obtain⟨xc,xf,xl⟩:=R15.out.cells
    have c0:w15.cell? ⟨xb,0,none⟩=some (.int .u8 6):=xc 0 _ rfl
    have c1:w15.cell? ⟨xb,1,none⟩=some (.string (Lx.bs nm)):=xc 1 _ rfl
    have c2:w15.cell? ⟨xb,2,none⟩=some (.string ⟨#[]⟩):=xc 2 _ rfl
    have c3:w15.cell? ⟨xb,3,none⟩=some (.slice none 0 0):=xc 3 _ rfl
    have c4:w15.cell? ⟨xb,4,none⟩=some (.slice wra wrl.length wrc):=xc 4 _ rfl
    have c5:w15.cell? ⟨xb,5,none⟩=some (.bool true):=xc 5 _ rfl
    have c6:w15.cell? ⟨xb,6,none⟩=some (.bool false):=xc 6 _ rfl
    clear xc
    go_upto_region 15 with fail
    obtain⟨w16,hw16⟩:∃z,z=w15.setCell ⟨xb,2,none⟩ (.string (Lx.bs fd)):=⟨_,rfl⟩
    have R16:Hid (SL W0 W pb rb xb s15 ⟨6,nm,fd,[],wrl,true,false⟩ (.slice none 0 0) (.slice wra wrl.length wrc) w16):=by rw[hw16];exact R15.out.set rfl R15.out.its R15.out.exp
    rw[←hw16]
    clear hw16 c0 c1 c2 c3 c4 c5 c6 xf xl
    obtain⟨s16,hs16⟩:∃z,z=s15:=⟨_,rfl⟩
    rw[←hs16] at R16
    have E16:=hidp hs16
    clear hs16
    obtain⟨s17,hs17⟩:∃z,z=may [[68,69,83,67]] s16:=⟨_,rfl⟩
    obtain⟨ds,hds⟩:∃z,z=is [[68,69,83,67]] s16:=⟨_,rfl⟩
    have C16:=hidp (R16.out.toRB.may (ts:=[[68,69,83,67]]) (C:=#[.string ⟨#[68,69,83,67]⟩]) (n:=1) rfl rfl (by decide))
    rw[←hs17,←hds] at C16
    have Eds:=hidp hds
    clear hds
    have E17:=hidp hs17
    clear hs17
    go_wp2_with fail
    refine(C16.out).mono ?_
    rintro e w17 ⟨rfl,G17⟩
    have R17:=hidp (R16.out.step G17.out)
    clear C16
    obtain⟨xc,xf,xl⟩:=R17.out.cells
    have c0:w17.cell? ⟨xb,0,none⟩=some (.int .u8 6):=xc 0 _ rfl
    have c1:w17.cell? ⟨xb,1,none⟩=some (.string (Lx.bs nm)):=xc 1 _ rfl
    have c2:w17.cell? ⟨xb,2,none⟩=some (.string (Lx.bs fd)):=xc 2 _ rfl
    have c3:w17.cell? ⟨xb,3,none⟩=some (.slice none 0 0):=xc 3 _ rfl
    have c4:w17.cell? ⟨xb,4,none⟩=some (.slice wra wrl.length wrc):=xc 4 _ rfl
    have c5:w17.cell? ⟨xb,5,none⟩=some (.bool true):=xc 5 _ rfl
    have c6:w17.cell? ⟨xb,6,none⟩=some (.bool false):=xc 6 _ rfl
    clear xc
    go_upto_region 16 with fail
    obtain⟨w18,hw18⟩:∃z,z=w17.setCell ⟨xb,6,none⟩ (.bool ds):=⟨_,rfl⟩
    have R18:Hid (SL W0 W pb rb xb s17 ⟨6,nm,fd,[],wrl,true,ds⟩ (.slice none 0 0) (.slice wra wrl.length wrc) w18):=by rw[hw18];exact R17.out.set rfl R17.out.its R17.out.exp
    rw[←hw18]
    clear hw18 c0 c1 c2 c3 c4 c5 c6 xf xl
    obtain⟨s18,hs18⟩:∃z,z=s17:=⟨_,rfl⟩
    rw[←hs18] at R18
    have E18:=hidp hs18
    clear hs18
    have EO:Hid (orderB s12=true∧orderS s12=s18∧nameT [] (byS s12)=fd∧descB s12=ds):=by
     show _∧_∧_∧_
     have hb:=HBO.out
     have e1:byS s12=s14:=by rw[byS,E14.out,E13.out]
     refine⟨hb,?_,?_,?_⟩
     ·rw[orderS,orderB,if_pos hb,e1,E18.out,E17.out,E16.out,E15.out]
     ·rw[e1,Efd.out]
     ·rw[descB,e1,Eds.out,E16.out,E15.out]
    obtain⟨xc,xf,xl⟩:=R18.out.cells
    have c0:w18.cell? ⟨xb,0,none⟩=some (.int .u8 6):=xc 0 _ rfl
    have c1:w18.cell? ⟨xb,1,none⟩=some (.string (Lx.bs nm)):=xc 1 _ rfl
    have c2:w18.cell? ⟨xb,2,none⟩=some (.string (Lx.bs fd)):=xc 2 _ rfl
    have c3:w18.cell? ⟨xb,3,none⟩=some (.slice none 0 0):=xc 3 _ rfl
    have c4:w18.cell? ⟨xb,4,none⟩=some (.slice wra wrl.length wrc):=xc 4 _ rfl
    have c5:w18.cell? ⟨xb,5,none⟩=some (.bool true):=xc 5 _ rfl
    have c6:w18.cell? ⟨xb,6,none⟩=some (.bool ds):=xc 6 _ rfl
    clear xc
    obtain⟨rc,rf,rl⟩:=R18.out.toRB.cells
    have d0:=rc 0 _ rfl
    have d1:=rc 1 _ rfl
    have d2:=rc 2 _ rfl
    have d3:=rc 3 _ rfl
    have d4:=rc 4 _ rfl
    have d5:=rc 5 _ rfl
    have d6:=rc 6 _ rfl
    clear rc
    have n1:¬rb=xb:=by have:=R18.out.lt;omega
    have n2:¬xb=rb:=by have:=R18.out.lt;omega
    have HQ:Hid (zaP s=s18∧zaO s=⟨6,nm,fd,[],wrl,true,ds⟩):=by
     show _∧_
     have ea:zaS s=s4:=by rw[zaS,←E1.out,←E2.out,EA.out.1,E4.out]
     have ex:itemsX s=[]:=by rw[←E1.out,←E2.out];exact EA.out.2
     have eh:histB s4=true:=EH.out.1
     have eh2:histS s4=s7:=EH.out.2
     have ef:fromS s4=s10:=EF.out
     have ew:whereS s10=s12∧whereE s10=wrl:=EW.out
     refine⟨?_,?_⟩
     ·rw[zaP,ea,ef,ew.1,EO.out.2.1]
     ·rw[zaO,ea,ef,ew.1,ew.2,ex,eh,eh2,EO.out.1,←Enm.out,EO.out.2.2.1,EO.out.2.2.2]
      rfl
    have FIN:Hid ((w18.setCells rb 0 [.int .u8 6,.string (Lx.bs nm),.string (Lx.bs fd),.slice none 0 0,.slice wra wrl.length wrc,.bool true,.bool ds]).heap[rb]?=some (.cells #[.int .u8 6,.string (Lx.bs nm),.string (Lx.bs fd),.slice none 0 0,.slice wra wrl.length wrc,.bool true,.bool ds] 26 (0,0))∧PB W0 W pb (zaP s) (w18.setCells rb 0 [.int .u8 6,.string (Lx.bs nm),.string (Lx.bs fd),.slice none 0 0,.slice wra wrl.length wrc,.bool true,.bool ds])∧StV W0 (w18.setCells rb 0 [.int .u8 6,.string (Lx.bs nm),.string (Lx.bs fd),.slice none 0 0,.slice wra wrl.length wrc,.bool true,.bool ds]) (.agg #[.int .u8 6,.string (Lx.bs nm),.string (Lx.bs fd),.slice none 0 0,.slice wra wrl.length wrc,.bool true,.bool ds]) (zaO s)):=by
     rw[HQ.out.1,HQ.out.2]
     exact R18.out.fin
    go_wp2
    exact bodyPost_ret (v:=.agg #[.int .u8 6,.string (Lx.bs nm),.string (Lx.bs fd),.slice none 0 0,.slice wra wrl.length wrc,.bool true,.bool ds]) (results_cell_row rfl _ _ rb 26 #[.int .u8 6,.string (Lx.bs nm),.string (Lx.bs fd),.slice none 0 0,.slice wra wrl.length wrc,.bool true,.bool ds] (0,0) _ rfl FIN.out.1 Tryz.underlying26 rfl (by kernel_rfl)) rfl ⟨_,rfl,FIN.out.2⟩
end
end Ps
end Go.Proofs.YtfhkaffakniioaaGreatDoor
