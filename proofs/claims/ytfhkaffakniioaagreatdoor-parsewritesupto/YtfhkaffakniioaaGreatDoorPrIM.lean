/- Several texts, joined. -/
import Derived.Test.YtfhkaffakniioaaGreatDoorQ33M
set_option maxHeartbeats 8000000
set_option maxRecDepth 100000
namespace Go.Proofs.YtfhkaffakniioaaGreatDoor
open Go.RowKit
namespace Ps
attribute [local go_sem] zaR
section
variable {W0:World} {pb:Nat} {W:World} {s:S} {sb:Option Nat}
theorem create_c (h:PS W0 W pb s sb):Calls Tryz.prog 71 #[.pointer (some ⟨pb,0,none⟩)] W fun e W'=>∃v,e=.returned v∧Hid (PB W0 W pb (zcD s) W'∧StV W0 W' v (zbU s)):=by
 obtain⟨rb,hrb⟩:∃rb,rb=W.heap.size:=⟨_,rfl⟩
 obtain⟨w1,hw1⟩:∃w1,w1=W.alloc (.cells #[.int .u8 0,.string ⟨#[]⟩,.string ⟨#[]⟩,.slice none 0 0,.slice none 0 0,.bool false,.bool false] 26):=⟨_,rfl⟩
 obtain⟨s1,hs1⟩:∃s1,s1=s:=⟨_,rfl⟩
 have R1:Hid (RB W0 W pb rb s1 w1):=by rw[hs1];exact RB.start h hrb hw1
 have E1:=hidp hs1
 obtain⟨ms,hms⟩:∃ms,ms=Lx.bs (mustT zcA s1):=⟨_,rfl⟩
 obtain⟨s2,hs2⟩:∃z,z=must zcA s1:=⟨_,rfl⟩
 have C1:=hidp (R1.out.must (ts:=zcA) (C:=#[.string ⟨#[84,65,66,76,69]⟩,.string ⟨#[73,78,68,69,88]⟩]) (n:=2) rfl rfl (by decide))
 rw[←hms,←hs2] at C1
 have HM:=hidp hms
 have E2:=hidp hs2
 clear hms hs2
 clear h hs1
 go_enter Tryz.func71,Tryz.ntmps71
 go_upto_region 1 with fail
 rw[←hw1,←hrb]
 clear hw1 hrb
 go_wp2_with fail
 refine(C1.out).mono ?_
 rintro e w2 ⟨rfl,G2⟩
 have R2:=hidp (R1.out.step G2.out)
 clear C1
 by_cases hk:mustT zcA s1=[84,65,66,76,69]
 ·have q:(ms.toList==[84,65,66,76,69])=true:=by rw[HM.out,hk,Lx.bs_toList];rfl
  have HQ:Hid (zcD s=name [] s2∧zbU s=⟨1,nameT [] s2,[],[],[],false,false⟩):=by
   show _∧_
   rw[E2.out]
   exact⟨by rw[zcD,←E1.out,if_pos hk],by rw[zbU,←E1.out,if_pos hk]⟩
  clear hk
  obtain⟨s3,hs3⟩:∃z,z=name [] s2:=⟨_,rfl⟩
  obtain⟨nm,hnm⟩:∃z,z=nameT [] s2:=⟨_,rfl⟩
  have C2:=hidp (R2.out.name)
  rw[←hs3,←hnm] at C2
  have Enm:=hidp hnm
  clear hnm
  have E3:=hidp hs3
  clear hs3
  go_wp2_with fail
  refine(C2.out).mono ?_
  rintro e w3 ⟨rfl,G3⟩
  have R3:=hidp (R2.out.step G3.out)
  clear C2
  obtain⟨rc,rf,rl⟩:=R3.out.cells
  have d0:=rc 0 _ rfl
  have d1:=rc 1 _ rfl
  have d2:=rc 2 _ rfl
  have d3:=rc 3 _ rfl
  have d4:=rc 4 _ rfl
  have d5:=rc 5 _ rfl
  have d6:=rc 6 _ rfl
  clear rc
  have FIN:Hid ((w3.setCells rb 0 [.int .u8 1,.string (Lx.bs nm),.string ⟨#[]⟩,.slice none 0 0,.slice none 0 0,.bool false,.bool false]).heap[rb]?=some (.cells #[.int .u8 1,.string (Lx.bs nm),.string ⟨#[]⟩,.slice none 0 0,.slice none 0 0,.bool false,.bool false] 26 (0,0))∧PB W0 W pb (zcD s) (w3.setCells rb 0 [.int .u8 1,.string (Lx.bs nm),.string ⟨#[]⟩,.slice none 0 0,.slice none 0 0,.bool false,.bool false])∧StV W0 (w3.setCells rb 0 [.int .u8 1,.string (Lx.bs nm),.string ⟨#[]⟩,.slice none 0 0,.slice none 0 0,.bool false,.bool false]) (.agg #[.int .u8 1,.string (Lx.bs nm),.string ⟨#[]⟩,.slice none 0 0,.slice none 0 0,.bool false,.bool false]) (zbU s)):=by
   have f:=R3.out.fin (.int .u8 1) (.string (Lx.bs nm)) (.string ⟨#[]⟩) (.slice none 0 0) (.slice none 0 0) (.bool false) (.bool false)
   refine⟨f.1,?_,?_⟩
   ·rw[HQ.out.1,←E3.out]
    exact f.2.1
   ·rw[HQ.out.2,←Enm.out]
    exact⟨none,0,none,0,rfl,Its.nil _ _ _,RowE.nil _ _⟩
  go_wp2
  exact bodyPost_ret (v:=.agg #[.int .u8 1,.string (Lx.bs nm),.string ⟨#[]⟩,.slice none 0 0,.slice none 0 0,.bool false,.bool false]) (results_cell_row rfl _ _ rb 26 #[.int .u8 1,.string (Lx.bs nm),.string ⟨#[]⟩,.slice none 0 0,.slice none 0 0,.bool false,.bool false] (0,0) _ rfl FIN.out.1 Tryz.underlying26 rfl (by kernel_rfl)) rfl ⟨_,rfl,FIN.out.2⟩
 ·have q:(ms.toList==[84,65,66,76,69])=false:=by rw[HM.out,Lx.bs_toList];simpa using hk
  have HK:=hidp hk
  clear hk
  obtain⟨s3,hs3⟩:∃z,z=must [[79,78]] s2:=⟨_,rfl⟩
  have C2:=hidp (R2.out.must (ts:=[[79,78]]) (C:=#[.string ⟨#[79,78]⟩]) (n:=1) rfl rfl (by decide))
  rw[←hs3] at C2
  have E3:=hidp hs3
  clear hs3
  go_wp2_with fail
  refine(C2.out).mono ?_
  rintro e w3 ⟨rfl,G3⟩
  have R3:=hidp (R2.out.step G3.out)
  clear C2
  obtain⟨s4,hs4⟩:∃z,z=name [] s3:=⟨_,rfl⟩
  obtain⟨tb,htb⟩:∃z,z=nameT [] s3:=⟨_,rfl⟩
  have C3:=hidp (R3.out.name)
  rw[←hs4,←htb] at C3
  have Etb:=hidp htb
  clear htb
  have E4:=hidp hs4
  clear hs4
  go_wp2_with fail
  refine(C3.out).mono ?_
  rintro e w4 ⟨rfl,G4⟩
  have R4:=hidp (R3.out.step G4.out)
  clear C3
  go_upto_region 5 with fail
  obtain⟨u,hu⟩:∃u,u=w4.alloc (.cells #[.int .u8 2,.string (Lx.bs tb),.string ⟨#[]⟩,.slice none 0 0,.slice none 0 0,.bool false,.bool false] 26):=⟨_,rfl⟩
  obtain⟨xb,hxb⟩:∃xb,xb=w4.heap.size:=⟨_,rfl⟩
  have R5:Hid (SL W0 W pb rb xb s4 ⟨2,tb,[],[],[],false,false⟩ (.slice none 0 0) (.slice none 0 0) u):=SL.start R4.out hxb hu rfl (Its.nil _ _ _) (RowE.nil _ _)
  rw[←hu,←hxb]
  clear hu hxb
  obtain⟨s5,hs5⟩:∃s5,s5=s4:=⟨_,rfl⟩
  obtain⟨w5,hw5⟩:∃w5,w5=u:=⟨_,rfl⟩
  rw[←hs5,←hw5] at R5
  rw[←hw5]
  have E5:=hidp hs5
  clear hs5 hw5
  obtain⟨s6,hs6⟩:∃z,z=must [[40]] s5:=⟨_,rfl⟩
  have C5:=hidp (R5.out.toRB.must (ts:=[[40]]) (C:=#[.string ⟨#[40]⟩]) (n:=1) rfl rfl (by decide))
  rw[←hs6] at C5
  have E6:=hidp hs6
  clear hs6
  go_wp2_with fail
  refine(C5.out).mono ?_
  rintro e w6 ⟨rfl,G6⟩
  have R6:=hidp (R5.out.step G6.out)
  clear C5
  obtain⟨s7,hs7⟩:∃z,z=name [] s6:=⟨_,rfl⟩
  obtain⟨fd,hfd⟩:∃z,z=nameT [] s6:=⟨_,rfl⟩
  have C6:=hidp (R6.out.toRB.name)
  rw[←hs7,←hfd] at C6
  have Efd:=hidp hfd
  clear hfd
  have E7:=hidp hs7
  clear hs7
  go_wp2_with fail
  refine(C6.out).mono ?_
  rintro e w7 ⟨rfl,G7⟩
  have R7:=hidp (R6.out.step G7.out)
  clear C6
  obtain⟨xc,xf,xl⟩:=R7.out.cells
  have c0:w7.cell? ⟨xb,0,none⟩=some (.int .u8 2):=xc 0 _ rfl
  have c1:w7.cell? ⟨xb,1,none⟩=some (.string (Lx.bs tb)):=xc 1 _ rfl
  have c2:w7.cell? ⟨xb,2,none⟩=some (.string ⟨#[]⟩):=xc 2 _ rfl
  have c3:w7.cell? ⟨xb,3,none⟩=some (.slice none 0 0):=xc 3 _ rfl
  have c4:w7.cell? ⟨xb,4,none⟩=some (.slice none 0 0):=xc 4 _ rfl
  have c5:w7.cell? ⟨xb,5,none⟩=some (.bool false):=xc 5 _ rfl
  have c6:w7.cell? ⟨xb,6,none⟩=some (.bool false):=xc 6 _ rfl
  clear xc
  go_upto_region 7 with fail
  obtain⟨w8,hw8⟩:∃w8,w8=w7.setCell ⟨xb,2,none⟩ (.string (Lx.bs fd)):=⟨_,rfl⟩
  have R8:Hid (SL W0 W pb rb xb s7 ⟨2,tb,fd,[],[],false,false⟩ (.slice none 0 0) (.slice none 0 0) w8):=by rw[hw8];exact R7.out.set rfl (Its.nil _ _ _) (RowE.nil _ _)
  rw[←hw8]
  clear hw8 c0 c1 c2 c3 c4 c5 c6 xf xl
  obtain⟨s8,hs8⟩:∃s8,s8=s7:=⟨_,rfl⟩
  rw[←hs8] at R8
  have E8:=hidp hs8
  clear hs8
  obtain⟨s9,hs9⟩:∃z,z=must [[41]] s8:=⟨_,rfl⟩
  have C8:=hidp (R8.out.toRB.must (ts:=[[41]]) (C:=#[.string ⟨#[41]⟩]) (n:=1) rfl rfl (by decide))
  rw[←hs9] at C8
  have E9:=hidp hs9
  clear hs9
  go_wp2_with fail
  refine(C8.out).mono ?_
  rintro e w9 ⟨rfl,G9⟩
  have R9:=hidp (R8.out.step G9.out)
  clear C8
  obtain⟨xc,xf,xl⟩:=R9.out.cells
  have c0:w9.cell? ⟨xb,0,none⟩=some (.int .u8 2):=xc 0 _ rfl
  have c1:w9.cell? ⟨xb,1,none⟩=some (.string (Lx.bs tb)):=xc 1 _ rfl
  have c2:w9.cell? ⟨xb,2,none⟩=some (.string (Lx.bs fd)):=xc 2 _ rfl
  have c3:w9.cell? ⟨xb,3,none⟩=some (.slice none 0 0):=xc 3 _ rfl
  have c4:w9.cell? ⟨xb,4,none⟩=some (.slice none 0 0):=xc 4 _ rfl
  have c5:w9.cell? ⟨xb,5,none⟩=some (.bool false):=xc 5 _ rfl
  have c6:w9.cell? ⟨xb,6,none⟩=some (.bool false):=xc 6 _ rfl
  clear xc
  obtain⟨rc,rf,rl⟩:=R9.out.toRB.cells
  have d0:=rc 0 _ rfl
  have d1:=rc 1 _ rfl
  have d2:=rc 2 _ rfl
  have d3:=rc 3 _ rfl
  have d4:=rc 4 _ rfl
  have d5:=rc 5 _ rfl
  have d6:=rc 6 _ rfl
  clear rc
  have n1:¬rb=xb:=by have:=R9.out.lt;omega
  have n2:¬xb=rb:=by have:=R9.out.lt;omega
  have HQ:Hid (zcD s=s9∧zbU s=⟨2,tb,fd,[],[],false,false⟩):=by
   show _∧_
   rw[E9.out,E8.out,E7.out,E6.out,E5.out,E4.out,E3.out,E2.out,Etb.out,Efd.out,E6.out,E5.out,E4.out,E3.out,E2.out,E1.out]
   have hk:=HK.out
   rw[E1.out] at hk
   exact⟨by rw[zcD,if_neg hk],by rw[zbU,if_neg hk]⟩
  have FIN:Hid ((w9.setCells rb 0 [.int .u8 2,.string (Lx.bs tb),.string (Lx.bs fd),.slice none 0 0,.slice none 0 0,.bool false,.bool false]).heap[rb]?=some (.cells #[.int .u8 2,.string (Lx.bs tb),.string (Lx.bs fd),.slice none 0 0,.slice none 0 0,.bool false,.bool false] 26 (0,0))∧PB W0 W pb (zcD s) (w9.setCells rb 0 [.int .u8 2,.string (Lx.bs tb),.string (Lx.bs fd),.slice none 0 0,.slice none 0 0,.bool false,.bool false])∧StV W0 (w9.setCells rb 0 [.int .u8 2,.string (Lx.bs tb),.string (Lx.bs fd),.slice none 0 0,.slice none 0 0,.bool false,.bool false]) (.agg #[.int .u8 2,.string (Lx.bs tb),.string (Lx.bs fd),.slice none 0 0,.slice none 0 0,.bool false,.bool false]) (zbU s)):=by
   rw[HQ.out.1,HQ.out.2]
   exact R9.out.fin
  go_wp2
  exact bodyPost_ret (v:=.agg #[.int .u8 2,.string (Lx.bs tb),.string (Lx.bs fd),.slice none 0 0,.slice none 0 0,.bool false,.bool false]) (results_cell_row rfl _ _ rb 26 #[.int .u8 2,.string (Lx.bs tb),.string (Lx.bs fd),.slice none 0 0,.slice none 0 0,.bool false,.bool false] (0,0) _ rfl FIN.out.1 Tryz.underlying26 rfl (by kernel_rfl)) rfl ⟨_,rfl,FIN.out.2⟩
end
end Ps
end Go.Proofs.YtfhkaffakniioaaGreatDoor
