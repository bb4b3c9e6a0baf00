/- Several texts, joined. -/
import Derived.Test.YtfhkaffakniioaaGreatDoorPrJM
set_option maxHeartbeats 16000000
set_option maxRecDepth 100000
namespace Go.Proofs.YtfhkaffakniioaaGreatDoor
open Go.RowKit
namespace Ps
attribute [local go_sem] zaR
section
variable {W0:World} {pb:Nat} {W:World} {s:S} {sb:Option Nat}
theorem StV.kt {ts:List TypeId} {a b:World} {v:Value} {x:St} (h:StV W0 a v x) (k:KT ts a b) (h1:43 ∉ ts) (h2:29 ∉ ts):StV W0 b v x:=by
 obtain⟨ia,ic,ea,ec,e,i,r⟩:=h
 exact⟨ia,ic,ea,ec,e,i.kt k h1 h2,r.kt k h2⟩
theorem statement_c (h:PS W0 W pb s sb) (hO:HasO W0) (hL:HasL W0):Calls Tryz.prog 40 #[.pointer (some ⟨pb,0,none⟩)] W fun e W'=>∃v,e=.returned v∧Hid (PB W0 W pb (stmtS s) W'∧StV W0 W' v (stmtX s)):=by
 obtain⟨rb,hrb⟩:∃rb,rb=W.heap.size:=⟨_,rfl⟩
 obtain⟨w1,hw1⟩:∃w1,w1=W.alloc (.cells #[.int .u8 0,.string ⟨#[]⟩,.string ⟨#[]⟩,.slice none 0 0,.slice none 0 0,.bool false,.bool false] 26):=⟨_,rfl⟩
 obtain⟨s1,hs1⟩:∃s1,s1=s:=⟨_,rfl⟩
 have R1:Hid (RB W0 W pb rb s1 w1):=by rw[hs1];exact RB.start h hrb hw1
 have E1:=hidp hs1
 have HO:Hid (HasO W0∧HasL W0):=⟨hO,hL⟩
 obtain⟨ms,hms⟩:∃ms,ms=Lx.bs (mustT stmtK s1):=⟨_,rfl⟩
 obtain⟨s2,hs2⟩:∃z,z=must stmtK s1:=⟨_,rfl⟩
 have C1:=hidp (R1.out.must (ts:=stmtK) (C:=#[.string ⟨#[67,82,69,65,84,69]⟩,.string ⟨#[73,78,83,69,82,84]⟩,.string ⟨#[85,80,68,65,84,69]⟩,.string ⟨#[68,69,76,69,84,69]⟩,.string ⟨#[83,69,76,69,67,84]⟩]) (n:=5) rfl rfl (by decide))
 rw[←hms,←hs2] at C1
 have HM:=hidp hms
 have E2:=hidp hs2
 clear hms hs2
 clear h hs1 hO hL
 go_enter Tryz.func40,Tryz.ntmps40
 go_upto_region 1 with fail
 rw[←hw1,←hrb]
 clear hw1 hrb
 go_wp2_with fail
 refine(C1.out).mono ?_
 rintro e w2 ⟨rfl,G2⟩
 have R2:=hidp (R1.out.step G2.out)
 clear C1
 by_cases k0:mustT stmtK s1=[67,82,69,65,84,69]
 ·have q0:(ms.toList==[67,82,69,65,84,69])=true:=by rw[HM.out,k0,Lx.bs_toList];rfl
  have HQ:Hid (stmtS s=zcD s2∧stmtX s=zbU s2):=by
   show _∧_
   rw[E2.out]
   exact⟨by rw[stmtS,←E1.out,if_pos k0],by rw[stmtX,←E1.out,if_pos k0]⟩
  clear k0
  obtain⟨x,hx⟩:∃x,x=zbU s2:=⟨_,rfl⟩
  have CF:Hid (Calls Tryz.prog 71 #[.pointer (some ⟨pb,0,none⟩)] w2 fun e W'=>∃ia ic ea ec,e=.returned (.agg #[.int .u8 (x.kind:Int),.string (Lx.bs x.table),.string (Lx.bs x.field),.slice ia x.items.length ic,.slice ea x.expr.length ec,.bool x.history,.bool x.desc])∧Hid (PB W0 w2 pb (zcD s2) W'∧StV W0 W' (.agg #[.int .u8 (x.kind:Int),.string (Lx.bs x.table),.string (Lx.bs x.field),.slice ia x.items.length ic,.slice ea x.expr.length ec,.bool x.history,.bool x.desc]) x)):=by
   obtain⟨_,p,_⟩:=R2.out.pb
   rw[hx]
   refine(create_c p).mono ?_
   rintro e W' ⟨v,rfl,q1,q2⟩
   have q3:=q2
   obtain⟨ia,ic,ea,ec,rfl,_⟩:=q2
   exact⟨ia,ic,ea,ec,rfl,q1,q3⟩
  have HX:=hidp hx
  clear hx
  go_wp2_with fail
  refine(CF.out).mono ?_
  rintro e w3 ⟨ia,ic,ea,ec,rfl,X3⟩
  have R3:=hidp (R2.out.step X3.out.1)
  clear CF
  obtain⟨rc,rf,rl⟩:=R3.out.cells
  have d0:=rc 0 _ rfl
  have d1:=rc 1 _ rfl
  have d2:=rc 2 _ rfl
  have d3:=rc 3 _ rfl
  have d4:=rc 4 _ rfl
  have d5:=rc 5 _ rfl
  have d6:=rc 6 _ rfl
  clear rc
  have FIN:Hid ((w3.setCells rb 0 [.int .u8 (x.kind:Int),.string (Lx.bs x.table),.string (Lx.bs x.field),.slice ia x.items.length ic,.slice ea x.expr.length ec,.bool x.history,.bool x.desc]).heap[rb]?=some (.cells #[.int .u8 (x.kind:Int),.string (Lx.bs x.table),.string (Lx.bs x.field),.slice ia x.items.length ic,.slice ea x.expr.length ec,.bool x.history,.bool x.desc] 26 (0,0))∧PB W0 W pb (stmtS s) (w3.setCells rb 0 [.int .u8 (x.kind:Int),.string (Lx.bs x.table),.string (Lx.bs x.field),.slice ia x.items.length ic,.slice ea x.expr.length ec,.bool x.history,.bool x.desc])∧StV W0 (w3.setCells rb 0 [.int .u8 (x.kind:Int),.string (Lx.bs x.table),.string (Lx.bs x.field),.slice ia x.items.length ic,.slice ea x.expr.length ec,.bool x.history,.bool x.desc]) (.agg #[.int .u8 (x.kind:Int),.string (Lx.bs x.table),.string (Lx.bs x.field),.slice ia x.items.length ic,.slice ea x.expr.length ec,.bool x.history,.bool x.desc]) (stmtX s)):=by
   have f:=R3.out.fin (.int .u8 (x.kind:Int)) (.string (Lx.bs x.table)) (.string (Lx.bs x.field)) (.slice ia x.items.length ic) (.slice ea x.expr.length ec) (.bool x.history) (.bool x.desc)
   rw[HQ.out.1,HQ.out.2,←HX.out]
   exact⟨f.1,f.2.1,X3.out.2.kt f.2.2 (by decide) (by decide)⟩
  go_wp2
  exact bodyPost_ret (v:=.agg #[.int .u8 (x.kind:Int),.string (Lx.bs x.table),.string (Lx.bs x.field),.slice ia x.items.length ic,.slice ea x.expr.length ec,.bool x.history,.bool x.desc]) (results_cell_row rfl _ _ rb 26 #[.int .u8 (x.kind:Int),.string (Lx.bs x.table),.string (Lx.bs x.field),.slice ia x.items.length ic,.slice ea x.expr.length ec,.bool x.history,.bool x.desc] (0,0) _ rfl FIN.out.1 Tryz.underlying26 rfl (by kernel_rfl)) rfl ⟨_,rfl,FIN.out.2⟩
 have q0:(ms.toList==[67,82,69,65,84,69])=false:=by rw[HM.out,Lx.bs_toList];simpa using k0
 by_cases k1:mustT stmtK s1=[73,78,83,69,82,84]
 ·have q1:(ms.toList==[73,78,83,69,82,84])=true:=by rw[HM.out,k1,Lx.bs_toList];rfl
  have HQ:Hid (stmtS s=zdG s2∧stmtX s=insertX s2):=by
   show _∧_
   rw[E2.out]
   exact⟨by rw[stmtS,←E1.out,if_neg k0,if_pos k1],by rw[stmtX,←E1.out,if_neg k0,if_pos k1]⟩
  clear k0 k1
  obtain⟨s3,hs3⟩:∃z,z=must [[73,78,84,79]] s2:=⟨_,rfl⟩
  have C2:=hidp (R2.out.must (ts:=[[73,78,84,79]]) (C:=#[.string ⟨#[73,78,84,79]⟩]) (n:=1) rfl rfl (by decide))
  rw[←hs3] at C2
  have E3:=hidp hs3
  clear hs3
  go_wp2_with fail
  refine(C2.out).mono ?_
  rintro e w3 ⟨rfl,G3⟩
  have R3:=hidp (R2.out.step G3.out)
  clear C2
  obtain⟨s4,hs4⟩:∃z,z=name [] s3:=⟨_,rfl⟩
  obtain⟨nm,hnm⟩:∃z,z=nameT [] s3:=⟨_,rfl⟩
  have C3:=hidp (R3.out.name)
  rw[←hs4,←hnm] at C3
  have Enm:=hidp hnm
  clear hnm
  have E4:=hidp hs4
  clear hs4
  go_wp2_with fail
  refine(C3.out).mono ?_
  rintro e w4 ⟨rfl,G4⟩
  have R4:=hidp (R3.out.step G4.out)
  clear C3
  obtain⟨s5,hs5⟩:∃z,z=exprS s4:=⟨_,rfl⟩
  obtain⟨ell,hel⟩:∃z,z=(exprS s4).steps:=⟨_,rfl⟩
  have C4:=hidp (R4.out.expr HO.out.1 HO.out.2)
  rw[←hel,←hs5] at C4
  have Eel:=hidp hel
  clear hel
  have E5:=hidp hs5
  clear hs5
  go_wp2_with fail
  refine(C4.out).mono ?_
  rintro e w5 ⟨ela,elc,rfl,X5⟩
  have G5:=hidp X5.out.1
  have R5:=hidp (R4.out.step G5.out)
  clear C4
  obtain⟨rc,rf,rl⟩:=R5.out.cells
  have d0:=rc 0 _ rfl
  have d1:=rc 1 _ rfl
  have d2:=rc 2 _ rfl
  have d3:=rc 3 _ rfl
  have d4:=rc 4 _ rfl
  have d5:=rc 5 _ rfl
  have d6:=rc 6 _ rfl
  clear rc
  have FIN:Hid ((w5.setCells rb 0 [.int .u8 3,.string (Lx.bs nm),.string ⟨#[]⟩,.slice none 0 0,.slice ela ell.length elc,.bool false,.bool false]).heap[rb]?=some (.cells #[.int .u8 3,.string (Lx.bs nm),.string ⟨#[]⟩,.slice none 0 0,.slice ela ell.length elc,.bool false,.bool false] 26 (0,0))∧PB W0 W pb (stmtS s) (w5.setCells rb 0 [.int .u8 3,.string (Lx.bs nm),.string ⟨#[]⟩,.slice none 0 0,.slice ela ell.length elc,.bool false,.bool false])∧StV W0 (w5.setCells rb 0 [.int .u8 3,.string (Lx.bs nm),.string ⟨#[]⟩,.slice none 0 0,.slice ela ell.length elc,.bool false,.bool false]) (.agg #[.int .u8 3,.string (Lx.bs nm),.string ⟨#[]⟩,.slice none 0 0,.slice ela ell.length elc,.bool false,.bool false]) (stmtX s)):=by
   have f:=R5.out.fin (.int .u8 3) (.string (Lx.bs nm)) (.string ⟨#[]⟩) (.slice none 0 0) (.slice ela ell.length elc) (.bool false) (.bool false)
   have e1:zdG s2=s5:=by rw[zdG,←E3.out,←E4.out,←E5.out]
   have e2:insertX s2=⟨3,nm,[],[],ell,false,false⟩:=by rw[insertX,zdG,←E3.out,←Enm.out,←E4.out,←Eel.out]
   rw[HQ.out.1,HQ.out.2,e1,e2]
   exact⟨f.1,f.2.1,none,0,ela,elc,rfl,Its.nil _ _ _,X5.out.2.kt f.2.2 (by decide)⟩
  go_wp2
  exact bodyPost_ret (v:=.agg #[.int .u8 3,.string (Lx.bs nm),.string ⟨#[]⟩,.slice none 0 0,.slice ela ell.length elc,.bool false,.bool false]) (results_cell_row rfl _ _ rb 26 #[.int .u8 3,.string (Lx.bs nm),.string ⟨#[]⟩,.slice none 0 0,.slice ela ell.length elc,.bool false,.bool false] (0,0) _ rfl FIN.out.1 Tryz.underlying26 rfl (by kernel_rfl)) rfl ⟨_,rfl,FIN.out.2⟩
 have q1:(ms.toList==[73,78,83,69,82,84])=false:=by rw[HM.out,Lx.bs_toList];simpa using k1
 by_cases k2:mustT stmtK s1=[85,80,68,65,84,69]
 ·have q2:(ms.toList==[85,80,68,65,84,69])=true:=by rw[HM.out,k2,Lx.bs_toList];rfl
  have HQ:Hid (stmtS s=zdC s2∧stmtX s=zcH s2):=by
   show _∧_
   rw[E2.out]
   exact⟨by rw[stmtS,←E1.out,if_neg k0,if_neg k1,if_pos k2],by rw[stmtX,←E1.out,if_neg k0,if_neg k1,if_pos k2]⟩
  clear k0 k1 k2
  obtain⟨x,hx⟩:∃x,x=zcH s2:=⟨_,rfl⟩
  have CF:Hid (Calls Tryz.prog 74 #[.pointer (some ⟨pb,0,none⟩)] w2 fun e W'=>∃ia ic ea ec,e=.returned (.agg #[.int .u8 (x.kind:Int),.string (Lx.bs x.table),.string (Lx.bs x.field),.slice ia x.items.length ic,.slice ea x.expr.length ec,.bool x.history,.bool x.desc])∧Hid (PB W0 w2 pb (zdC s2) W'∧StV W0 W' (.agg #[.int .u8 (x.kind:Int),.string (Lx.bs x.table),.string (Lx.bs x.field),.slice ia x.items.length ic,.slice ea x.expr.length ec,.bool x.history,.bool x.desc]) x)):=by
   obtain⟨_,p,_⟩:=R2.out.pb
   rw[hx]
   refine(update_c p HO.out.1 HO.out.2).mono ?_
   rintro e W' ⟨v,rfl,q1,q2⟩
   have q3:=q2
   obtain⟨ia,ic,ea,ec,rfl,_⟩:=q2
   exact⟨ia,ic,ea,ec,rfl,q1,q3⟩
  have HX:=hidp hx
  clear hx
  go_wp2_with fail
  refine(CF.out).mono ?_
  rintro e w3 ⟨ia,ic,ea,ec,rfl,X3⟩
  have R3:=hidp (R2.out.step X3.out.1)
  clear CF
  obtain⟨rc,rf,rl⟩:=R3.out.cells
  have d0:=rc 0 _ rfl
  have d1:=rc 1 _ rfl
  have d2:=rc 2 _ rfl
  have d3:=rc 3 _ rfl
  have d4:=rc 4 _ rfl
  have d5:=rc 5 _ rfl
  have d6:=rc 6 _ rfl
  clear rc
  have FIN:Hid ((w3.setCells rb 0 [.int .u8 (x.kind:Int),.string (Lx.bs x.table),.string (Lx.bs x.field),.slice ia x.items.length ic,.slice ea x.expr.length ec,.bool x.history,.bool x.desc]).heap[rb]?=some (.cells #[.int .u8 (x.kind:Int),.string (Lx.bs x.table),.string (Lx.bs x.field),.slice ia x.items.length ic,.slice ea x.expr.length ec,.bool x.history,.bool x.desc] 26 (0,0))∧PB W0 W pb (stmtS s) (w3.setCells rb 0 [.int .u8 (x.kind:Int),.string (Lx.bs x.table),.string (Lx.bs x.field),.slice ia x.items.length ic,.slice ea x.expr.length ec,.bool x.history,.bool x.desc])∧StV W0 (w3.setCells rb 0 [.int .u8 (x.kind:Int),.string (Lx.bs x.table),.string (Lx.bs x.field),.slice ia x.items.length ic,.slice ea x.expr.length ec,.bool x.history,.bool x.desc]) (.agg #[.int .u8 (x.kind:Int),.string (Lx.bs x.table),.string (Lx.bs x.field),.slice ia x.items.length ic,.slice ea x.expr.length ec,.bool x.history,.bool x.desc]) (stmtX s)):=by
   have f:=R3.out.fin (.int .u8 (x.kind:Int)) (.string (Lx.bs x.table)) (.string (Lx.bs x.field)) (.slice ia x.items.length ic) (.slice ea x.expr.length ec) (.bool x.history) (.bool x.desc)
   rw[HQ.out.1,HQ.out.2,←HX.out]
   exact⟨f.1,f.2.1,X3.out.2.kt f.2.2 (by decide) (by decide)⟩
  go_wp2
  exact bodyPost_ret (v:=.agg #[.int .u8 (x.kind:Int),.string (Lx.bs x.table),.string (Lx.bs x.field),.slice ia x.items.length ic,.slice ea x.expr.length ec,.bool x.history,.bool x.desc]) (results_cell_row rfl _ _ rb 26 #[.int .u8 (x.kind:Int),.string (Lx.bs x.table),.string (Lx.bs x.field),.slice ia x.items.length ic,.slice ea x.expr.length ec,.bool x.history,.bool x.desc] (0,0) _ rfl FIN.out.1 Tryz.underlying26 rfl (by kernel_rfl)) rfl ⟨_,rfl,FIN.out.2⟩
 have q2:(ms.toList==[85,80,68,65,84,69])=false:=by rw[HM.out,Lx.bs_toList];simpa using k2
 by_cases k3:mustT stmtK s1=[68,69,76,69,84,69]
 ·have q3:(ms.toList==[68,69,76,69,84,69])=true:=by rw[HM.out,k3,Lx.bs_toList];rfl
  have HQ:Hid (stmtS s=deleteS s2∧stmtX s=deleteX s2):=by
   show _∧_
   rw[E2.out]
   exact⟨by rw[stmtS,←E1.out,if_neg k0,if_neg k1,if_neg k2,if_pos k3],by rw[stmtX,←E1.out,if_neg k0,if_neg k1,if_neg k2,if_pos k3]⟩
  clear k0 k1 k2 k3
  obtain⟨s3,hs3⟩:∃z,z=must [[70,82,79,77]] s2:=⟨_,rfl⟩
  have C2:=hidp (R2.out.must (ts:=[[70,82,79,77]]) (C:=#[.string ⟨#[70,82,79,77]⟩]) (n:=1) rfl rfl (by decide))
  rw[←hs3] at C2
  have E3:=hidp hs3
  clear hs3
  go_wp2_with fail
  refine(C2.out).mono ?_
  rintro e w3 ⟨rfl,G3⟩
  have R3:=hidp (R2.out.step G3.out)
  clear C2
  obtain⟨s4,hs4⟩:∃z,z=name [] s3:=⟨_,rfl⟩
  obtain⟨nm,hnm⟩:∃z,z=nameT [] s3:=⟨_,rfl⟩
  have C3:=hidp (R3.out.name)
  rw[←hs4,←hnm] at C3
  have Enm:=hidp hnm
  clear hnm
  have E4:=hidp hs4
  clear hs4
  go_wp2_with fail
  refine(C3.out).mono ?_
  rintro e w4 ⟨rfl,G4⟩
  have R4:=hidp (R3.out.step G4.out)
  clear C3
  obtain⟨s5,hs5⟩:∃z,z=whereS s4:=⟨_,rfl⟩
  obtain⟨ell,hel⟩:∃z,z=whereE s4:=⟨_,rfl⟩
  have C4:=hidp (R4.out.wher HO.out.1 HO.out.2)
  rw[←hel,←hs5] at C4
  have Eel:=hidp hel
  clear hel
  have E5:=hidp hs5
  clear hs5
  go_wp2_with fail
  refine(C4.out).mono ?_
  rintro e w5 ⟨ela,elc,rfl,X5⟩
  have G5:=hidp X5.out.1
  have R5:=hidp (R4.out.step G5.out)
  clear C4
  obtain⟨rc,rf,rl⟩:=R5.out.cells
  have d0:=rc 0 _ rfl
  have d1:=rc 1 _ rfl
  have d2:=rc 2 _ rfl
  have d3:=rc 3 _ rfl
  have d4:=rc 4 _ rfl
  have d5:=rc 5 _ rfl
  have d6:=rc 6 _ rfl
  clear rc
  have FIN:Hid ((w5.setCells rb 0 [.int .u8 5,.string (Lx.bs nm),.string ⟨#[]⟩,.slice none 0 0,.slice ela ell.length elc,.bool false,.bool false]).heap[rb]?=some (.cells #[.int .u8 5,.string (Lx.bs nm),.string ⟨#[]⟩,.slice none 0 0,.slice ela ell.length elc,.bool false,.bool false] 26 (0,0))∧PB W0 W pb (stmtS s) (w5.setCells rb 0 [.int .u8 5,.string (Lx.bs nm),.string ⟨#[]⟩,.slice none 0 0,.slice ela ell.length elc,.bool false,.bool false])∧StV W0 (w5.setCells rb 0 [.int .u8 5,.string (Lx.bs nm),.string ⟨#[]⟩,.slice none 0 0,.slice ela ell.length elc,.bool false,.bool false]) (.agg #[.int .u8 5,.string (Lx.bs nm),.string ⟨#[]⟩,.slice none 0 0,.slice ela ell.length elc,.bool false,.bool false]) (stmtX s)):=by
   have f:=R5.out.fin (.int .u8 5) (.string (Lx.bs nm)) (.string ⟨#[]⟩) (.slice none 0 0) (.slice ela ell.length elc) (.bool false) (.bool false)
   have e1:deleteS s2=s5:=by rw[deleteS,←E3.out,←E4.out,←E5.out]
   have e2:deleteX s2=⟨5,nm,[],[],ell,false,false⟩:=by rw[deleteX,←E3.out,←Enm.out,←E4.out,←Eel.out]
   rw[HQ.out.1,HQ.out.2,e1,e2]
   exact⟨f.1,f.2.1,none,0,ela,elc,rfl,Its.nil _ _ _,X5.out.2.kt f.2.2 (by decide)⟩
  go_wp2
  exact bodyPost_ret (v:=.agg #[.int .u8 5,.string (Lx.bs nm),.string ⟨#[]⟩,.slice none 0 0,.slice ela ell.length elc,.bool false,.bool false]) (results_cell_row rfl _ _ rb 26 #[.int .u8 5,.string (Lx.bs nm),.string ⟨#[]⟩,.slice none 0 0,.slice ela ell.length elc,.bool false,.bool false] (0,0) _ rfl FIN.out.1 Tryz.underlying26 rfl (by kernel_rfl)) rfl ⟨_,rfl,FIN.out.2⟩
 have q3:(ms.toList==[68,69,76,69,84,69])=false:=by rw[HM.out,Lx.bs_toList];simpa using k3
 by_cases k4:mustT stmtK s1=[83,69,76,69,67,84]
 ·have q4:(ms.toList==[83,69,76,69,67,84])=true:=by rw[HM.out,k4,Lx.bs_toList];rfl
  have HQ:Hid (stmtS s=zaP s2∧stmtX s=zaO s2):=by
   show _∧_
   rw[E2.out]
   exact⟨by rw[stmtS,←E1.out,if_neg k0,if_neg k1,if_neg k2,if_neg k3,if_pos k4],by rw[stmtX,←E1.out,if_neg k0,if_neg k1,if_neg k2,if_neg k3,if_pos k4]⟩
  clear k0 k1 k2 k3 k4
  obtain⟨x,hx⟩:∃x,x=zaO s2:=⟨_,rfl⟩
  have CF:Hid (Calls Tryz.prog 76 #[.pointer (some ⟨pb,0,none⟩)] w2 fun e W'=>∃ia ic ea ec,e=.returned (.agg #[.int .u8 (x.kind:Int),.string (Lx.bs x.table),.string (Lx.bs x.field),.slice ia x.items.length ic,.slice ea x.expr.length ec,.bool x.history,.bool x.desc])∧Hid (PB W0 w2 pb (zaP s2) W'∧StV W0 W' (.agg #[.int .u8 (x.kind:Int),.string (Lx.bs x.table),.string (Lx.bs x.field),.slice ia x.items.length ic,.slice ea x.expr.length ec,.bool x.history,.bool x.desc]) x)):=by
   obtain⟨_,p,_⟩:=R2.out.pb
   rw[hx]
   refine(selected_c p HO.out.1 HO.out.2).mono ?_
   rintro e W' ⟨v,rfl,q1,q2⟩
   have q3:=q2
   obtain⟨ia,ic,ea,ec,rfl,_⟩:=q2
   exact⟨ia,ic,ea,ec,rfl,q1,q3⟩
  have HX:=hidp hx
  clear hx
  go_wp2_with fail
  refine(CF.out).mono ?_
  rintro e w3 ⟨ia,ic,ea,ec,rfl,X3⟩
  have R3:=hidp (R2.out.step X3.out.1)
  clear CF
  obtain⟨rc,rf,rl⟩:=R3.out.cells
  have d0:=rc 0 _ rfl
  have d1:=rc 1 _ rfl
  have d2:=rc 2 _ rfl
  have d3:=rc 3 _ rfl
  have d4:=rc 4 _ rfl
  have d5:=rc 5 _ rfl
  have d6:=rc 6 _ rfl
  clear rc
  have FIN:Hid ((w3.setCells rb 0 [.int .u8 (x.kind:Int),.string (Lx.bs x.table),.string (Lx.bs x.field),.slice ia x.items.length ic,.slice ea x.expr.length ec,.bool x.history,.bool x.desc]).heap[rb]?=some (.cells #[.int .u8 (x.kind:Int),.string (Lx.bs x.table),.string (Lx.bs x.field),.slice ia x.items.length ic,.slice ea x.expr.length ec,.bool x.history,.bool x.desc] 26 (0,0))∧PB W0 W pb (stmtS s) (w3.setCells rb 0 [.int .u8 (x.kind:Int),.string (Lx.bs x.table),.string (Lx.bs x.field),.slice ia x.items.length ic,.slice ea x.expr.length ec,.bool x.history,.bool x.desc])∧StV W0 (w3.setCells rb 0 [.int .u8 (x.kind:Int),.string (Lx.bs x.table),.string (Lx.bs x.field),.slice ia x.items.length ic,.slice ea x.expr.length ec,.bool x.history,.bool x.desc]) (.agg #[.int .u8 (x.kind:Int),.string (Lx.bs x.table),.string (Lx.bs x.field),.slice ia x.items.length ic,.slice ea x.expr.length ec,.bool x.history,.bool x.desc]) (stmtX s)):=by
   have f:=R3.out.fin (.int .u8 (x.kind:Int)) (.string (Lx.bs x.table)) (.string (Lx.bs x.field)) (.slice ia x.items.length ic) (.slice ea x.expr.length ec) (.bool x.history) (.bool x.desc)
   rw[HQ.out.1,HQ.out.2,←HX.out]
   exact⟨f.1,f.2.1,X3.out.2.kt f.2.2 (by decide) (by decide)⟩
  go_wp2
  exact bodyPost_ret (v:=.agg #[.int .u8 (x.kind:Int),.string (Lx.bs x.table),.string (Lx.bs x.field),.slice ia x.items.length ic,.slice ea x.expr.length ec,.bool x.history,.bool x.desc]) (results_cell_row rfl _ _ rb 26 #[.int .u8 (x.kind:Int),.string (Lx.bs x.table),.string (Lx.bs x.field),.slice ia x.items.length ic,.slice ea x.expr.length ec,.bool x.history,.bool x.desc] (0,0) _ rfl FIN.out.1 Tryz.underlying26 rfl (by kernel_rfl)) rfl ⟨_,rfl,FIN.out.2⟩
 have q4:(ms.toList==[83,69,76,69,67,84])=false:=by rw[HM.out,Lx.bs_toList];simpa using k4
 have HQ:Hid (stmtS s=s2∧stmtX s=stZero):=by
  show _∧_
  rw[E2.out]
  exact⟨by rw[stmtS,←E1.out,if_neg k0,if_neg k1,if_neg k2,if_neg k3,if_neg k4],by rw[stmtX,←E1.out,if_neg k0,if_neg k1,if_neg k2,if_neg k3,if_neg k4]⟩
 clear k0 k1 k2 k3 k4
 obtain⟨rc,rf,rl⟩:=R2.out.cells
 have d0:=rc 0 _ rfl
 have d1:=rc 1 _ rfl
 have d2:=rc 2 _ rfl
 have d3:=rc 3 _ rfl
 have d4:=rc 4 _ rfl
 have d5:=rc 5 _ rfl
 have d6:=rc 6 _ rfl
 clear rc
 have FIN:Hid ((w2.setCells rb 0 [.int .u8 0,.string ⟨#[]⟩,.string ⟨#[]⟩,.slice none 0 0,.slice none 0 0,.bool false,.bool false]).heap[rb]?=some (.cells #[.int .u8 0,.string ⟨#[]⟩,.string ⟨#[]⟩,.slice none 0 0,.slice none 0 0,.bool false,.bool false] 26 (0,0))∧PB W0 W pb (stmtS s) (w2.setCells rb 0 [.int .u8 0,.string ⟨#[]⟩,.string ⟨#[]⟩,.slice none 0 0,.slice none 0 0,.bool false,.bool false])∧StV W0 (w2.setCells rb 0 [.int .u8 0,.string ⟨#[]⟩,.string ⟨#[]⟩,.slice none 0 0,.slice none 0 0,.bool false,.bool false]) (.agg #[.int .u8 0,.string ⟨#[]⟩,.string ⟨#[]⟩,.slice none 0 0,.slice none 0 0,.bool false,.bool false]) (stmtX s)):=by
  have f:=R2.out.fin (.int .u8 0) (.string ⟨#[]⟩) (.string ⟨#[]⟩) (.slice none 0 0) (.slice none 0 0) (.bool false) (.bool false)
  rw[HQ.out.1,HQ.out.2]
  exact⟨f.1,f.2.1,none,0,none,0,rfl,Its.nil _ _ _,RowE.nil _ _⟩
 go_wp2
 exact bodyPost_ret (v:=.agg #[.int .u8 0,.string ⟨#[]⟩,.string ⟨#[]⟩,.slice none 0 0,.slice none 0 0,.bool false,.bool false]) (results_cell_row rfl _ _ rb 26 #[.int .u8 0,.string ⟨#[]⟩,.string ⟨#[]⟩,.slice none 0 0,.slice none 0 0,.bool false,.bool false] (0,0) _ rfl FIN.out.1 Tryz.underlying26 rfl (by kernel_rfl)) rfl ⟨_,rfl,FIN.out.2⟩
end
end Ps
end Go.Proofs.YtfhkaffakniioaaGreatDoor
