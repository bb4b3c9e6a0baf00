/- Several texts, joined. -/
import Derived.Test.YtfhkaffakniioaaGreatDoorPrTM
set_option maxHeartbeats 8000000
set_option maxRecDepth 100000
namespace Go.Proofs.YtfhkaffakniioaaGreatDoor
open Go.RowKit
namespace Ps
theorem rightStep_c (p:Sp) (ht:p.text.length≤4611686018427387904) (w:World) (hL:HasL w):Calls Tryz.prog 29 #[.agg #[.int .u8 (p.kind:Int),.string (Lx.bs p.text),.int .i64 p.n]] w fun e w'=>e=.returned (.bool (zaE p))∧Below w.heap.size w w':=by
 obtain⟨pk,pt,pn⟩:=p
 obtain⟨s,hs⟩:∃s,s=Lx.bs pt:=⟨_,rfl⟩
 have ht2:pt.length≤4611686018427387904:=ht
 obtain⟨w1,hw1⟩:∃w1,w1=w.alloc (.cells #[.int .u8 (pk:Int),.string s,.int .i64 pn] 29):=⟨_,rfl⟩
 obtain⟨T,hT⟩:∃T,T=w.heap.size:=⟨_,rfl⟩
 have X1:Hid (w1.heap[T]?=some (.cells #[.int .u8 (pk:Int),.string s,.int .i64 pn] 29 (0,0))∧Below w.heap.size w w1):=⟨by rw[hw1,hT];exact heap_alloc_new w _,by rw[hw1];exact bnew _ _⟩
 have y0:w1.cell? ⟨T,0,none⟩=some (.int .u8 (pk:Int)):=by rw[cell_of_row _ _ _ _ _ _ X1.out.1];rfl
 have y1:w1.cell? ⟨T,1,none⟩=some (.string s):=by rw[cell_of_row _ _ _ _ _ _ X1.out.1];rfl
 have y2:w1.cell? ⟨T,2,none⟩=some (.int .i64 pn):=by rw[cell_of_row _ _ _ _ _ _ X1.out.1];rfl
 have HL:=hidp (hL.stays X1.out.2)
 obtain⟨b,hb⟩:∃b,b=decide (pt=[]):=⟨_,rfl⟩
 have HB:Hid ((s.toList==[])=b):=by
  show _=_
  rw[hb,hs,Lx.bs_toList]
  cases pt<;>rfl
 have hsz:(s.size:Int)=(pt.length:Int):=by rw[hs,Lx.bs_size]
 show Calls Tryz.prog 29 #[.agg #[.int .u8 (pk:Int),.string (Lx.bs pt),.int .i64 pn]] w _
 rw[←hs]
 by_cases h4:pk=4
 ·have q4:((pk:Int)==4)=true:=by rw[h4];rfl
  by_cases hn:0≤pn
  ·have n0:(0:Int)≤pn:=hn
   have HQ:Hid (zaE ⟨pk,pt,pn⟩=b):=by show _=_;rw[zaE,if_pos h4,decide_eq_true hn,←hb];cases b<;>rfl
   clear hL ht ht2 hb hs h4
   obtain bq:=HB.out
   go_enter Tryz.func29,Tryz.ntmps29
   go_upto_region 1 with fail
   rw[←hw1,←hT]
   clear hw1 hT
   go_wp2
   go_ret
   exact⟨by rw[HQ.out];rfl,X1.out.2⟩
  ·have n0:¬(0:Int)≤pn:=hn
   have HQ:Hid (zaE ⟨pk,pt,pn⟩=false):=by show _=_;rw[zaE,if_pos h4,decide_eq_false hn];rfl
   clear hL ht ht2 hb hs h4
   obtain bq:=HB.out
   go_enter Tryz.func29,Tryz.ntmps29
   go_upto_region 1 with fail
   rw[←hw1,←hT]
   clear hw1 hT
   go_wp2
   go_ret
   exact⟨by rw[HQ.out];rfl,X1.out.2⟩
 have q4:((pk:Int)==4)=false:=by simp;omega
 by_cases h5:pk=5
 ·have q5:((pk:Int)==5)=true:=by rw[h5];rfl
  by_cases hn:pn=0
  ·subst hn
   have hn:(0:Int)=0:=rfl
   by_cases hl:pt.length≤1024
   ·have l0:(pt.length:Int)≤1024:=by omega
    obtain⟨u,hu⟩:∃u,u=Lib.validD pt:=⟨_,rfl⟩
    have HQ:Hid (zaE ⟨pk,pt,0⟩=u):=by show _=_;rw[zaE,if_neg h4,if_pos h5,decide_eq_true hn,decide_eq_true hl,←hu];cases u<;>rfl
    have CF:Hid (Calls Tryz.prog 57 #[.string s] w1 fun e w'=>e=.returned (.bool u)∧Below w1.heap.size w1 w'):=by
     rw[hu,hs]
     exact Any.utf8_ValidString Tryz.laysValid (Lx.bs pt) w1 (by rw[Lx.bs_size];omega) HL.out.utf
    clear hL ht ht2 hb hs h4 h5 hu
    obtain bq:=HB.out
    go_enter Tryz.func29,Tryz.ntmps29
    go_upto_region 1 with fail
    rw[←hw1,←hT]
    clear hw1 hT
    go_wp2_with fail
    refine(CF.out).mono ?_
    rintro e w2 ⟨rfl,hb2⟩
    have X2:Hid (Below w.heap.size w w2):=X1.out.2.trans (hb2.mono X1.out.2.size)
    clear hb2 CF
    go_wp2
    go_ret
    exact⟨by rw[HQ.out];rfl,X2.out⟩
   ·have l0:¬(pt.length:Int)≤1024:=by omega
    have HQ:Hid (zaE ⟨pk,pt,0⟩=false):=by show _=_;rw[zaE,if_neg h4,if_pos h5,decide_eq_true hn,decide_eq_false hl];rfl
    clear hL ht ht2 hb hs h4 h5
    obtain bq:=HB.out
    go_enter Tryz.func29,Tryz.ntmps29
    go_upto_region 1 with fail
    rw[←hw1,←hT]
    clear hw1 hT
    go_wp2
    go_ret
    exact⟨by rw[HQ.out];rfl,X1.out.2⟩
  ·have n0:(pn==0)=false:=by simpa using hn
   have HQ:Hid (zaE ⟨pk,pt,pn⟩=false):=by show _=_;rw[zaE,if_neg h4,if_pos h5,decide_eq_false hn];rfl
   clear hL ht ht2 hb hs h4 h5
   obtain bq:=HB.out
   go_enter Tryz.func29,Tryz.ntmps29
   go_upto_region 1 with fail
   rw[←hw1,←hT]
   clear hw1 hT
   go_wp2
   go_ret
   exact⟨by rw[HQ.out];rfl,X1.out.2⟩
 have q5:((pk:Int)==5)=false:=by simp;omega
 by_cases h6:pk=6
 ·have q6:((pk:Int)==6)=true:=by rw[h6];rfl
  by_cases hn:pn=0
  ·subst hn
   have hn:(0:Int)=0:=rfl
   obtain⟨u,hu⟩:∃u,u=isPt pt:=⟨_,rfl⟩
   have HQ:Hid (zaE ⟨pk,pt,0⟩=u):=by show _=_;rw[zaE,if_neg h4,if_neg h5,if_pos h6,decide_eq_true hn,←hu];cases u<;>rfl
   have CF:Hid (Calls Tryz.prog 58 #[.string s] w1 fun e w'=>e=.returned (.bool u)∧Below w1.heap.size w1 w'):=by
    rw[hu,hs]
    exact isPath_c num_c pt w1 HL.out
   clear hL ht ht2 hb hs h4 h5 h6 hu
   obtain bq:=HB.out
   go_enter Tryz.func29,Tryz.ntmps29
   go_upto_region 1 with fail
   rw[←hw1,←hT]
   clear hw1 hT
   go_wp2_with fail
   refine(CF.out).mono ?_
   rintro e w2 ⟨rfl,hb2⟩
   have X2:Hid (Below w.heap.size w w2):=X1.out.2.trans (hb2.mono X1.out.2.size)
   clear hb2 CF
   go_wp2
   go_ret
   exact⟨by rw[HQ.out];rfl,X2.out⟩
  ·have n0:(pn==0)=false:=by simpa using hn
   have HQ:Hid (zaE ⟨pk,pt,pn⟩=false):=by show _=_;rw[zaE,if_neg h4,if_neg h5,if_pos h6,decide_eq_false hn];rfl
   clear hL ht ht2 hb hs h4 h5 h6
   obtain bq:=HB.out
   go_enter Tryz.func29,Tryz.ntmps29
   go_upto_region 1 with fail
   rw[←hw1,←hT]
   clear hw1 hT
   go_wp2
   go_ret
   exact⟨by rw[HQ.out];rfl,X1.out.2⟩
 have q6:((pk:Int)==6)=false:=by simp;omega
 by_cases h7:pk=7
 ·have q7:((pk:Int)==7)=true:=by rw[h7];rfl
  by_cases hn:0≤pn
  ·have n0:(0:Int)≤pn:=hn
   by_cases hl:pn≤64
   ·have l0:pn≤(64:Int):=hl
    have HQ:Hid (zaE ⟨pk,pt,pn⟩=b):=by show _=_;rw[zaE,if_neg h4,if_neg h5,if_neg h6,if_pos h7,decide_eq_true hn,decide_eq_true hl,←hb];cases b<;>rfl
    clear hL ht ht2 hb hs h4 h5 h6 h7
    obtain bq:=HB.out
    go_enter Tryz.func29,Tryz.ntmps29
    go_upto_region 1 with fail
    rw[←hw1,←hT]
    clear hw1 hT
    go_wp2
    go_ret
    exact⟨by rw[HQ.out];rfl,X1.out.2⟩
   ·have l0:¬pn≤(64:Int):=hl
    have HQ:Hid (zaE ⟨pk,pt,pn⟩=false):=by show _=_;rw[zaE,if_neg h4,if_neg h5,if_neg h6,if_pos h7,decide_eq_true hn,decide_eq_false hl];rfl
    clear hL ht ht2 hb hs h4 h5 h6 h7
    obtain bq:=HB.out
    go_enter Tryz.func29,Tryz.ntmps29
    go_upto_region 1 with fail
    rw[←hw1,←hT]
    clear hw1 hT
    go_wp2
    go_ret
    exact⟨by rw[HQ.out];rfl,X1.out.2⟩
  ·have n0:¬(0:Int)≤pn:=hn
   have HQ:Hid (zaE ⟨pk,pt,pn⟩=false):=by show _=_;rw[zaE,if_neg h4,if_neg h5,if_neg h6,if_pos h7,decide_eq_false hn];rfl
   clear hL ht ht2 hb hs h4 h5 h6 h7
   obtain bq:=HB.out
   go_enter Tryz.func29,Tryz.ntmps29
   go_upto_region 1 with fail
   rw[←hw1,←hT]
   clear hw1 hT
   go_wp2
   go_ret
   exact⟨by rw[HQ.out];rfl,X1.out.2⟩
 have q7:((pk:Int)==7)=false:=by simp;omega
 by_cases h8:pk=8
 ·have q8:((pk:Int)==8)=true:=by rw[h8];rfl
  by_cases hn:0≤pn
  ·by_cases hl:pn≤64
   ·obtain⟨m,hm⟩:∃m:Nat,pn=(m:Int):=⟨pn.toNat,(Int.toNat_of_nonneg hn).symm⟩
    subst hm
    have n0:(0:Int)≤(m:Int):=hn
    have l0:(m:Int)≤(64:Int):=hl
    obtain⟨u,hu⟩:∃u,u=haveNs pt m:=⟨_,rfl⟩
    have hm64:m≤64:=by omega
    have HQ:Hid (zaE ⟨pk,pt,(m:Int)⟩=u):=by show _=_;rw[zaE,if_neg h4,if_neg h5,if_neg h6,if_neg h7,if_pos h8,decide_eq_true hn,decide_eq_true hl];show(true && true && haveNs pt ((m:Int).toNat))=u;rw[Int.toNat_natCast,←hu];cases u<;>rfl
    have CF:Hid (Calls Tryz.prog 59 #[.string s,.int .i64 (m:Int)] w1 fun e w'=>e=.returned (.bool u)∧Below w1.heap.size w1 w'):=by
     rw[hu,hs]
     exact haveNames_c pt m hm64 ht2 w1 HL.out
    clear hL ht ht2 hb hs h4 h5 h6 h7 h8 hu
    obtain bq:=HB.out
    go_enter Tryz.func29,Tryz.ntmps29
    go_upto_region 1 with fail
    rw[←hw1,←hT]
    clear hw1 hT
    go_wp2_with fail
    refine(CF.out).mono ?_
    rintro e w2 ⟨rfl,hb2⟩
    have X2:Hid (Below w.heap.size w w2):=X1.out.2.trans (hb2.mono X1.out.2.size)
    clear hb2 CF
    go_wp2
    go_ret
    exact⟨by rw[HQ.out];rfl,X2.out⟩
   ·have n0:(0:Int)≤pn:=hn
    have l0:¬pn≤(64:Int):=hl
    have HQ:Hid (zaE ⟨pk,pt,pn⟩=false):=by show _=_;rw[zaE,if_neg h4,if_neg h5,if_neg h6,if_neg h7,if_pos h8,decide_eq_true hn,decide_eq_false hl];rfl
    clear hL ht ht2 hb hs h4 h5 h6 h7 h8
    obtain bq:=HB.out
    go_enter Tryz.func29,Tryz.ntmps29
    go_upto_region 1 with fail
    rw[←hw1,←hT]
    clear hw1 hT
    go_wp2
    go_ret
    exact⟨by rw[HQ.out];rfl,X1.out.2⟩
  ·have n0:¬(0:Int)≤pn:=hn
   have HQ:Hid (zaE ⟨pk,pt,pn⟩=false):=by show _=_;rw[zaE,if_neg h4,if_neg h5,if_neg h6,if_neg h7,if_pos h8,decide_eq_false hn];rfl
   clear hL ht ht2 hb hs h4 h5 h6 h7 h8
   obtain bq:=HB.out
   go_enter Tryz.func29,Tryz.ntmps29
   go_upto_region 1 with fail
   rw[←hw1,←hT]
   clear hw1 hT
   go_wp2
   go_ret
   exact⟨by rw[HQ.out];rfl,X1.out.2⟩
 have q8:((pk:Int)==8)=false:=by simp;omega
 by_cases h0:0<pk
 ·have k0:(0:Int)<(pk:Int):=by omega
  by_cases h23:pk<23
  ·have k23:(pk:Int)<23:=by omega
   by_cases hn:pn=0
   ·subst hn
    have hn:(0:Int)=0:=rfl
    have HQ:Hid (zaE ⟨pk,pt,0⟩=b):=by show _=_;rw[zaE,if_neg h4,if_neg h5,if_neg h6,if_neg h7,if_neg h8,decide_eq_true h0,decide_eq_true h23,decide_eq_true hn,←hb];cases b<;>rfl
    clear hL ht ht2 hb hs h4 h5 h6 h7 h8
    obtain bq:=HB.out
    go_enter Tryz.func29,Tryz.ntmps29
    go_upto_region 1 with fail
    rw[←hw1,←hT]
    clear hw1 hT
    go_wp2
    go_ret
    exact⟨by rw[HQ.out];rfl,X1.out.2⟩
   ·have n0:(pn==0)=false:=by simpa using hn
    have HQ:Hid (zaE ⟨pk,pt,pn⟩=false):=by show _=_;rw[zaE,if_neg h4,if_neg h5,if_neg h6,if_neg h7,if_neg h8,decide_eq_true h0,decide_eq_true h23,decide_eq_false hn];rfl
    clear hL ht ht2 hb hs h4 h5 h6 h7 h8
    obtain bq:=HB.out
    go_enter Tryz.func29,Tryz.ntmps29
    go_upto_region 1 with fail
    rw[←hw1,←hT]
    clear hw1 hT
    go_wp2
    go_ret
    exact⟨by rw[HQ.out];rfl,X1.out.2⟩
  ·have k23:¬(pk:Int)<23:=by omega
   have HQ:Hid (zaE ⟨pk,pt,pn⟩=false):=by show _=_;rw[zaE,if_neg h4,if_neg h5,if_neg h6,if_neg h7,if_neg h8,decide_eq_true h0,decide_eq_false h23];rfl
   clear hL ht ht2 hb hs h4 h5 h6 h7 h8
   obtain bq:=HB.out
   go_enter Tryz.func29,Tryz.ntmps29
   go_upto_region 1 with fail
   rw[←hw1,←hT]
   clear hw1 hT
   go_wp2
   go_ret
   exact⟨by rw[HQ.out];rfl,X1.out.2⟩
 ·have k0:¬(0:Int)<(pk:Int):=by omega
  have HQ:Hid (zaE ⟨pk,pt,pn⟩=false):=by show _=_;rw[zaE,if_neg h4,if_neg h5,if_neg h6,if_neg h7,if_neg h8,decide_eq_false h0];rfl
  clear hL ht ht2 hb hs h4 h5 h6 h7 h8
  obtain bq:=HB.out
  go_enter Tryz.func29,Tryz.ntmps29
  go_upto_region 1 with fail
  rw[←hw1,←hT]
  clear hw1 hT
  go_wp2
  go_ret
  exact⟨by rw[HQ.out];rfl,X1.out.2⟩
theorem right_nonneg {p:Sp} (h:zaE p=true):(p.kind=7∨p.kind=8)→0≤p.n:=by
 rintro(q | q)
 ·rw[zaE,if_neg (by omega),if_neg (by omega),if_neg (by omega),if_pos q] at h
  simp at h
  exact h.1.1
 ·rw[zaE,if_neg (by omega),if_neg (by omega),if_neg (by omega),if_neg (by omega),if_pos q] at h
  simp at h
  exact h.1.1
theorem takesP_c (p:Sp) (ht:p.text.length≤4611686018427387904) (w:World) (hL:HasL w):Calls Tryz.prog 11 #[.agg #[.int .u8 (p.kind:Int),.string (Lx.bs p.text),.int .i64 p.n]] w fun e w'=>e=.returned (.tuple #[.int .i64 ((if zaE p=true then zaI p else 0:Nat):Int),.bool (zaE p)])∧Below w.heap.size w w':=by
 obtain⟨w1,hw1⟩:∃w1,w1=w.alloc (.cells #[.int .u8 (p.kind:Int),.string (Lx.bs p.text),.int .i64 p.n] 29):=⟨_,rfl⟩
 obtain⟨T,hT⟩:∃T,T=w.heap.size:=⟨_,rfl⟩
 have X1:Hid (w1.heap[T]?=some (.cells #[.int .u8 (p.kind:Int),.string (Lx.bs p.text),.int .i64 p.n] 29 (0,0))∧Below w.heap.size w w1):=⟨by rw[hw1,hT];exact heap_alloc_new w _,by rw[hw1];exact bnew _ _⟩
 have y0:w1.cell? ⟨T,0,none⟩=some (.int .u8 (p.kind:Int)):=by rw[cell_of_row _ _ _ _ _ _ X1.out.1];rfl
 have y1:w1.cell? ⟨T,1,none⟩=some (.string (Lx.bs p.text)):=by rw[cell_of_row _ _ _ _ _ _ X1.out.1];rfl
 have y2:w1.cell? ⟨T,2,none⟩=some (.int .i64 p.n):=by rw[cell_of_row _ _ _ _ _ _ X1.out.1];rfl
 have CR:=hidp (rightStep_c p ht w1 (hL.stays X1.out.2))
 cases hr:zaE p with
 | false =>
  rw[hr] at CR
  clear hL ht hr
  go_enter Tryz.func11,Tryz.ntmps11
  go_upto_region 1 with fail
  rw[←hw1,←hT]
  clear hw1 hT
  go_wp2_with fail
  refine(CR.out).mono ?_
  rintro e w2 ⟨rfl,hb2⟩
  have X2:Hid (Below w.heap.size w w2):=X1.out.2.trans (hb2.mono X1.out.2.size)
  clear hb2 CR
  go_wp2
  go_ret2
  exact⟨rfl,X2.out⟩
 | true =>
  rw[hr] at CR
  obtain⟨tk,htk⟩:∃tk,tk=zaI p:=⟨_,rfl⟩
  have CT:Hid (∀W,Calls Tryz.prog 30 #[.agg #[.int .u8 (p.kind:Int),.string (Lx.bs p.text),.int .i64 p.n]] W fun e w'=>e=.returned (.int .i64 (tk:Int))∧Below W.heap.size W w'):=fun W=>by
   rw[htk]
   exact takes_c p (right_nonneg hr) W
  rw[if_pos rfl,←htk]
  clear hL ht hr htk
  go_enter Tryz.func11,Tryz.ntmps11
  go_upto_region 1 with fail
  rw[←hw1,←hT]
  clear hw1 hT
  go_wp2_with fail
  refine(CR.out).mono ?_
  rintro e w2 ⟨rfl,hb2⟩
  have X2:Hid (w2.heap[T]?=some (.cells #[.int .u8 (p.kind:Int),.string (Lx.bs p.text),.int .i64 p.n] 29 (0,0))∧Below w.heap.size w w2):=⟨(hb2.block T (row_lt X1.out.1)).trans X1.out.1,X1.out.2.trans (hb2.mono X1.out.2.size)⟩
  clear hb2 CR y0 y1 y2
  have y0:w2.cell? ⟨T,0,none⟩=some (.int .u8 (p.kind:Int)):=by rw[cell_of_row _ _ _ _ _ _ X2.out.1];rfl
  have y1:w2.cell? ⟨T,1,none⟩=some (.string (Lx.bs p.text)):=by rw[cell_of_row _ _ _ _ _ _ X2.out.1];rfl
  have y2:w2.cell? ⟨T,2,none⟩=some (.int .i64 p.n):=by rw[cell_of_row _ _ _ _ _ _ X2.out.1];rfl
  go_wp2_with fail
  refine(CT.out w2).mono ?_
  rintro e w3 ⟨rfl,hb3⟩
  have X3:Hid (Below w.heap.size w w3):=X2.out.2.trans (hb3.mono X2.out.2.size)
  clear hb3 CT
  go_wp2
  go_ret2
  exact⟨rfl,X3.out⟩
end Ps
end Go.Proofs.YtfhkaffakniioaaGreatDoor
