/- Several texts, joined. -/
import Derived.Test.YtfhkaffakniioaaGreatDoorQ38M
set_option maxHeartbeats 8000000
set_option maxRecDepth 100000
namespace Go.Proofs.YtfhkaffakniioaaGreatDoor
open Go.RowKit
namespace Ps
theorem gave_none {w w6 w7:World} {rb why pos:Nat} (h:w6.heap[rb]?=some (.cells #[.int .u8 0,.string ⟨#[]⟩,.string ⟨#[]⟩,.slice none 0 0,.slice none 0 0,.bool false,.bool false] 26 (0,0))) (hb:Below w.heap.size w w6) (hr:rb=w.heap.size) (h7:∃W,W=w6.setCells rb 0 [.int .u8 0,.string ⟨#[]⟩,.string ⟨#[]⟩,.slice none 0 0,.slice none 0 0,.bool false,.bool false]∧w7.heap=W.heap∧w7.os=W.os∧w7.tape=W.tape∧w7.output=W.output):w7.heap[rb]?=some (.cells #[.int .u8 0,.string ⟨#[]⟩,.string ⟨#[]⟩,.slice none 0 0,.slice none 0 0,.bool false,.bool false] 26 (0,0))∧Gave stZero why pos w (.returned (.tuple #[.agg #[.int .u8 0,.string ⟨#[]⟩,.string ⟨#[]⟩,.slice none 0 0,.slice none 0 0,.bool false,.bool false],.int .i64 (why:Int),.int .i64 (pos:Int)])) w7:=by
 have h1:=put7 h (.int .u8 0) (.string ⟨#[]⟩) (.string ⟨#[]⟩) (.slice none 0 0) (.slice none 0 0) (.bool false) (.bool false)
 have k:=zbS rb [.int .u8 0,.string ⟨#[]⟩,.string ⟨#[]⟩,.slice none 0 0,.slice none 0 0,.bool false,.bool false] 0 w6
 obtain⟨W,hW,e1,e2,e3,e4⟩:=h7
 rw[←hW] at h1 k
 refine⟨by rw[e1];exact h1,none,0,none,0,rfl,?_⟩
 have kb:Below w.heap.size w6 w7:=⟨e2.trans k.os,e3.trans k.tape,e4.trans k.output,by rw[e1];exact k.size,fun j hj=>by rw[e1];exact k.block j (Nat.lt_of_lt_of_le hj hb.size) (by omega)⟩
 exact⟨hb.trans kb,⟨Itm.nil _ _,Sts.nil _ _⟩,⟨⟨Nat.zero_le _,fun i q=>by cases q⟩,Nat.zero_le _,fun p q=>by cases q⟩,Nat.le_refl _,Nat.le_refl _⟩
theorem parse_c (t:Bs) (ht:t.length≤140737488351232) (w:World) (hO:HasO w) (hL:HasL w):Calls Tryz.prog 20 #[.string (Lx.bs t)] w (Gave (parseX t).1 (parseX t).2.1 (parseX t).2.2 w):=by
 obtain⟨rb,hrb⟩:∃rb,rb=w.heap.size:=⟨_,rfl⟩
 obtain⟨u1,hu1⟩:∃u1,u1=w.alloc (.cells #[.int .u8 0,.string ⟨#[]⟩,.string ⟨#[]⟩,.slice none 0 0,.slice none 0 0,.bool false,.bool false] 26):=⟨_,rfl⟩
 have X1:Hid (u1.heap[rb]?=some (.cells #[.int .u8 0,.string ⟨#[]⟩,.string ⟨#[]⟩,.slice none 0 0,.slice none 0 0,.bool false,.bool false] 26 (0,0))∧Below w.heap.size w u1∧rb=w.heap.size∧rb<u1.heap.size):=⟨by rw[hu1,hrb];exact heap_alloc_new w _,by rw[hu1];exact bnew _ _,hrb,by rw[hu1,hrb];simp⟩
 have CL:Hid (Calls Tryz.prog 39 #[.string (Lx.bs t)] u1 (Lx.LexGave (Lx.lex t) u1)):=lex_c t ht u1 (hL.stays X1.out.2.1)
 have HO:Hid (HasO w∧HasL w):=⟨hO,hL⟩
 obtain⟨s,hs⟩:∃s,s=Lx.bs t:=⟨_,rfl⟩
 have hsz:(s.size:Int)=(t.length:Int):=by rw[hs,Lx.bs_size]
 obtain⟨er,her⟩:∃er,er=(Lx.lex t).err:=⟨_,rfl⟩
 obtain⟨ps,hps⟩:∃ps,ps=(Lx.lex t).pos:=⟨_,rfl⟩
 have CL2:Hid (Calls Tryz.prog 39 #[.string s] u1 fun e w2=>∃ra n rc,e=.returned (.tuple #[.slice ra n rc,.int .i64 (er:Int),.int .i64 (ps:Int)])∧Hid (Below u1.heap.size u1 w2∧w2.ownsRow u1.heap.size 92 4 (.slice ra n rc) (Lx.lex t).toks.length (Lx.tcs (Lx.lex t).toks))):=by
  rw[hs,her,hps]
  refine(CL.out).mono ?_
  rintro e w2 ⟨hb,lv,rfl,ho⟩
  obtain⟨ra,rc,e1,_⟩:=own_at ho
  rw[e1] at ho ⊢
  exact⟨ra,_,rc,rfl,hb,ho⟩
 have HE:Hid (er=(Lx.lex t).err∧ps=(Lx.lex t).pos):=⟨her,hps⟩
 rw[←hs]
 clear hO hL hs ht CL her hps
 go_enter Tryz.func20,Tryz.ntmps20
 go_upto_region 1 with fail
 rw[←hu1,←hrb]
 clear hu1 hrb
 go_wp2_with fail
 refine(CL2.out).mono ?_
 rintro e w2 ⟨ra,n,rc,rfl,G2⟩
 have X2:Hid (w2.heap[rb]?=some (.cells #[.int .u8 0,.string ⟨#[]⟩,.string ⟨#[]⟩,.slice none 0 0,.slice none 0 0,.bool false,.bool false] 26 (0,0))∧Below w.heap.size w w2∧rb<w2.heap.size):=⟨(G2.out.1.block rb X1.out.2.2.2).trans X1.out.1,X1.out.2.1.trans (G2.out.1.mono X1.out.2.1.size),Nat.lt_of_lt_of_le X1.out.2.2.2 G2.out.1.size⟩
 clear CL2
 have r0:∀r v,(#[.int .u8 0,.string ⟨#[]⟩,.string ⟨#[]⟩,.slice none 0 0,.slice none 0 0,.bool false,.bool false]:Array Value)[r]?=some v→w2.cell? ⟨rb,r,none⟩=some v:=fun r v hv=>by rw[cell_of_row _ _ _ _ _ _ X2.out.1];exact hv
 have R2:=hidp r0
 clear r0
 by_cases he:er=0
 ·have q0:((er:Int) != 0)=false:=by rw[he];rfl
  have HL0:Hid ((Lx.lex t).err=0):=by show _=_;rw[←HE.out.1];exact he
  obtain⟨pb,hpb⟩:∃pb,pb=w2.heap.size:=⟨_,rfl⟩
  obtain⟨w3,hw3⟩:∃w3,w3=w2.alloc (.cells #[.slice ra n rc,.int .i64 (t.length:Int),.bool false,.int .i64 0,.int .i64 0,.int .i64 0,.slice none 0 0] 67):=⟨_,rfl⟩
  obtain⟨st,hst⟩:∃st,st=start t (Lx.lex t).toks:=⟨_,rfl⟩
  have HP3:Hid (PS w2 w3 pb st none):=by rw[hst];exact PS.begin HL0.out G2.out.2 hpb rfl hw3
  have HS:Hid (st=start t (Lx.lex t).toks∧TL st):=⟨hst,by rw[hst];exact tl_start HL0.out⟩
  have B3:Hid (Below w.heap.size w w3∧w.heap.size≤pb∧pb=w2.heap.size):=⟨X2.out.2.1.trans (by rw[hw3];exact(bnew w2 _).mono X2.out.2.1.size),by rw[hpb];exact X2.out.2.1.size,hpb⟩
  obtain⟨x,hx⟩:∃x,x=stmtX st:=⟨_,rfl⟩
  obtain⟨s4,hs4⟩:∃s4,s4=stmtS st:=⟨_,rfl⟩
  have HX:Hid (x=stmtX st∧s4=stmtS st∧XL x):=⟨hx,hs4,by rw[hx];exact xl_stmt HS.out.2⟩
  have CS:Hid (Calls Tryz.prog 40 #[.pointer (some ⟨pb,0,none⟩)] w3 fun e W'=>∃ia ic ea ec,e=.returned (.agg #[.int .u8 (x.kind:Int),.string (Lx.bs x.table),.string (Lx.bs x.field),.slice ia x.items.length ic,.slice ea x.expr.length ec,.bool x.history,.bool x.desc])∧Hid (PB w2 w3 pb s4 W'∧StV w2 W' (.agg #[.int .u8 (x.kind:Int),.string (Lx.bs x.table),.string (Lx.bs x.field),.slice ia x.items.length ic,.slice ea x.expr.length ec,.bool x.history,.bool x.desc]) x)):=by
   rw[hx,hs4]
   refine(statement_c HP3.out (HO.out.1.stays X2.out.2.1) (HO.out.2.stays X2.out.2.1)).mono ?_
   rintro e W' ⟨v,rfl,q1,q2⟩
   have q3:=q2
   obtain⟨ia,ic,ea,ec,rfl,_⟩:=q2
   exact⟨ia,ic,ea,ec,rfl,q1,q3⟩
  clear he hst hx hs4
  go_upto_region 5 with fail
  rw[←hw3,←hpb]
  clear hw3 hpb q0
  go_wp2_with fail
  refine(CS.out).mono ?_
  rintro e w4 ⟨ia,ic,ea,ec,rfl,G4⟩
  obtain⟨xb,hxb⟩:∃xb,xb=w4.heap.size:=⟨_,rfl⟩
  obtain⟨w5,hw5⟩:∃w5,w5=w4.alloc (.cells #[.int .u8 (x.kind:Int),.string (Lx.bs x.table),.string (Lx.bs x.field),.slice ia x.items.length ic,.slice ea x.expr.length ec,.bool x.history,.bool x.desc] 26):=⟨_,rfl⟩
  have X5:Hid (w5.heap[xb]?=some (.cells #[.int .u8 (x.kind:Int),.string (Lx.bs x.table),.string (Lx.bs x.field),.slice ia x.items.length ic,.slice ea x.expr.length ec,.bool x.history,.bool x.desc] 26 (0,0))∧PB w2 w3 pb s4 w5∧StV w2 w5 (.agg #[.int .u8 (x.kind:Int),.string (Lx.bs x.table),.string (Lx.bs x.field),.slice ia x.items.length ic,.slice ea x.expr.length ec,.bool x.history,.bool x.desc]) x):=by
   have hb:Below w4.heap.size w4 w5:=by rw[hw5];exact bnew _ _
   exact⟨by rw[hw5,hxb];exact heap_alloc_new w4 _,G4.out.1.call hb,G4.out.2.kt (KT.of_below (ts:=[]) hb) (by simp) (by simp)⟩
  have CE:Hid (Calls Tryz.prog 41 #[.pointer (some ⟨pb,0,none⟩)] w5 fun e W'=>e=.returned (.tuple #[])∧Hid (PB w2 w5 pb (endS s4) W')):=by
   obtain⟨sb5,k5,_⟩:=X5.out.2.1
   exact end_c k5
  clear CS G4
  go_upto_region 6 with fail
  rw[←hw5,←hxb]
  clear hw5 hxb
  go_wp2_with fail
  refine(CE.out).mono ?_
  rintro e w6 ⟨rfl,G6⟩
  obtain⟨s6,hs6⟩:∃s6,s6=endS s4:=⟨_,rfl⟩
  rw[←hs6] at G6
  have X6:Hid (w6.heap[xb]?=some (.cells #[.int .u8 (x.kind:Int),.string (Lx.bs x.table),.string (Lx.bs x.field),.slice ia x.items.length ic,.slice ea x.expr.length ec,.bool x.history,.bool x.desc] 26 (0,0))∧w6.heap[rb]?=some (.cells #[.int .u8 0,.string ⟨#[]⟩,.string ⟨#[]⟩,.slice none 0 0,.slice none 0 0,.bool false,.bool false] 26 (0,0))∧Below w.heap.size w w6∧StV w2 w6 (.agg #[.int .u8 (x.kind:Int),.string (Lx.bs x.table),.string (Lx.bs x.field),.slice ia x.items.length ic,.slice ea x.expr.length ec,.bool x.history,.bool x.desc]) x∧s6=endS s4):=by
   have k:=X5.out.2.1.kt G6.out
   have p36:PB w2 w3 pb s6 w6:=X5.out.2.1.trans G6.out
   have r3:w3.heap[rb]?=some (.cells #[.int .u8 0,.string ⟨#[]⟩,.string ⟨#[]⟩,.slice none 0 0,.slice none 0 0,.bool false,.bool false] 26 (0,0)):=(HP3.out.below.block rb X2.out.2.2).trans X2.out.1
   refine⟨k.row X5.out.1 (by decide),p36.block HP3.out r3 (by decide),?_,X5.out.2.2.kt k (by decide) (by decide),hs6⟩
   obtain⟨_,_,kk⟩:=p36
   exact B3.out.1.trans (kk.below (fun g e=>by rw[e];exact B3.out.2.1) B3.out.1.size)
  clear CE hs6
  have PC:Hid (∃why pos:Nat,why=s6.why∧pos=s6.pos∧w6.cell? ⟨pb,3,none⟩=some (.int .i64 (why:Int))∧w6.cell? ⟨pb,4,none⟩=some (.int .i64 (pos:Int))):=by
   obtain⟨_,k6,_⟩:=G6.out
   obtain⟨_,_,_,_,_,_,_,p3,p4,_⟩:=k6.cells
   exact⟨_,_,rfl,rfl,p3,p4⟩
  obtain⟨why,pos,hwhy,hpos,p3,p4⟩:=PC.out
  have HQ:Hid (parseX t=(if why≠0 then (stZero,why,pos) else if rightX x=true then (x,0,0) else (stZero,13,0))):=by
   show _=_
   rw[parseX,if_neg (by rw[HL0.out];simp),←HS.out.1,←HX.out.2.1,←HX.out.1,←X6.out.2.2.2.2,←hwhy,←hpos]
  clear PC hwhy hpos
  have r0:∀r v,(#[.int .u8 0,.string ⟨#[]⟩,.string ⟨#[]⟩,.slice none 0 0,.slice none 0 0,.bool false,.bool false]:Array Value)[r]?=some v→w6.cell? ⟨rb,r,none⟩=some v:=fun r v hv=>by rw[cell_of_row _ _ _ _ _ _ X6.out.2.1];exact hv
  have d0:=r0 0 _ rfl
  have d1:=r0 1 _ rfl
  have d2:=r0 2 _ rfl
  have d3:=r0 3 _ rfl
  have d4:=r0 4 _ rfl
  have d5:=r0 5 _ rfl
  have d6:=r0 6 _ rfl
  have rf:∀r,w6.frozen? ⟨rb,r,none⟩=false:=fun r=>by simp[World.frozen?,X6.out.2.1]
  have rl:rb<w6.heap.size:=row_lt X6.out.2.1
  clear r0
  have n1:¬rb=pb:=by have:=X2.out.2.2;have:=B3.out.2.2;omega
  have n2:¬pb=rb:=fun e=>n1 e.symm
  by_cases hw:why=0
  ·have q1:((why:Int) != 0)=false:=by rw[hw];rfl
   have HQ2:Hid (parseX t=(if rightX x=true then (x,0,0) else (stZero,13,0))):=by show _=_;rw[HQ.out,if_neg (by rw[hw];simp)]
   have FX:=hidp (X6.out.2.2.2.1.fit HX.out.2.2)
   have CK:Hid (Calls Tryz.prog 14 #[.agg #[.int .u8 (x.kind:Int),.string (Lx.bs x.table),.string (Lx.bs x.field),.slice ia x.items.length ic,.slice ea x.expr.length ec,.bool x.history,.bool x.desc]] w6 fun e w'=>e=.returned (.int .i64 (if rightX x=true then 0 else 13))∧Below w6.heap.size w6 w'):=zdS x ia ea ic ec w6 FX.out.2.1 FX.out.1 (HO.out.2.stays X6.out.2.2.1)
   have xr:∀r v,(#[.int .u8 (x.kind:Int),.string (Lx.bs x.table),.string (Lx.bs x.field),.slice ia x.items.length ic,.slice ea x.expr.length ec,.bool x.history,.bool x.desc]:Array Value)[r]?=some v→w6.cell? ⟨xb,r,none⟩=some v:=fun r v hv=>by rw[cell_of_row _ _ _ _ _ _ X6.out.1];exact hv
   have y0:=xr 0 _ rfl
   have y1:=xr 1 _ rfl
   have y2:=xr 2 _ rfl
   have y3:=xr 3 _ rfl
   have y4:=xr 4 _ rfl
   have y5:=xr 5 _ rfl
   have y6:=xr 6 _ rfl
   clear hw xr HQ
   go_wp2_with fail
   refine(CK.out).mono ?_
   rintro e w7 ⟨rfl,hb7⟩
   have X7:Hid (w7.heap[xb]?=some (.cells #[.int .u8 (x.kind:Int),.string (Lx.bs x.table),.string (Lx.bs x.field),.slice ia x.items.length ic,.slice ea x.expr.length ec,.bool x.history,.bool x.desc] 26 (0,0))∧w7.heap[rb]?=some (.cells #[.int .u8 0,.string ⟨#[]⟩,.string ⟨#[]⟩,.slice none 0 0,.slice none 0 0,.bool false,.bool false] 26 (0,0))∧Below w.heap.size w w7∧StV w2 w7 (.agg #[.int .u8 (x.kind:Int),.string (Lx.bs x.table),.string (Lx.bs x.field),.slice ia x.items.length ic,.slice ea x.expr.length ec,.bool x.history,.bool x.desc]) x):=⟨(hb7.block xb (row_lt X6.out.1)).trans X6.out.1,(hb7.block rb (row_lt X6.out.2.1)).trans X6.out.2.1,X6.out.2.2.1.trans (hb7.mono X6.out.2.2.1.size),X6.out.2.2.2.1.kt (KT.of_below (ts:=[]) hb7) (by simp) (by simp)⟩
   clear hb7 CK d0 d1 d2 d3 d4 d5 d6 rf rl y0 y1 y2 y3 y4 y5 y6 p3 p4 q1
   have r0:∀r v,(#[.int .u8 0,.string ⟨#[]⟩,.string ⟨#[]⟩,.slice none 0 0,.slice none 0 0,.bool false,.bool false]:Array Value)[r]?=some v→w7.cell? ⟨rb,r,none⟩=some v:=fun r v hv=>by rw[cell_of_row _ _ _ _ _ _ X7.out.2.1];exact hv
   have d0:=r0 0 _ rfl
   have d1:=r0 1 _ rfl
   have d2:=r0 2 _ rfl
   have d3:=r0 3 _ rfl
   have d4:=r0 4 _ rfl
   have d5:=r0 5 _ rfl
   have d6:=r0 6 _ rfl
   have rf:∀r,w7.frozen? ⟨rb,r,none⟩=false:=fun r=>by simp[World.frozen?,X7.out.2.1]
   have rl:rb<w7.heap.size:=row_lt X7.out.2.1
   have xr:∀r v,(#[.int .u8 (x.kind:Int),.string (Lx.bs x.table),.string (Lx.bs x.field),.slice ia x.items.length ic,.slice ea x.expr.length ec,.bool x.history,.bool x.desc]:Array Value)[r]?=some v→w7.cell? ⟨xb,r,none⟩=some v:=fun r v hv=>by rw[cell_of_row _ _ _ _ _ _ X7.out.1];exact hv
   have y0:=xr 0 _ rfl
   have y1:=xr 1 _ rfl
   have y2:=xr 2 _ rfl
   have y3:=xr 3 _ rfl
   have y4:=xr 4 _ rfl
   have y5:=xr 5 _ rfl
   have y6:=xr 6 _ rfl
   clear r0 xr
   cases hr:rightX x with
   | true =>
    rw[if_pos rfl]
    have HQ3:Hid (parseX t=(x,0,0)):=by show _=_;rw[HQ2.out,hr];rfl
    have FIN:Hid ((w7.setCells rb 0 [.int .u8 (x.kind:Int),.string (Lx.bs x.table),.string (Lx.bs x.field),.slice ia x.items.length ic,.slice ea x.expr.length ec,.bool x.history,.bool x.desc]).heap[rb]?=some (.cells #[.int .u8 (x.kind:Int),.string (Lx.bs x.table),.string (Lx.bs x.field),.slice ia x.items.length ic,.slice ea x.expr.length ec,.bool x.history,.bool x.desc] 26 (0,0))∧Gave (parseX t).1 (parseX t).2.1 (parseX t).2.2 w (.returned (.tuple #[.agg #[.int .u8 (x.kind:Int),.string (Lx.bs x.table),.string (Lx.bs x.field),.slice ia x.items.length ic,.slice ea x.expr.length ec,.bool x.history,.bool x.desc],.int .i64 0,.int .i64 0])) (w7.setCells rb 0 [.int .u8 (x.kind:Int),.string (Lx.bs x.table),.string (Lx.bs x.field),.slice ia x.items.length ic,.slice ea x.expr.length ec,.bool x.history,.bool x.desc])):=by
     rw[HQ3.out]
     refine⟨put7 X7.out.2.1 _ _ _ _ _ _ _,ia,ic,ea,ec,rfl,?_⟩
     have k:=zbS rb [.int .u8 (x.kind:Int),.string (Lx.bs x.table),.string (Lx.bs x.field),.slice ia x.items.length ic,.slice ea x.expr.length ec,.bool x.history,.bool x.desc] 0 w7
     have kb:Below w.heap.size w7 (w7.setCells rb 0 [.int .u8 (x.kind:Int),.string (Lx.bs x.table),.string (Lx.bs x.field),.slice ia x.items.length ic,.slice ea x.expr.length ec,.bool x.history,.bool x.desc]):=k.below (fun g e=>by rw[e,X1.out.2.2.1];exact Nat.le_refl _) X7.out.2.2.1.size
     have kt:KT [26] w7 (w7.setCells rb 0 [.int .u8 (x.kind:Int),.string (Lx.bs x.table),.string (Lx.bs x.field),.slice ia x.items.length ic,.slice ea x.expr.length ec,.bool x.history,.bool x.desc]):=KT.sets X7.out.2.1
     refine⟨X7.out.2.2.1.trans kb,?_,FX.out.2.1,FX.out.2.2⟩
     exact((X7.out.2.2.2.kt kt (by decide) (by decide)).fit HX.out.2.2).1
    clear hr
    go_wp2
    exact bodyPost_ret (zbJ (p:=2) (u:=3) (v:=4) (ty:=26) rfl _ _ rb 26 #[.int .u8 (x.kind:Int),.string (Lx.bs x.table),.string (Lx.bs x.field),.slice ia x.items.length ic,.slice ea x.expr.length ec,.bool x.history,.bool x.desc] (0,0) _ rfl FIN.out.1 Tryz.underlying26 rfl infoStmt) rfl FIN.out.2
   | false =>
    rw[if_neg (by decide)]
    have HQ3:Hid (parseX t=(stZero,13,0)):=by show _=_;rw[HQ2.out,hr];rfl
    have FIN:=hidp (gave_none (why:=13) (pos:=0) (w7:=w7.setCells rb 0 [.int .u8 0,.string ⟨#[]⟩,.string ⟨#[]⟩,.slice none 0 0,.slice none 0 0,.bool false,.bool false]) X7.out.2.1 X7.out.2.2.1 X1.out.2.2.1 ⟨_,rfl,rfl,rfl,rfl,rfl⟩)
    clear hr
    go_wp2
    exact bodyPost_ret (zbJ (p:=2) (u:=3) (v:=4) (ty:=26) rfl _ _ rb 26 #[.int .u8 0,.string ⟨#[]⟩,.string ⟨#[]⟩,.slice none 0 0,.slice none 0 0,.bool false,.bool false] (0,0) _ rfl FIN.out.1 Tryz.underlying26 rfl infoStmt) rfl (by rw[HQ3.out];exact FIN.out.2)
  ·have q1:((why:Int) != 0)=true:=by simp;omega
   have HQ3:Hid (parseX t=(stZero,why,pos)):=by show _=_;rw[HQ.out,if_pos hw]
   have FIN:Hid (∀w7:World,(∃W,W=w6.setCells rb 0 [.int .u8 0,.string ⟨#[]⟩,.string ⟨#[]⟩,.slice none 0 0,.slice none 0 0,.bool false,.bool false]∧w7.heap=W.heap∧w7.os=W.os∧w7.tape=W.tape∧w7.output=W.output)→w7.heap[rb]?=some (.cells #[.int .u8 0,.string ⟨#[]⟩,.string ⟨#[]⟩,.slice none 0 0,.slice none 0 0,.bool false,.bool false] 26 (0,0))∧Gave (parseX t).1 (parseX t).2.1 (parseX t).2.2 w (.returned (.tuple #[.agg #[.int .u8 0,.string ⟨#[]⟩,.string ⟨#[]⟩,.slice none 0 0,.slice none 0 0,.bool false,.bool false],.int .i64 (why:Int),.int .i64 (pos:Int)])) w7):=fun w7 h7=>by
    rw[HQ3.out]
    exact gave_none X6.out.2.1 X6.out.2.2.1 X1.out.2.2.1 h7
   clear hw
   go_upto_region 8 with fail
   go_region
   all_goals go_wp2
   have FIN2:Hid (∀W:World,W=w6.setCells rb 0 [.int .u8 0,.string ⟨#[]⟩,.string ⟨#[]⟩,.slice none 0 0,.slice none 0 0,.bool false,.bool false]→W.drew.heap[rb]?=some (.cells #[.int .u8 0,.string ⟨#[]⟩,.string ⟨#[]⟩,.slice none 0 0,.slice none 0 0,.bool false,.bool false] 26 (0,0))∧Gave (parseX t).1 (parseX t).2.1 (parseX t).2.2 w (.returned (.tuple #[.agg #[.int .u8 0,.string ⟨#[]⟩,.string ⟨#[]⟩,.slice none 0 0,.slice none 0 0,.bool false,.bool false],.int .i64 (why:Int),.int .i64 (pos:Int)])) W.drew):=fun W hW=>FIN.out _ ⟨W,hW,rfl,rfl,rfl,rfl⟩
   all_goals (refine bodyPost_ret (zbJ (p:=2) (u:=3) (v:=4) (ty:=26) rfl _ _ rb 26 #[.int .u8 0,.string ⟨#[]⟩,.string ⟨#[]⟩,.slice none 0 0,.slice none 0 0,.bool false,.bool false] (0,0) _ rfl (FIN2.out _ ?e1).1 Tryz.underlying26 rfl infoStmt) rfl (FIN2.out _ ?e2).2<;>rfl)
 ·have q0:((er:Int) != 0)=true:=by simp;omega
  have d0:=R2.out 0 _ rfl
  have d1:=R2.out 1 _ rfl
  have d2:=R2.out 2 _ rfl
  have d3:=R2.out 3 _ rfl
  have d4:=R2.out 4 _ rfl
  have d5:=R2.out 5 _ rfl
  have d6:=R2.out 6 _ rfl
  have rf:∀r,w2.frozen? ⟨rb,r,none⟩=false:=fun r=>by simp[World.frozen?,X2.out.1]
  have rl:rb<w2.heap.size:=X2.out.2.2
  have HQ3:Hid (parseX t=(stZero,er,ps)):=by show _=_;rw[parseX,if_pos (by rw[←HE.out.1];exact he),←HE.out.1,←HE.out.2]
  have FIN:=hidp (gave_none (why:=er) (pos:=ps) (w7:=w2.setCells rb 0 [.int .u8 0,.string ⟨#[]⟩,.string ⟨#[]⟩,.slice none 0 0,.slice none 0 0,.bool false,.bool false]) X2.out.1 X2.out.2.1 X1.out.2.2.1 ⟨_,rfl,rfl,rfl,rfl,rfl⟩)
  clear he
  go_wp2
  exact bodyPost_ret (zbJ (p:=2) (u:=3) (v:=4) (ty:=26) rfl _ _ rb 26 #[.int .u8 0,.string ⟨#[]⟩,.string ⟨#[]⟩,.slice none 0 0,.slice none 0 0,.bool false,.bool false] (0,0) _ rfl FIN.out.1 Tryz.underlying26 rfl infoStmt) rfl (by rw[HQ3.out];exact FIN.out.2)
end Ps
end Go.Proofs.YtfhkaffakniioaaGreatDoor
