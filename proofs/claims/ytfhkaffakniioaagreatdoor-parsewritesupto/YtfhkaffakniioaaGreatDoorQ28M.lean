/- Several texts, joined. -/
import Derived.Test.YtfhkaffakniioaaGreatDoorQ27M
set_option maxHeartbeats 8000000
set_option maxRecDepth 100000
namespace Go.Proofs.YtfhkaffakniioaaGreatDoor
open Go.RowKit
namespace Ps
attribute [local go_sem] zaR
theorem infoItem:(Tryz.prog.info? 43).map (fun i=>(i.zero,i.size,i.bytes))=some (some (.agg #[.string ⟨#[]⟩,.slice none 0 0]),2,40):=by kernel_rfl
structure PV (W0:World) (pb X nb bx xb:Nat) (C:Value→Array Value) (ty:TypeId) (k:Nat) (l:List It) (W:World):Prop where
 len:l.length=k
 txt:∀i∈l,i.name.length≤20000
 nm:NM W X nb (l.map It.name)
 bo:BO W bx pb
 it:IT W0 W X xb C ty l
 le:X≤nb∧X≤xb
def updC (tb:Bs) (iv:Value):Array Value:=#[.int .u8 4,.string (Lx.bs tb),.string ⟨#[]⟩,iv,.slice none 0 0,.bool false,.bool false]
def selC (iv:Value):Array Value:=#[iv]
section
variable {W0:World} {pb nb bx xb X k:Nat} {C:Value→Array Value} {ty:TypeId} {W W':World} {l:List It} {s s':S} {sb:Option Nat}
theorem PV.kt {ts:List TypeId} (h:PV W0 pb X nb bx xb C ty k l W) (q:KT ts W W') (h0:ty ∉ ts) (h1:50 ∉ ts) (h2:9 ∉ ts) (h3:99 ∉ ts) (h4:43 ∉ ts) (h5:29 ∉ ts):PV W0 pb X nb bx xb C ty k l W' :=
 ⟨h.len,h.txt,h.nm.kt q h1 h2,h.bo.kt q h3,h.it.kt q h0 h4 h5,h.le⟩
theorem PV.kept (hty:ty≠67):∀(k:Nat) (e:List It) (W W':World) (s s':S) (sb:Option Nat),PS W0 W pb s sb→PB W0 W pb s' W'→PV W0 pb X nb bx xb C ty k e W→PV W0 pb X nb bx xb C ty k e W':=fun _ _ _ _ _ _ _ hp ⟨_,_,hk⟩ h=>h.kt (KT.parser hp hk) (by simpa using hty) (by decide) (by decide) (by decide) (by decide) (by decide)
theorem updA_c {tb:Bs} (hW0:W0.heap.size≤X) (hO:HasO W0) (hL:HasL W0):PartB W0 pb X 108 #[.pointer (some ⟨bx,0,none⟩),.pointer (some ⟨nb,0,none⟩),.pointer (some ⟨xb,0,none⟩)] (PV W0 pb X nb bx xb (updC tb) 26) updP 20000:=by
 intro W s sb l k hk hX h he hm
 obtain⟨i0,hi,hz0,hz1,hz2⟩:=zaJ zbE
 obtain⟨j0,ji,jz0,jz1,jz2⟩:=zaJ infoItem
 obtain⟨nv,n0,own⟩:=he.nm
 obtain⟨a,c,rfl⟩:=own.form
 obtain⟨ns,hns⟩:∃ns,ns=l.map It.name:=⟨_,rfl⟩
 have hlen:ns.length=k:=by rw[hns,List.length_map,he.len]
 rw[←hns] at n0 own
 rw[hlen] at n0 own
 obtain⟨x,hx⟩:∃x,x=nameT ns s:=⟨_,rfl⟩
 obtain⟨z,hz⟩:∃z,z=name ns s:=⟨_,rfl⟩
 obtain⟨E,hE⟩:∃E,E=exprS (must [[61]] z):=⟨_,rfl⟩
 have HU:Hid (updP s l=(E,l++[⟨x,E.steps⟩])):=by show _=_;rw[updP,←hns,←hz,←hx,←hE]
 have HNS:Hid (ns=l.map It.name):=hns
 have HE:Hid (PV W0 pb X nb bx xb (updC tb) 26 k l W∧ns.length=k∧X≤W.heap.size∧W0.heap.size≤X∧k≤20000∧PS W0 W pb s sb):=⟨he,hlen,hX,hW0,hk,h⟩
 have nc:W.cell? ⟨nb,0,none⟩=some (.slice a k c):=by rw[cell_of_row _ _ _ _ _ _ n0];rfl
 have bc:W.cell? ⟨bx,0,none⟩=some (.pointer (some ⟨pb,0,none⟩)):=by rw[cell_of_row _ _ _ _ _ _ he.bo];rfl
 have CN:Hid (∀W',Below W.heap.size W W'→Calls Tryz.prog 72 #[.pointer (some ⟨pb,0,none⟩),.slice a k c] W' fun e W''=>e=.returned (.string (Lx.bs x))∧Hid (PB W0 W pb z W''∧x.length≤20000)):=fun W' hb=>by
  obtain⟨q1,q2,q3,q4⟩:=own.sr
  rw[hx,hz]
  exact names_pb ⟨sb,h.call hb,Kp.of_below hb⟩ (q3.call hb) q1 (by omega)
 have CM:Hid (∀W',PB W0 W pb z W'→Calls Tryz.prog 70 #[.pointer (some ⟨pb,0,none⟩),.slice (some ⟨W'.heap.size,0,none⟩) 1 1] (W'.alloc (.cells #[.string ⟨#[61]⟩] 9)) fun e W''=>e=.returned (.string (Lx.bs (mustT [[61]] z)))∧Hid (PB W0 W pb (must [[61]] z) W'')):=fun W' hg=>must_pb hg (ts:=[[61]]) rfl rfl (by decide)
 have CE:Hid (∀W1 W' sb',PS W0 W1 pb (must [[61]] z) sb'→Below W1.heap.size W1 W'→Calls Tryz.prog 73 #[.pointer (some ⟨pb,0,none⟩)] W' fun e W''=>∃ea ec,e=.returned (.slice ea E.steps.length ec)∧Hid (PB W0 W1 pb E W''∧RowE W0 W'' (.slice ea E.steps.length ec) E.steps)):=fun W1 W' sb' hp hb=>by
  rw[hE]
  refine(expr_pb (W:=W1) ⟨sb',hp.call hb,Kp.of_below hb⟩ hO hL).mono ?_
  rintro e W'' ⟨ea,ec,rfl,q⟩
  exact⟨ea,ec,rfl,q.out.1,q.out.2.2⟩
 have fit63:Hid (k+1≤maxLen):=by show _≤_;unfold maxLen;omega
 have fit47:Hid ((k+1)*16≤140737488355328):=by show _≤_;omega
 have fitb:Hid ((k+1)*40≤140737488355328):=by show _≤_;omega
 clear hns h he n0 own hk hX hW0 hm hO hL hx hz hE hlen
 go_enter Tryz.func108,Tryz.ntmps108
 go_upto_region 0 with fail
 go_region_law (first
  |(go_simp;go_at_call 72;refine(CN.out _ ?_).mono ?_;(first | exact Below.refl _ _ | exact(Below.refl _ _).drew);rintro e w1 ⟨rfl,G1⟩)
  | fail "no arm")
 all_goals
  have V1:Hid (PV W0 pb X nb bx xb (updC tb) 26 k l w1):=PV.kept (by decide) k l W w1 s z sb HE.out.2.2.2.2.2 G1.out.1 HE.out.1
  have y1:w1.cell? ⟨bx,0,none⟩=some (.pointer (some ⟨pb,0,none⟩)):=by rw[cell_of_row _ _ _ _ _ _ V1.out.bo];rfl
  clear nc bc
  go_wp2_with fail
  refine(CM.out w1 G1.out.1).mono ?_
  rintro e w2 ⟨rfl,G2⟩
  have V2:Hid (PV W0 pb X nb bx xb (updC tb) 26 k l w2):=PV.kept (by decide) k l W w2 s (must [[61]] z) sb HE.out.2.2.2.2.2 G2.out HE.out.1
  clear y1
  obtain⟨nv2,n2,own2⟩:=V2.out.nm
  rw[←HNS.out] at own2
  obtain⟨a2,c2,rfl⟩:=own2.form
  rw[HE.out.2.1] at n2 own2
  have HN2:Hid (w2.heap[nb]?=some (.cells #[.slice a2 k c2] 50 (0,0))∧OwnT w2 X (.slice a2 k c2) ns):=⟨n2,own2⟩
  have O2:Hid (w2.ownsRow X 9 1 (.slice a2 k c2) k (ns.map fun x=>Value.string (Lx.bs x))):=by
   have:=own2
   show World.ownsRow _ _ _ _ _ _ _
   rw[←HE.out.2.1]
   rw[←HE.out.2.1] at this
   exact this
  have nc2:w2.cell? ⟨nb,0,none⟩=some (.slice a2 k c2):=by rw[cell_of_row _ _ _ _ _ _ n2];rfl
  have SZ2:Hid (X≤w2.heap.size):=Nat.le_trans HE.out.2.2.1 G2.out.size
  clear n2 own2
  go_wp2_with (at_builtin;refine wpList_append_own _ rfl _ _ 50 rfl X 9 i0 (.string ⟨#[]⟩) 1 16 Tryz.underlying50 hi hz0 hz1 hz2 rfl (by decide) _ _ _ rfl (O2.out.alloc _) ⟨w2.heap.size,0,none⟩ 1 1 [.string (Lx.bs x)] rfl rfl ?c1 ?c2 fit63.out fit47.out ?c5 ?_)
  case c1 =>
   intro j u hj
   match j,hj with
   | 0,hj=>simp at hj;subst hj;simp[Addr.add]
  case c2=>intro u hu;simp at hu;subst hu;rfl
  case c5=>have:=SZ2.out;simp;omega
  intro v' w5 hown5 hgrow5 _
  obtain⟨a5,c5,rfl⟩:=zcY hown5
  have N5:Hid (w5.heap[nb]?=some (.cells #[.slice a2 k c2] 50 (0,0))∧NM (w5.setCell ⟨nb,0,none⟩ (.slice a5 (k+1) c5)) X nb (ns++[x])∧KT [9,50] w2 (w5.setCell ⟨nb,0,none⟩ (.slice a5 (k+1) c5))∧Kp (fun g=>g=pb∨X≤g) w2 (w5.setCell ⟨nb,0,none⟩ (.slice a5 (k+1) c5))):=NM.push HN2.out.1 HN2.out.2 HE.out.1.le.1 (bnew w2 _) hgrow5 (by rw[HE.out.2.1];exact hown5)
  have nc5:w5.cell? ⟨nb,0,none⟩=some (.slice a2 k c2):=by rw[cell_of_row _ _ _ _ _ _ N5.out.1];rfl
  have nf5:∀r,w5.frozen? ⟨nb,r,none⟩=false:=fun r=>by simp[World.frozen?,N5.out.1]
  clear hown5 hgrow5 nc2
  go_upto_region 3 with fail
  obtain⟨w6,hw6⟩:∃w6,w6=w5.setCell ⟨nb,0,none⟩ (.slice a5 (k+1) c5):=⟨_,rfl⟩
  have N6:Hid (NM w6 X nb (ns++[x])∧KT [9,50] w2 w6∧Kp (fun g=>g=pb∨X≤g) w2 w6):=by rw[hw6];exact N5.out.2
  rw[←hw6]
  clear hw6 nc5 nf5 N5
  obtain⟨sb2,P2⟩:∃sb2,Hid (PS W0 w2 pb (must [[61]] z) sb2∧Kp (fun g=>g=pb) W w2):=G2.out
  have P6:Hid (PS W0 w6 pb (must [[61]] z) sb2):=P2.out.1.kt N6.out.2.1 N6.out.2.2 HE.out.2.2.2.1 (by decide) (by decide)
  have T6:Hid (IT W0 w6 X xb (updC tb) 26 l∧BO w6 bx pb):=⟨V2.out.it.kt N6.out.2.1 (by decide) (by decide) (by decide),V2.out.bo.kt N6.out.2.1 (by decide)⟩
  obtain⟨iv,x6,L,hLl,ownI,rows⟩:=T6.out.1
  obtain⟨a6,c6,rfl⟩:=zcY ownI
  have hLk:L.length=k:=by rw[←HE.out.1.len,←hLl,List.length_map]
  rw[hLk] at x6 ownI
  have H6:Hid (w6.heap[xb]?=some (.cells (updC tb (.slice a6 k c6)) 26 (0,0))∧w6.ownsRow X 43 2 (.slice a6 k c6) k (ics L)∧(∀x∈L,RowE W0 w6 x.2 x.1.expr)∧L.map Prod.fst=l∧L.length=k):=⟨x6,ownI,rows,hLl,hLk⟩
  have xc6:w6.cell? ⟨xb,3,none⟩=some (.slice a6 k c6):=by rw[cell_of_row _ _ _ _ _ _ x6];rfl
  have bc6:w6.cell? ⟨bx,0,none⟩=some (.pointer (some ⟨pb,0,none⟩)):=by rw[cell_of_row _ _ _ _ _ _ T6.out.2];rfl
  have lt61:=block_lt_of_cell xc6
  have lt62:=block_lt_of_cell bc6
  clear x6 ownI rows hLl hLk G2 V1
  go_region_law (first
   |(go_simp;go_at_call 73;refine(CE.out w6 _ sb2 P6.out ?_).mono ?_;(first | exact Below.refl _ _ | exact(Below.refl _ _).drew);rintro e w7 ⟨ea,ec,rfl,G7⟩
     have K7:Hid (KT [67] w6 w7∧X≤w7.heap.size):=(by obtain⟨_,_,k7⟩:=G7.out.1;exact⟨KT.parser P6.out k7,Nat.le_trans (Nat.le_trans SZ2.out N6.out.2.1.size) k7.size⟩)
     have x7:=K7.out.1.row H6.out.1 (by decide)
     have O7:Hid (w7.ownsRow X 43 2 (.slice a6 k c6) k (ics L)):=K7.out.1.own H6.out.2.1 (by decide)
     have xc7:w7.cell? ⟨xb,3,none⟩=some (.slice a6 k c6):=(by rw[cell_of_row _ _ _ _ _ _ x7];rfl)
     have lt71:=block_lt_of_cell xc7
     clear x7)
   |(refine step_append_lies _ (by rfl) _ _ _ (by rfl) X 43 j0 _ 2 40 Tryz.underlying23 ji jz0 jz1 jz2 rfl (by omega) _ _ _ (by rfl) (O7.out.alloc _) ⟨w7.heap.size,0,none⟩ 1 1 [.string (Lx.bs x),.slice ea E.steps.length ec] (by rfl) (by rfl) (World.news_of_block (heap_alloc_new w7 _)) (by simp[Value.oneCell']) (by omega) fit63.out fitb.out (by have:=K7.out.2;simp;omega) (w7.heap.size+1) (by simp) ?_;intro gg cap w8 hown8 hgrow8 hat hglt
     have N8:Hid (w8.heap[xb]?=some (.cells (updC tb (.slice a6 k c6)) 26 (0,0))∧IT W0 (w8.setCell ⟨xb,3,none⟩ (.slice (some ⟨gg,0,none⟩) (k+1) cap)) X xb (updC tb) 26 (L.map Prod.fst++[⟨x,E.steps⟩])∧KT [43,26] w7 (w8.setCell ⟨xb,3,none⟩ (.slice (some ⟨gg,0,none⟩) (k+1) cap))∧Kp (fun g=>g=pb∨X≤g) w7 (w8.setCell ⟨xb,3,none⟩ (.slice (some ⟨gg,0,none⟩) (k+1) cap))):=IT.push (K7.out.1.row H6.out.1 (by decide)) (by rw[H6.out.2.2.2.2];exact O7.out) (fun y hy=>(H6.out.2.2.1 y hy).kt K7.out.1 (by decide)) HE.out.1.le.2 (by first | exact bnew w7 _ | exact(bnew w7 _).drew) hgrow8 (by rw[H6.out.2.2.2.2];exact hown8) G7.out.2 rfl (by decide) (by decide)
     have xc8:w8.cell? ⟨xb,3,none⟩=some (.slice a6 k c6):=(by rw[cell_of_row _ _ _ _ _ _ N8.out.1];rfl)
     have xf8:∀r,w8.frozen? ⟨xb,r,none⟩=false:=(fun r=>by simp[World.frozen?,N8.out.1])
     clear hown8 hgrow8 hat hglt)
   | fail "no arm")
  all_goals
   obtain⟨w9,hw9⟩:∃w9,w9=w8.setCell ⟨xb,3,none⟩ (.slice (some ⟨gg,0,none⟩) (k+1) cap):=⟨_,rfl⟩
   have F9:Hid (PBX W0 pb X W E w9∧PV W0 pb X nb bx xb (updC tb) 26 (k+1) (l++[⟨x,E.steps⟩]) w9):=by
    have N9:IT W0 w9 X xb (updC tb) 26 (L.map Prod.fst++[⟨x,E.steps⟩])∧KT [43,26] w7 w9∧Kp (fun g=>g=pb∨X≤g) w7 w9:=by rw[hw9];exact N8.out.2
    obtain⟨sb7,p7,k7⟩:=G7.out.1
    have kt:KT [67,43,26] w6 w9:=(K7.out.1.mono (by decide)).trans (N9.2.1.mono (by decide))
    refine⟨⟨sb7,p7.kt N9.2.1 N9.2.2 HE.out.2.2.2.1 (by decide) (by decide),zaN (zaN (zaN (kx_of P2.out.2) N6.out.2.2) (kx_of k7)) N9.2.2⟩,?_⟩
    refine⟨by rw[List.length_append,HE.out.1.len];rfl,fun i hi=>?_,by rw[List.map_append,←HNS.out];exact N6.out.1.kt kt (by decide) (by decide),T6.out.2.kt kt (by decide),by rw[←H6.out.2.2.2.1];exact N9.1,HE.out.1.le⟩
    rcases List.mem_append.1 hi with q | q
    ·exact HE.out.1.txt i q
    ·rw[List.mem_singleton.1 q];exact G1.out.2
   rw[←hw9]
   clear hw9 xc8 xf8 N8 xc6 bc6 lt61 lt62
   first | exact bodyPost_end (results_none (by rfl) _ _ _) rfl ⟨rfl,by rw[HU.out];exact F9.out⟩ | (go_wp2;exact bodyPost_end (results_none (by rfl) _ _ _) rfl ⟨rfl,by rw[HU.out];exact F9.out⟩)
end
theorem haveNames_c (t:Bs) (m:Nat) (hm:m≤64) (ht:t.length≤4611686018427387904) (w:World) (hL:HasL w):Calls Tryz.prog 59 #[.string (Lx.bs t),.int .i64 (m:Int)] w fun e w'=>e=.returned (.bool (haveNs t m))∧Below w.heap.size w w':=by
 obtain⟨s,hs⟩:∃s,s=Lx.bs t:=⟨_,rfl⟩
 rw[←hs]
 by_cases hz:m=0
 ·have z1:((m:Int)==0)=true:=by rw[hz];rfl
  obtain⟨b,hb⟩:∃b,b=decide (t=[]):=⟨_,rfl⟩
  have HQ:Hid (haveNs t m=b):=by show _=_;rw[haveNs,if_pos hz,hb]
  have HB:Hid ((s.toList==[])=b):=by
   show _=_
   rw[hb,hs,Lx.bs_toList]
   cases t<;>rfl
  clear hs hz hL hm ht hb
  go_enter Tryz.func59,Tryz.ntmps59
  go_wp2
  go_ret
  exact⟨by rw[HQ.out];first | rfl | (rw[←HB.out];first | rfl | (simp)),Below.refl _ _⟩
 ·have z1:((m:Int)==0)=false:=by simp;omega
  obtain⟨k,hk⟩:∃k,k=t.count 44:=⟨_,rfl⟩
  have hk2:k≤t.length:=by rw[hk];exact List.count_le_length
  have CN:Hid (Calls Tryz.prog 87 #[.string s,.string ⟨#[44]⟩] w fun e w'=>e=.returned (.int .i64 (k:Int))∧w'=w):=by
   have h:=Tryz.strings_Count_one s 44 w
   rw[hs,Lx.bs_data] at h
   rw[hk,hs]
   exact h
  obtain⟨m1,hm1⟩:∃m1,m1=m - 1:=⟨_,rfl⟩
  have HV:Hid (IntKind.i64.wrap ((m:Int) - 1)=(m1:Int)∧wrap64 ((m:Int) - 1)=(m1:Int)):=wrp (by omega) (by omega)
  by_cases he:k=m1
  ·have q1:((k:Int)==(m1:Int))=true:=by rw[he];simp
   obtain⟨l,hl⟩:∃l,l=cut 44 t:=⟨_,rfl⟩
   have HQ:Hid (haveNs t m=areNs [] l):=by
    show _=_
    rw[haveNs,if_neg hz,decide_eq_true (by omega:t.count 44+1=m),hl];rfl
   obtain⟨n,hn⟩:∃n,n=l.length:=⟨_,rfl⟩
   have CS:Hid (Calls Tryz.prog 85 #[.string s,.string ⟨#[44]⟩] w fun e w'=>∃g,e=.returned (.slice (some ⟨g,0,none⟩) n n)∧Below w.heap.size w w'∧SR w' (some ⟨g,0,none⟩) l):=by
    rw[hn,hl,hs]
    exact split_c 44 t ht (by omega) w
   have hn2:n≤64:=by rw[hn,hl,zbQ];omega
   have CA:Hid (∀W g,Below w.heap.size w W→SR W (some ⟨g,0,none⟩) l→Calls Tryz.prog 88 #[.slice (some ⟨g,0,none⟩) n n] W fun e w'=>e=.returned (.bool (areNs [] l))∧Below W.heap.size W w'):=fun W g hW hr=>areNames_c l _ n n W hn (by omega) (Nat.le_refl _) hr (hL.stays hW)
   obtain⟨b,hb⟩:∃b,b=areNs [] l:=⟨_,rfl⟩
   rw[←hb] at CA HQ
   clear hs hz hL hm ht hb hn hl hk hk2 hm1 he hn2
   obtain⟨v1,v2⟩:=HV.out
   go_enter Tryz.func59,Tryz.ntmps59
   go_wp2_with fail
   refine(CN.out).mono ?_
   rintro e w1 ⟨rfl,rfl⟩
   go_wp2_with fail
   clear v1 v2
   refine(CS.out).mono ?_
   rintro e w2 ⟨g,rfl,hb2,hr2⟩
   have X2:=hidp hb2
   have CA2:=hidp (CA.out w2 g hb2 hr2)
   clear hb2 hr2 CA CS
   go_wp2_with fail
   refine(CA2.out).mono ?_
   rintro e w3 ⟨rfl,hb3⟩
   have X3:Hid (Below w1.heap.size w1 w3):=X2.out.trans (hb3.mono X2.out.size)
   clear hb3
   go_wp2
   go_ret
   exact⟨by rw[HQ.out];rfl,X3.out⟩
  ·have q1:((k:Int)==(m1:Int))=false:=by simp;omega
   have HQ:Hid (haveNs t m=false):=by
    show _=_
    rw[haveNs,if_neg hz,decide_eq_false (by omega:¬t.count 44+1=m)];rfl
   clear hs hz hL hm ht hk hk2 hm1 he
   obtain⟨v1,v2⟩:=HV.out
   go_enter Tryz.func59,Tryz.ntmps59
   go_wp2_with fail
   refine(CN.out).mono ?_
   rintro e w1 ⟨rfl,rfl⟩
   go_wp2
   clear v1 v2
   go_ret
   exact⟨by rw[HQ.out];rfl,Below.refl _ _⟩
def pv (p:Sp):Value:=.agg #[.int .u8 (p.kind:Int),.string (Lx.bs p.text),.int .i64 p.n]
theorem takes_c (p:Sp) (hp:(p.kind=7∨p.kind=8)→0≤p.n) (w:World):Calls Tryz.prog 30 #[.agg #[.int .u8 (p.kind:Int),.string (Lx.bs p.text),.int .i64 p.n]] w fun e w'=>e=.returned (.int .i64 (zaI p:Int))∧Below w.heap.size w w':=by
 obtain⟨pk,pt,pn⟩:=p
 obtain⟨w1,hw1⟩:∃w1,w1=w.alloc (.cells #[.int .u8 (pk:Int),.string (Lx.bs pt),.int .i64 pn] 29):=⟨_,rfl⟩
 obtain⟨T,hT⟩:∃T,T=w.heap.size:=⟨_,rfl⟩
 have X1:Hid (w1.heap[T]?=some (.cells #[.int .u8 (pk:Int),.string (Lx.bs pt),.int .i64 pn] 29 (0,0))∧Below w.heap.size w w1):=⟨by rw[hw1,hT];exact heap_alloc_new w _,by rw[hw1];exact bnew _ _⟩
 obtain⟨r,hr⟩:∃r:Int,r=(zaI ⟨pk,pt,pn⟩:Int):=⟨_,rfl⟩
 have y0:w1.cell? ⟨T,0,none⟩=some (.int .u8 (pk:Int)):=by rw[cell_of_row _ _ _ _ _ _ X1.out.1];rfl
 have y2:w1.cell? ⟨T,2,none⟩=some (.int .i64 pn):=by rw[cell_of_row _ _ _ _ _ _ X1.out.1];rfl
 rw[←hr]
 by_cases h7:pk=7
 ·have q7:((pk:Int)==7)=true:=by rw[h7];rfl
  have HR:Hid (r=pn):=by show _=_;rw[hr];have:=hp (.inl h7);rw[zaI,if_pos (.inl h7)];show((pn.toNat:Nat):Int)=pn;exact Int.toNat_of_nonneg this
  clear hp h7 hr
  go_enter Tryz.func30,Tryz.ntmps30
  go_upto_region 1 with fail
  rw[←hw1,←hT]
  clear hw1 hT
  go_wp2
  go_ret
  exact⟨by rw[HR.out];rfl,X1.out.2⟩
 ·have q7:((pk:Int)==7)=false:=by simp;omega
  by_cases h8:pk=8
  ·have q8:((pk:Int)==8)=true:=by rw[h8];rfl
   have HR:Hid (r=pn):=by show _=_;rw[hr];have:=hp (.inr h8);rw[zaI,if_pos (.inr h8)];show((pn.toNat:Nat):Int)=pn;exact Int.toNat_of_nonneg this
   clear hp h7 h8 hr
   go_enter Tryz.func30,Tryz.ntmps30
   go_upto_region 1 with fail
   rw[←hw1,←hT]
   clear hw1 hT
   go_wp2
   go_ret
   exact⟨by rw[HR.out];rfl,X1.out.2⟩
  ·have q8:((pk:Int)==8)=false:=by simp;omega
   have hn:¬(pk=7∨pk=8):=fun q=>q.elim h7 h8
   by_cases h12:12≤pk
   ·have q12:(12:Int)≤(pk:Int):=by omega
    have HR:Hid (r=2):=by show _=_;rw[hr,zaI,if_neg hn,if_pos h12];rfl
    clear hp h7 h8 h12 hn hr
    go_enter Tryz.func30,Tryz.ntmps30
    go_upto_region 1 with fail
    rw[←hw1,←hT]
    clear hw1 hT
    go_wp2
    go_ret
    exact⟨by rw[HR.out];rfl,X1.out.2⟩
   ·have q12:¬(12:Int)≤(pk:Int):=by omega
    by_cases h9:9≤pk
    ·have q9:(9:Int)≤(pk:Int):=by omega
     have HR:Hid (r=1):=by show _=_;rw[hr,zaI,if_neg hn,if_neg h12,if_pos h9];rfl
     clear hp h7 h8 h12 h9 hn hr
     go_enter Tryz.func30,Tryz.ntmps30
     go_upto_region 1 with fail
     rw[←hw1,←hT]
     clear hw1 hT
     go_wp2
     go_ret
     exact⟨by rw[HR.out];rfl,X1.out.2⟩
    ·have q9:¬(9:Int)≤(pk:Int):=by omega
     have HR:Hid (r=0):=by show _=_;rw[hr,zaI,if_neg hn,if_neg h12,if_neg h9];rfl
     clear hp h7 h8 h12 h9 hn hr
     go_enter Tryz.func30,Tryz.ntmps30
     go_upto_region 1 with fail
     rw[←hw1,←hT]
     clear hw1 hT
     go_wp2
     go_ret
     exact⟨by rw[HR.out];rfl,X1.out.2⟩
end Ps
end Go.Proofs.YtfhkaffakniioaaGreatDoor
