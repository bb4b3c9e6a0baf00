/- Several texts, joined. -/
import Derived.Test.YtfhkaffakniioaaGreatDoorQ28M
import Derived.Lib.ParseIntBTie
import Derived.Lib.ItoaLen
set_option maxHeartbeats 8000000
set_option maxRecDepth 100000
namespace Go.Proofs.YtfhkaffakniioaaGreatDoor
open Go.RowKit
namespace Ps
attribute [local go_sem] zaR
section
variable {W0:World} {pb nb bx xb X k:Nat} {W W':World} {l:List It} {s s':S} {sb:Option Nat}
theorem selA_c (hW0:W0.heap.size≤X) (hO:HasO W0) (hL:HasL W0):PartB W0 pb X 139 #[.pointer (some ⟨bx,0,none⟩),.pointer (some ⟨nb,0,none⟩),.pointer (some ⟨xb,0,none⟩)] (PV W0 pb X nb bx xb selC 23) selP 20000:=by
 intro W s sb l k hk hX h he hm
 obtain⟨i0,hi,hz0,hz1,hz2⟩:=zaJ zbE
 obtain⟨j0,ji,jz0,jz1,jz2⟩:=zaJ infoItem
 obtain⟨ns,hns⟩:∃ns,ns=l.map It.name:=⟨_,rfl⟩
 have hlen:ns.length=k:=by rw[hns,List.length_map,he.len]
 obtain⟨E,hE⟩:∃E,E=exprS s:=⟨_,rfl⟩
 obtain⟨y,hy⟩:∃y,y=must [[65,83]] E:=⟨_,rfl⟩
 obtain⟨x,hx⟩:∃x,x=nameT ns y:=⟨_,rfl⟩
 obtain⟨z,hz⟩:∃z,z=name ns y:=⟨_,rfl⟩
 have HU:Hid (selP s l=(z,l++[⟨x,E.steps⟩])):=by show _=_;rw[selP,←hE,←hy,←hns,←hz,←hx]
 have HNS:Hid (ns=l.map It.name):=hns
 have HE:Hid (PV W0 pb X nb bx xb selC 23 k l W∧ns.length=k∧X≤W.heap.size∧W0.heap.size≤X∧k≤20000∧PS W0 W pb s sb):=⟨he,hlen,hX,hW0,hk,h⟩
 have bc:W.cell? ⟨bx,0,none⟩=some (.pointer (some ⟨pb,0,none⟩)):=by rw[cell_of_row _ _ _ _ _ _ he.bo];rfl
 have CE:Hid (Calls Tryz.prog 73 #[.pointer (some ⟨pb,0,none⟩)] W fun e W''=>∃ea ec,e=.returned (.slice ea E.steps.length ec)∧Hid (PB W0 W pb E W''∧RowE W0 W'' (.slice ea E.steps.length ec) E.steps)):=by
  rw[hE]
  refine(expr_pb (W:=W) (PB.refl h) hO hL).mono ?_
  rintro e W'' ⟨ea,ec,rfl,q⟩
  exact⟨ea,ec,rfl,q.out.1,q.out.2.2⟩
 have CM:Hid (∀W',PB W0 W pb E W'→Calls Tryz.prog 70 #[.pointer (some ⟨pb,0,none⟩),.slice (some ⟨W'.heap.size,0,none⟩) 1 1] (W'.alloc (.cells #[.string ⟨#[65,83]⟩] 9)) fun e W''=>e=.returned (.string (Lx.bs (mustT [[65,83]] E)))∧Hid (PB W0 W pb y W''∧PB W0 W' pb y W'')):=fun W' hg=>by
  obtain⟨sb',k1,k2⟩:=hg
  rw[hy]
  refine(must_pb (PB.refl k1) (ts:=[[65,83]]) rfl rfl (by decide)).mono ?_
  rintro e W'' ⟨rfl,q⟩
  exact⟨rfl,PB.trans ⟨sb',k1,k2⟩ q.out,q.out⟩
 have CN:Hid (∀W1 sb' W' a c,PS W0 W1 pb y sb'→OwnT W1 X (.slice a k c) ns→Below W1.heap.size W1 W'→Calls Tryz.prog 72 #[.pointer (some ⟨pb,0,none⟩),.slice a k c] W' fun e W''=>e=.returned (.string (Lx.bs x))∧Hid (PB W0 W1 pb z W''∧x.length≤20000)):=fun W1 sb' W' a c hp own hb=>by
  obtain⟨q1,q2,q3,q4⟩:=own.sr
  rw[hx,hz]
  exact names_pb ⟨sb',hp.call hb,Kp.of_below hb⟩ (q3.call hb) q1 (by omega)
 have fit63:Hid (k+1≤maxLen):=by show _≤_;unfold maxLen;omega
 have fit47:Hid ((k+1)*16≤140737488355328):=by show _≤_;omega
 have fitb:Hid ((k+1)*40≤140737488355328):=by show _≤_;omega
 clear hns h he hk hX hW0 hm hO hL hx hy hz hE hlen
 go_enter Tryz.func139,Tryz.ntmps139
 go_wp2_with fail
 refine(CE.out).mono ?_
 rintro e w1 ⟨ea,ec,rfl,G1⟩
 have V1:Hid (PV W0 pb X nb bx xb selC 23 k l w1):=PV.kept (by decide) k l W w1 s E sb HE.out.2.2.2.2.2 G1.out.1 HE.out.1
 have y1:w1.cell? ⟨bx,0,none⟩=some (.pointer (some ⟨pb,0,none⟩)):=by rw[cell_of_row _ _ _ _ _ _ V1.out.bo];rfl
 clear bc
 go_wp2_with fail
 refine(CM.out w1 G1.out.1).mono ?_
 rintro e w2 ⟨rfl,G2⟩
 have V2:Hid (PV W0 pb X nb bx xb selC 23 k l w2∧RowE W0 w2 (.slice ea E.steps.length ec) E.steps):=⟨PV.kept (by decide) k l W w2 s y sb HE.out.2.2.2.2.2 G2.out.1 HE.out.1,G1.out.2.pbb G1.out.1 G2.out.2⟩
 clear y1
 obtain⟨sb2,P2⟩:∃sb2,Hid (PS W0 w2 pb y sb2∧Kp (fun g=>g=pb) W w2):=G2.out.1
 obtain⟨nv2,n2,own2⟩:=V2.out.1.nm
 rw[←HNS.out] at own2
 obtain⟨a2,c2,rfl⟩:=own2.form
 rw[HE.out.2.1] at n2 own2
 have HN2:Hid (w2.heap[nb]?=some (.cells #[.slice a2 k c2] 50 (0,0))∧OwnT w2 X (.slice a2 k c2) ns):=⟨n2,own2⟩
 have nc2:w2.cell? ⟨nb,0,none⟩=some (.slice a2 k c2):=by rw[cell_of_row _ _ _ _ _ _ n2];rfl
 have bc2:w2.cell? ⟨bx,0,none⟩=some (.pointer (some ⟨pb,0,none⟩)):=by rw[cell_of_row _ _ _ _ _ _ V2.out.1.bo];rfl
 clear n2 own2
 go_upto_region 2 with fail
 go_region_law (first
  |(go_simp;go_at_call 72;refine(CN.out w2 sb2 _ a2 c2 P2.out.1 HN2.out.2 ?_).mono ?_;(first | exact Below.refl _ _ | exact(Below.refl _ _).drew);rintro e w3 ⟨rfl,G3⟩)
  | fail "no arm")
 all_goals
  have K3:Hid (KT [67] w2 w3):=by obtain⟨_,_,k3⟩:=G3.out.1;exact KT.parser P2.out.1 k3
  have V3:Hid (PV W0 pb X nb bx xb selC 23 k l w3∧RowE W0 w3 (.slice ea E.steps.length ec) E.steps):=⟨V2.out.1.kt K3.out (by decide) (by decide) (by decide) (by decide) (by decide) (by decide),V2.out.2.kt K3.out (by decide)⟩
  have r3:=K3.out.row HN2.out.1 (by decide)
  have HN3:Hid (w3.heap[nb]?=some (.cells #[.slice a2 k c2] 50 (0,0))∧OwnT w3 X (.slice a2 k c2) ns):=⟨r3,K3.out.own HN2.out.2 (by decide)⟩
  have O3:Hid (w3.ownsRow X 9 1 (.slice a2 k c2) k (ns.map fun x=>Value.string (Lx.bs x))):=by
   have:=HN3.out.2
   show World.ownsRow _ _ _ _ _ _ _
   rw[←HE.out.2.1]
   rw[←HE.out.2.1] at this
   exact this
  have nc3:w3.cell? ⟨nb,0,none⟩=some (.slice a2 k c2):=by rw[cell_of_row _ _ _ _ _ _ r3];rfl
  have SZ3:Hid (X≤w3.heap.size):=Nat.le_trans (Nat.le_trans HE.out.2.2.1 G2.out.1.size) K3.out.size
  clear r3 nc2 bc2
  go_wp2_with (at_builtin;refine wpList_append_own _ rfl _ _ 50 rfl X 9 i0 (.string ⟨#[]⟩) 1 16 Tryz.underlying50 hi hz0 hz1 hz2 rfl (by decide) _ _ _ rfl (O3.out.alloc _) ⟨w3.heap.size,0,none⟩ 1 1 [.string (Lx.bs x)] rfl rfl ?c1 ?c2 fit63.out fit47.out ?c5 ?_)
  case c1 =>
   intro j u hj
   match j,hj with
   | 0,hj=>simp at hj;subst hj;simp[Addr.add]
  case c2=>intro u hu;simp at hu;subst hu;rfl
  case c5=>have:=SZ3.out;simp;omega
  intro v' w5 hown5 hgrow5 _
  obtain⟨a5,c5,rfl⟩:=zcY hown5
  have N5:Hid (w5.heap[nb]?=some (.cells #[.slice a2 k c2] 50 (0,0))∧NM (w5.setCell ⟨nb,0,none⟩ (.slice a5 (k+1) c5)) X nb (ns++[x])∧KT [9,50] w3 (w5.setCell ⟨nb,0,none⟩ (.slice a5 (k+1) c5))∧Kp (fun g=>g=pb∨X≤g) w3 (w5.setCell ⟨nb,0,none⟩ (.slice a5 (k+1) c5))):=NM.push HN3.out.1 HN3.out.2 HE.out.1.le.1 (bnew w3 _) hgrow5 (by rw[HE.out.2.1];exact hown5)
  have nc5:w5.cell? ⟨nb,0,none⟩=some (.slice a2 k c2):=by rw[cell_of_row _ _ _ _ _ _ N5.out.1];rfl
  have nf5:∀r,w5.frozen? ⟨nb,r,none⟩=false:=fun r=>by simp[World.frozen?,N5.out.1]
  clear hown5 hgrow5 nc3
  go_upto_region 4 with fail
  obtain⟨w6,hw6⟩:∃w6,w6=w5.setCell ⟨nb,0,none⟩ (.slice a5 (k+1) c5):=⟨_,rfl⟩
  have N6:Hid (NM w6 X nb (ns++[x])∧KT [9,50] w3 w6∧Kp (fun g=>g=pb∨X≤g) w3 w6):=by rw[hw6];exact N5.out.2
  rw[←hw6]
  clear hw6 nc5 nf5 N5
  obtain⟨sb3,P3⟩:∃sb3,Hid (PS W0 w3 pb z sb3∧Kp (fun g=>g=pb) w2 w3):=G3.out.1
  have P6:Hid (PS W0 w6 pb z sb3):=P3.out.1.kt N6.out.2.1 N6.out.2.2 HE.out.2.2.2.1 (by decide) (by decide)
  have T6:Hid (IT W0 w6 X xb selC 23 l∧BO w6 bx pb∧RowE W0 w6 (.slice ea E.steps.length ec) E.steps):=⟨V3.out.1.it.kt N6.out.2.1 (by decide) (by decide) (by decide),V3.out.1.bo.kt N6.out.2.1 (by decide),V3.out.2.kt N6.out.2.1 (by decide)⟩
  obtain⟨iv,x6,L,hLl,ownI,rows⟩:=T6.out.1
  obtain⟨a6,c6,rfl⟩:=zcY ownI
  have hLk:L.length=k:=by rw[←HE.out.1.len,←hLl,List.length_map]
  rw[hLk] at x6 ownI
  have H6:Hid (w6.heap[xb]?=some (.cells (selC (.slice a6 k c6)) 23 (0,0))∧w6.ownsRow X 43 2 (.slice a6 k c6) k (ics L)∧(∀x∈L,RowE W0 w6 x.2 x.1.expr)∧L.map Prod.fst=l∧L.length=k):=⟨x6,ownI,rows,hLl,hLk⟩
  have xc6:w6.cell? ⟨xb,0,none⟩=some (.slice a6 k c6):=by rw[cell_of_row _ _ _ _ _ _ x6];rfl
  have SZ6:Hid (X≤w6.heap.size):=Nat.le_trans SZ3.out N6.out.2.1.size
  clear x6 ownI rows hLl hLk V1
  go_wp2_with (at_builtin;refine wpList_append_own _ rfl _ _ 23 rfl X 43 j0 (.agg #[.string ⟨#[]⟩,.slice none 0 0]) 2 40 Tryz.underlying23 ji jz0 jz1 jz2 rfl (by decide) _ _ _ rfl (H6.out.2.1.alloc _) ⟨w6.heap.size,0,none⟩ 1 1 [.string (Lx.bs x),.slice ea E.steps.length ec] rfl rfl ?c1 ?c2 fit63.out fitb.out ?c5 ?_)
  case c1 =>
   intro j u hj
   match j,hj with
   | 0,hj=>simp at hj;subst hj;simp[Addr.add]
   | 1,hj=>simp at hj;subst hj;simp[Addr.add]
  case c2=>intro u hu;simp at hu;rcases hu with hu | hu<;>(subst hu;rfl)
  case c5=>have:=SZ6.out;simp;omega
  intro v8 w8 hown8 hgrow8 _
  obtain⟨a8,c8,rfl⟩:=zcY hown8
  have N8:Hid (w8.heap[xb]?=some (.cells (selC (.slice a6 k c6)) 23 (0,0))∧IT W0 (w8.setCell ⟨xb,0,none⟩ (.slice a8 (k+1) c8)) X xb selC 23 (L.map Prod.fst++[⟨x,E.steps⟩])∧KT [43,23] w6 (w8.setCell ⟨xb,0,none⟩ (.slice a8 (k+1) c8))∧Kp (fun g=>g=pb∨X≤g) w6 (w8.setCell ⟨xb,0,none⟩ (.slice a8 (k+1) c8))):=IT.push H6.out.1 (by rw[H6.out.2.2.2.2];exact H6.out.2.1) H6.out.2.2.1 HE.out.1.le.2 (bnew w6 _) hgrow8 (by rw[H6.out.2.2.2.2];exact hown8) T6.out.2.2 rfl (by decide) (by decide)
  have xc8:w8.cell? ⟨xb,0,none⟩=some (.slice a6 k c6):=by rw[cell_of_row _ _ _ _ _ _ N8.out.1];rfl
  have xf8:∀r,w8.frozen? ⟨xb,r,none⟩=false:=fun r=>by simp[World.frozen?,N8.out.1]
  clear hown8 hgrow8 xc6
  go_wp2
  have F9:PBX W0 pb X W z (w8.setCell ⟨xb,0,none⟩ (.slice a8 (k+1) c8))∧PV W0 pb X nb bx xb selC 23 (k+1) (l++[⟨x,E.steps⟩]) (w8.setCell ⟨xb,0,none⟩ (.slice a8 (k+1) c8)):=by
   obtain⟨_,N9,k9,x9⟩:=N8.out
   refine⟨⟨sb3,P6.out.kt k9 x9 HE.out.2.2.2.1 (by decide) (by decide),zaN (zaN (zaN (kx_of P2.out.2) (kx_of P3.out.2)) N6.out.2.2) x9⟩,?_⟩
   refine⟨by rw[List.length_append,HE.out.1.len];rfl,fun i hi=>?_,by rw[List.map_append,←HNS.out];exact N6.out.1.kt k9 (by decide) (by decide),T6.out.2.1.kt k9 (by decide),by rw[←H6.out.2.2.2.1];exact N9,HE.out.1.le⟩
   rcases List.mem_append.1 hi with q | q
   ·exact HE.out.1.txt i q
   ·rw[List.mem_singleton.1 q];exact G3.out.2
  exact bodyPost_end (results_none (by rfl) _ _ _) rfl ⟨rfl,by rw[HU.out];exact F9⟩
end
theorem numv_app (c:UInt8):∀(l:Bs) (a:Nat),numv a (l++[c])=numv a l*10+(c.toNat - 48)
 | [],_=>rfl
 | _ :: r,_=>numv_app c r _
theorem digs_app (c:UInt8):∀l:Bs,digs (l++[c])=(digs l && decide (48≤c.toNat∧c.toNat≤57))
 | []=>by simp[digs]
 | b :: r=>by
  show(decide _ && digs (r++[c]))=(decide _ && digs r && _)
  rw[digs_app c r,Bool.and_assoc]
theorem numv_ge:∀(l:Bs) (a:Nat),a≤numv a l
 | [],_=>Nat.le_refl _
 | b :: r,a=>by
  have:=numv_ge r (a*10+(b.toNat - 48))
  show a≤numv (a*10+(b.toNat - 48)) r
  omega
theorem parse_digs (M:Nat) (hM:M<18446744073709551616):∀(l:Bs) (a:Nat),a≤M→Lib.parseUintM M a l=(if digs l=true∧numv a l≤M then .ok (numv a l) else Lib.parseUintM M a l)∧(∀u,Lib.parseUintM M a l=.ok u→digs l=true∧numv a l≤M)
 | [],a,h=>⟨by rw[if_pos ⟨rfl,h⟩];rfl,fun _ _=>⟨rfl,h⟩⟩
 | c :: r,a,h=>by
  by_cases hd:48≤c.toNat∧c.toNat≤57
  ·have e1:digs (c :: r)=digs r:=by
    show(decide _ && digs r)=digs r
    rw[decide_eq_true hd];rfl
   have e2:numv a (c :: r)=numv (a*10+(c.toNat - 48)) r:=rfl
   rw[e1,e2]
   by_cases h1:1844674407370955162≤a
   ·have e3:Lib.parseUintM M a (c :: r)=.range:=by simp[Lib.parseUintM,hd,h1]
    have hg:=numv_ge r (a*10+(c.toNat - 48))
    rw[e3]
    exact⟨by rw[if_neg (fun q=>by omega)],fun _ q=>by cases q⟩
   ·by_cases h2:M<a*10+(c.toNat - 48)
    ·have e3:Lib.parseUintM M a (c :: r)=.range:=by simp[Lib.parseUintM,hd,h1,h2]
     have hg:=numv_ge r (a*10+(c.toNat - 48))
     rw[e3]
     exact⟨by rw[if_neg (fun q=>by omega)],fun _ q=>by cases q⟩
    ·have e3:Lib.parseUintM M a (c :: r)=Lib.parseUintM M (a*10+(c.toNat - 48)) r:=by simp[Lib.parseUintM,hd,h1,h2]
     rw[e3]
     exact parse_digs M hM r _ (by omega)
  ·have e1:digs (c :: r)=false:=by
    show(decide _ && digs r)=false
    rw[decide_eq_false hd];rfl
   have e3:Lib.parseUintM M a (c :: r)=.syntax:=by simp[Lib.parseUintM,hd]
   rw[e1,e3]
   exact⟨by rw[if_neg (fun q=>by cases q.1)],fun _ q=>by cases q⟩
theorem parse_ok {M:Nat} (hM:M<18446744073709551616) {l:Bs}:(∃u,Lib.parseUintM M 0 l=.ok u) ↔ (digs l=true∧numv 0 l≤M):=by
 have h:=parse_digs M hM l 0 (Nat.zero_le _)
 refine⟨fun⟨u,q⟩=>h.2 u q,fun q=>?_⟩
 have h1:=h.1
 rw[if_pos q] at h1
 exact⟨_,h1⟩
theorem parse_num {M:Nat} (hM:M<18446744073709551616) {l:Bs} {u:Nat} (h:Lib.parseUintM M 0 l=.ok u):u=numv 0 l:=by
 have h0:=parse_digs M hM l 0 (Nat.zero_le _)
 have h1:=h0.1
 rw[if_pos (h0.2 u h),h] at h1
 exact Lib.NumEnd.ok.inj h1
theorem dig_small {u:Nat} (h:u<10):Lib.decDigits u=[UInt8.ofNat (48+u)]:=by rw[Lib.decDigits,dif_pos h]
theorem dig_great {u:Nat} (h:¬u<10):Lib.decDigits u=Lib.decDigits (u / 10)++[UInt8.ofNat (48+u % 10)]:=by rw[Lib.decDigits,dif_neg h]
theorem dig_byte {c:UInt8} (h:48≤c.toNat∧c.toNat≤57):UInt8.ofNat (48+(c.toNat - 48))=c:=by
 rw[show 48+(c.toNat - 48)=c.toNat by omega]
 exact UInt8.ofNat_toNat
theorem dig_back:∀(n:Nat) (l:Bs),l.length=n→digs l=true→l≠[]→(l.head?≠some 48∨l.length=1)→Lib.decDigits (numv 0 l)=l
 | 0,l,hn,_,hl,_=>absurd (List.length_eq_zero_iff.1 hn) hl
 | n+1,l,hn,hd,hl,hh=>by
  obtain⟨m,c,rfl⟩:∃m c,l=m++[c]:=⟨l.dropLast,l.getLast hl,(List.dropLast_concat_getLast hl).symm⟩
  rw[digs_app,Bool.and_eq_true,decide_eq_true_iff] at hd
  rw[numv_app]
  cases m with
  | nil =>
   show Lib.decDigits (0*10+(c.toNat - 48))=[c]
   rw[dig_small (by omega),show 48+(0*10+(c.toNat - 48))=48+(c.toNat - 48) by omega,dig_byte hd.2]
  | cons b r =>
   have hb:b≠48:=by
    rcases hh with q | q
    ·intro e;rw[e] at q;exact q rfl
    ·simp at q
   have hdb:48≤b.toNat∧b.toNat≤57:=by
    have:=hd.1
    rw[digs,Bool.and_eq_true,decide_eq_true_iff] at this
    exact this.1
   have hb1:1≤b.toNat - 48:=by
    have:b.toNat≠48:=fun e=>hb (UInt8.toNat_inj.1 (e.trans rfl))
    omega
   have hg:b.toNat - 48≤numv 0 (b :: r):=by
    have:=numv_ge r (0*10+(b.toNat - 48))
    show _≤numv (0*10+(b.toNat - 48)) r
    omega
   have ih:=dig_back n (b :: r) (by simpa using hn) hd.1 (by simp) (.inl (by simpa using hb))
   obtain⟨x,hx⟩:∃x,x=numv 0 (b :: r):=⟨_,rfl⟩
   rw[←hx] at ih hg ⊢
   rw[dig_great (by omega),show(x*10+(c.toNat - 48)) / 10=x by omega,show(x*10+(c.toNat - 48)) % 10=c.toNat - 48 by omega,ih,dig_byte hd.2]
theorem dig_head:∀(n u:Nat),u≤n→0<u→(Lib.decDigits u).head?≠some 48
 | 0,u,h,h0=>by omega
 | n+1,u,h,h0=>by
  by_cases hs:u<10
  ·rw[dig_small hs]
   intro q
   have q1:UInt8.ofNat (48+u)=48:=by simpa using q
   have q2:(UInt8.ofNat (48+u)).toNat=48:=by rw[q1];rfl
   rw[UInt8.toNat_ofNat'] at q2
   omega
  ·rw[dig_great hs]
   have ih:=dig_head n (u / 10) (by omega) (by omega)
   cases hc:Lib.decDigits (u / 10) with
   | nil =>
    exfalso
    rw[Lib.decDigits] at hc
    split at hc<;>simp at hc
   | cons p q =>
    rw[hc] at ih
    simpa using ih
theorem isNb_lib (t:Bs):isNb t=true ↔ ∃u,Lib.parseUintB 63 t=.ok u∧Lib.decDigits u=t:=by
 have hM:2 ^ 63 - 1<18446744073709551616:=by decide
 cases t with
 | nil =>
  constructor
  ·intro q
   exact absurd q (by decide)
  ·rintro⟨u,q,_⟩
   simp[Lib.parseUintB] at q
 | cons b r =>
  have e0:Lib.parseUintB 63 (b :: r)=Lib.parseUintM (2 ^ 63 - 1) 0 (b :: r):=by rw[Lib.parseUintB,if_neg (by simp)]
  rw[e0]
  have e1:isNb (b :: r)=(digs (b :: r) && decide (numv 0 (b :: r)<9223372036854775808) && (decide (b≠48) || r.isEmpty)):=rfl
  rw[e1,Bool.and_eq_true,Bool.and_eq_true,decide_eq_true_iff]
  constructor
  ·rintro⟨⟨h1,h2⟩,h3⟩
   obtain⟨u,hu⟩:=(parse_ok hM (l:=b :: r)).2 ⟨h1,by omega⟩
   refine⟨u,hu,?_⟩
   rw[parse_num hM hu]
   refine dig_back _ (b :: r) rfl h1 (by simp) ?_
   rw[Bool.or_eq_true,decide_eq_true_iff] at h3
   rcases h3 with q | q
   ·exact .inl (by simpa using q)
   ·right
    cases r with
    | nil=>rfl
    | cons _ _=>cases q
  ·rintro⟨u,hu,hb⟩
   have hk:=(parse_ok hM (l:=b :: r)).1 ⟨u,hu⟩
   have he:=parse_num hM hu
   refine⟨⟨hk.1,by omega⟩,?_⟩
   rw[Bool.or_eq_true,decide_eq_true_iff]
   by_cases hz:u=0
   ·right
    rw[hz,dig_small (by decide)] at hb
    have:r=[]:=by
     have:=congrArg List.tail hb
     simpa using this.symm
    rw[this];rfl
   ·left
    intro q
    have:=dig_head u u (Nat.le_refl _) (by omega)
    rw[hb,q] at this
    exact this rfl
attribute [local go_sem] zaR
theorem PBX.to {W0 W W1 W2:World} {pb X:Nat} {s:S} (h:PBX W0 pb X W1 s W2) (hb:Below W.heap.size W W1) (hX:W.heap.size≤X):PB W0 W pb s W2:=by
 obtain⟨sb',k1,k2⟩:=h
 have kw:Kp (fun g=>g=pb) W W1:=Kp.of_below hb
 exact⟨sb',k1,k2.os.trans kw.os,k2.tape.trans kw.tape,k2.output.trans kw.output,Nat.le_trans kw.size k2.size,fun g hg q=>(k2.block g (Nat.lt_of_lt_of_le hg kw.size) fun z=>z.elim q (by omega)).trans (kw.block g hg q)⟩
theorem new_at {W:World} {o:Obj} {n:Nat} (h:n=W.heap.size):(W.alloc o).heap[n]?=some o:=by rw[h];exact heap_alloc_new W _
section
variable {W0:World} {pb:Nat} {W:World} {s:S} {sb:Option Nat}
theorem items_c (h:PS W0 W pb s sb) (hO:HasO W0) (hL:HasL W0):Calls Tryz.prog 110 #[.pointer (some ⟨pb,0,none⟩)] W fun e W'=>∃a c,e=.returned (.slice a (parts selP s []).2.1.length c)∧Hid (PB W0 W pb (parts selP s []).1 W'∧Its W0 W' W0.heap.size (.slice a (parts selP s []).2.1.length c) (parts selP s []).2.1):=by
 obtain⟨bx,hbx⟩:∃bx,bx=W.heap.size:=⟨_,rfl⟩
 obtain⟨xb,hxb⟩:∃xb,xb=W.heap.size+1:=⟨_,rfl⟩
 obtain⟨nb,hnb⟩:∃nb,nb=W.heap.size+2:=⟨_,rfl⟩
 obtain⟨u1,hu1⟩:∃u1,u1=W.alloc (.cells #[.pointer (some ⟨pb,0,none⟩)] 99):=⟨_,rfl⟩
 obtain⟨u2,hu2⟩:∃u2,u2=u1.alloc (.cells #[.slice none 0 0] 23):=⟨_,rfl⟩
 obtain⟨u3,hu3⟩:∃u3,u3=u2.alloc (.cells #[.slice none 0 0] 50):=⟨_,rfl⟩
 have s1:u1.heap.size=W.heap.size+1:=by rw[hu1];simp
 have s2:u2.heap.size=W.heap.size+2:=by rw[hu2];simp[s1]
 have b1:Below W.heap.size W u1:=by rw[hu1];exact bnew _ _
 have b2:Below u1.heap.size u1 u2:=by rw[hu2];exact bnew _ _
 have b3:Below u2.heap.size u2 u3:=by rw[hu3];exact bnew _ _
 have hb:Below W.heap.size W u3:=(b1.trans (b2.mono b1.size)).trans (b3.mono (by omega))
 have r1:u3.heap[bx]?=some (.cells #[.pointer (some ⟨pb,0,none⟩)] 99 (0,0)):=(b3.block bx (by omega)).trans ((b2.block bx (by omega)).trans (by rw[hu1];exact new_at hbx))
 have r2:u3.heap[xb]?=some (.cells #[.slice none 0 0] 23 (0,0)):=(b3.block xb (by omega)).trans (by rw[hu2];exact new_at (by omega))
 have r3:u3.heap[nb]?=some (.cells #[.slice none 0 0] 50 (0,0)):=by rw[hu3];exact new_at (by omega)
 have hp3:PS W0 u3 pb s sb:=h.call hb
 have pv:PV W0 pb W.heap.size nb bx xb selC 23 0 [] u3:=⟨rfl,fun _ q=>(by cases q),⟨_,r3,⟨rfl,.inl ⟨rfl,rfl⟩⟩⟩,r1,⟨_,r2,Its.nil _ _ _⟩,by omega,by omega⟩
 obtain⟨R,hR⟩:∃R,R=parts selP s []:=⟨_,rfl⟩
 have CT:Hid (Calls Tryz.prog 107 #[.pointer (some ⟨pb,0,none⟩),.func (.func 139) #[] #[.pointer (some ⟨bx,0,none⟩),.pointer (some ⟨nb,0,none⟩),.pointer (some ⟨xb,0,none⟩)]] u3 fun en W'=>en=.returned (.int .i64 (R.2.2:Int))∧Hid (PB W0 W pb R.1 W'∧PV W0 pb W.heap.size nb bx xb selC 23 R.2.2 R.2.1 W')):=by
  rw[hR]
  refine(parts_items less_selP (selA_c h.base_le hO hL) (PV.kept (by decide)) hp3 pv hb.size (by have:=h.lim;omega)).mono ?_
  rintro en W' ⟨rfl,q1,q2,q3⟩
  exact⟨rfl,q1.to hb (Nat.le_refl _),q2⟩
 have HW:Hid (W0.heap.size≤W.heap.size):=h.base_le
 rw[←hR]
 have y0:u3.cell? ⟨bx,0,none⟩=some (.pointer (some ⟨pb,0,none⟩)):=by rw[cell_of_row _ _ _ _ _ _ r1];rfl
 clear h hO hL hR hp3 pv r1 r2 r3 s1 s2 b1 b2 b3 hb
 go_enter Tryz.func110,Tryz.ntmps110
 go_upto_region 3 with fail
 rw[←hu1,←hu2,←hu3,←hnb,←hxb,←hbx]
 clear hu1 hu2 hu3 hnb hxb hbx
 go_wp2_with fail
 refine(CT.out).mono ?_
 rintro en w3 ⟨rfl,G3⟩
 clear CT y0
 obtain⟨iv,q1,q2⟩:=G3.out.2.it
 obtain⟨a,c,rfl⟩:=q2.form
 have z3:w3.cell? ⟨xb,0,none⟩=some (.slice a R.2.1.length c):=by rw[cell_of_row _ _ _ _ _ _ q1];rfl
 have HI:Hid (Its W0 w3 W0.heap.size (.slice a R.2.1.length c) R.2.1):=q2.to HW.out
 clear q1 q2
 go_wp2
 go_ret
 exact⟨a,c,rfl,G3.out.1,HI.out⟩
end
end Ps
end Go.Proofs.YtfhkaffakniioaaGreatDoor
