/- Several texts, joined. -/
import Derived.Test.YtfhkaffakniioaaGreatDoorQ72M
import Derived.Test.YtfhkaffakniioaaGreatDoorLxKM
set_option maxHeartbeats 8000000
set_option maxRecDepth 100000
namespace Go.Proofs.YtfhkaffakniioaaGreatDoor
open Go.RowKit
def Lx.textOf:Option (Lx.Bs × Nat)→Lx.R
 | some (t,n)=>Lx.tok t (n+1)
 | none=>Lx.no 13
theorem rnextT_c (x:UInt8) (r:Lx.Bs) (hx:x=39) (hl:(x :: r).length≤16384) (w:World):Calls Tryz.prog 123 #[.string (Lx.bs (x :: r))] w (Lx.NextGave (Lx.text (x :: r)) w):=by
 obtain⟨w1,hw1⟩:∃w1,w1=w.alloc (.cells #[.int .u8 0,.string ⟨#[]⟩,.int .i64 0,.int .i64 0] 92):=⟨_,rfl⟩
 have X1:Hid (T4 w w1):=by rw[hw1];exact T4.start w
 obtain⟨l,hxl⟩:∃l,l=x :: r:=⟨_,rfl⟩
 obtain⟨s,hs⟩:∃s,s=Lx.bs l:=⟨_,rfl⟩
 have hx0:∀wx,(Instr.index 9 (.string s) (.int .i64 0)).run Tryz.prog wx=.ok (.int .u8 39) wx:=fun wx=>by rw[hs];exact Lx.index_at l 0 0 39 rfl (by rw[hxl,hx];rfl) wx
 have C0:Hid (∀W:World,Calls Tryz.prog 150 #[.int .u8 39] W fun e w'=>e=.returned (.bool false)∧w'=W):=fun W=>zcE 39 W
 have C00:Hid (∀W:World,Calls Tryz.prog 151 #[.int .u8 39] W fun e w'=>e=.returned (.bool false)∧w'=W):=fun W=>zdK 39 W
 obtain⟨q,hq⟩:∃q,q=Lx.quo r:=⟨_,rfl⟩
 have CT:Hid (∀W:World,Calls Tryz.prog 154 #[.string s] W fun e w'=>e=Lx.textGave q∧Below W.heap.size W w'):=fun W=>by rw[hs,hxl,hq];exact rtext_c x r hl W
 have HF:Hid (Lx.text l=Lx.textOf q):=by
  show _=_
  rw[hxl,hq,Lx.text]
  show(match Lx.quo r with | some (t,n)=>Lx.tok t (n+1) | none=>Lx.no 13)=_
  cases Lx.quo r<;>rfl
 have CU:Hid (∀(t:Lx.Bs) (W:World),t.length≤1024→Calls Tryz.prog 31 #[.string (Lx.bs t)] W fun e w'=>e=.returned (.bool (Lib.validD t))∧Below W.heap.size W w'):=fun t W ht=>by
  have h:=rutf_c (Lx.bs t) W (by rw[Lx.bs_size];exact ht)
  rw[Lx.bs_data] at h
  exact h
 rw[←hxl] at hl ⊢
 rw[←hs]
 clear hs hxl hx hq
 go_enter Tryz.func123,Tryz.ntmps123
 go_upto_region 1 with fail
 rw[←hw1]
 clear hw1
 go_wp2_with fail
 refine Calls.mono (C0.out _) ?_
 rintro e w' ⟨rfl,hw'⟩
 subst hw'
 go_wp2_with fail
 refine Calls.mono (C00.out _) ?_
 rintro e w' ⟨rfl,hw'⟩
 subst hw'
 clear C0 C00
 go_wp2_with fail
 refine Calls.mono (CT.out _) ?_
 rintro e w2 ⟨rfl,hb2⟩
 have X2:Hid (T4 w w2):=X1.out.call hb2
 clear hb2 CT X1 hx0
 obtain⟨p0,p1,p2,p3,fz⟩:=X2.out.cells
 cases q with
 | none =>
  simp only[Lx.textGave]
  have HE:Hid (Lx.text l=Lx.no 13):=HF.out
  go_wp2
  rw[HE.out]
  exact zaY (F:=Lx.no 13) (k:=0) (t:=[]) (n:=0) (sz:=0) rfl X2.out (fun h=>by cases h) rfl rfl rfl
 | some tm =>
  obtain⟨t,m⟩:=tm
  simp only[Lx.textGave]
  have HE:Hid (Lx.text l=Lx.tok t (m+1)):=HF.out
  obtain⟨z,hz⟩:∃z:Nat,z=m+1:=⟨_,rfl⟩
  rw[←hz] at HE
  rw[←hz]
  have q0:((z:Int)==0)=false:=by rw[beq_eq_false_iff_ne];omega
  obtain⟨tb,htb⟩:∃tb,tb=Lx.bs t:=⟨_,rfl⟩
  have hts:(tb.size:Int)=(t.length:Int):=by rw[htb,Lx.bs_size]
  have HTB:Hid (tb=Lx.bs t):=htb
  rw[←htb]
  clear hz HF
  by_cases hbig:1024<t.length
  ·have q1:(1024:Int)<(tb.size:Int):=by omega
   have HR:Hid (Lx.text l=Lx.no 4):=by show _=_;rw[HE.out,Lx.tok,if_pos hbig]
   clear htb
   go_wp2
   rw[HR.out]
   exact zaY (F:=Lx.no 4) (k:=0) (t:=[]) (n:=0) (sz:=0) rfl X2.out (fun h=>by cases h) rfl rfl rfl
  ·have q1:¬(1024:Int)<(tb.size:Int):=by omega
   obtain⟨u,hu⟩:∃u,u=Lib.validD t:=⟨_,rfl⟩
   have C3:Hid (∀W:World,Calls Tryz.prog 31 #[.string tb] W fun e w'=>e=.returned (.bool u)∧Below W.heap.size W w'):=fun W=>by rw[htb,hu];exact CU.out t W (by omega)
   have HU:Hid (u=Lib.validD t):=hu
   clear htb hu CU p0 p1 p2 p3 fz
   go_wp2_with fail
   refine Calls.mono (C3.out _) ?_
   rintro e w3 ⟨rfl,hb3⟩
   have X3:Hid (T4 w w3):=X2.out.call hb3
   clear hb3 C3 X2
   obtain⟨p0,p1,p2,p3,fz⟩:=X3.out.cells
   cases u with
   | false =>
    have HR:Hid (Lx.text l=Lx.no 9):=by show _=_;rw[HE.out,Lx.tok,if_neg hbig,if_pos HU.out.symm]
    go_wp2
    rw[HR.out]
    exact zaY (F:=Lx.no 9) (k:=0) (t:=[]) (n:=0) (sz:=0) rfl X3.out (fun h=>by cases h) rfl rfl rfl
   | true =>
    have HR:Hid (Lx.text l=⟨0,4,t,0,z⟩):=by show _=_;rw[HE.out,Lx.tok,if_neg hbig,if_neg (by rw[←HU.out];decide)]
    go_wp2
    rw[HR.out,HTB.out]
    exact zaY (F:=⟨0,4,t,0,z⟩) (k:=4) (t:=t) (n:=0) (sz:=z) rfl X3.out (fun _=>⟨rfl,rfl,rfl,rfl⟩) rfl rfl rfl
theorem rnextS_c (x:UInt8) (r:Lx.Bs) (hx1:Lx.isL x.toNat=false) (hx2:Lx.isD x.toNat=false) (hx3:x≠39) (w:World):Calls Tryz.prog 123 #[.string (Lx.bs (x :: r))] w (Lx.NextGave (if 0<Lx.sgn (x :: r) then Lx.sign (x :: r) else Lx.no 13) w):=by
 obtain⟨w1,hw1⟩:∃w1,w1=w.alloc (.cells #[.int .u8 0,.string ⟨#[]⟩,.int .i64 0,.int .i64 0] 92):=⟨_,rfl⟩
 have X1:Hid (T4 w w1):=by rw[hw1];exact T4.start w
 obtain⟨l,hxl⟩:∃l,l=x :: r:=⟨_,rfl⟩
 obtain⟨s,hs⟩:∃s,s=Lx.bs l:=⟨_,rfl⟩
 have hx0:∀wx,(Instr.index 9 (.string s) (.int .i64 0)).run Tryz.prog wx=.ok (.int .u8 (x.toNat:Int)) wx:=fun wx=>by rw[hs];exact Lx.index_at l 0 0 x rfl (by rw[hxl];rfl) wx
 have C0:Hid (∀W:World,Calls Tryz.prog 150 #[.int .u8 (x.toNat:Int)] W fun e w'=>e=.returned (.bool false)∧w'=W):=fun W=>by have h:=zcE x.toNat W;rw[hx1] at h;exact h
 have C00:Hid (∀W:World,Calls Tryz.prog 151 #[.int .u8 (x.toNat:Int)] W fun e w'=>e=.returned (.bool false)∧w'=W):=fun W=>by have h:=zdK x.toNat W;rw[hx2] at h;exact h
 obtain⟨t,ht⟩:∃t,t=l.take (Lx.sgn l):=⟨_,rfl⟩
 have CS:Hid (∀W:World,Calls Tryz.prog 155 #[.string s] W fun e w'=>e=.returned (.string (Lx.bs t))∧Below W.heap.size W w'):=fun W=>by rw[ht,hs,hxl];exact rsign_c x r W
 have HT:Hid (t.length=Lx.sgn l∧t=l.take (Lx.sgn l)):=by
  refine⟨?_,ht⟩
  rw[ht,List.length_take]
  have:Lx.sgn l≤l.length:=by
   rw[hxl,Lx.sgn]
   cases r with
   | nil=>simp[Lx.pre2];split<;>omega
   | cons y r=>simp;split<;>(try split)<;>omega
  omega
 have q3:((x.toNat:Int)==39)=false:=by
  rw[beq_eq_false_iff_ne]
  intro e
  exact hx3 (by rw[←UInt8.toNat_inj];show x.toNat=39;omega)
 rw[←hxl,←hs]
 obtain⟨F,hF⟩:∃F,F=if 0<Lx.sgn l then Lx.sign l else Lx.no 13:=⟨_,rfl⟩
 have HF:Hid (F=if 0<Lx.sgn l then Lx.sign l else Lx.no 13):=hF
 rw[←hF]
 clear hs hxl hx1 hx2 hx3 ht hF
 go_enter Tryz.func123,Tryz.ntmps123
 go_upto_region 1 with fail
 rw[←hw1]
 clear hw1
 go_wp2_with fail
 refine Calls.mono (C0.out _) ?_
 rintro e w' ⟨rfl,hw'⟩
 subst hw'
 go_wp2_with fail
 refine Calls.mono (C00.out _) ?_
 rintro e w' ⟨rfl,hw'⟩
 subst hw'
 clear C0 C00
 go_wp2_with fail
 refine Calls.mono (CS.out _) ?_
 rintro e w2 ⟨rfl,hb2⟩
 have X2:Hid (T4 w w2):=X1.out.call hb2
 clear hb2 CS X1 hx0
 obtain⟨p0,p1,p2,p3,fz⟩:=X2.out.cells
 obtain⟨tb,htb⟩:∃tb,tb=Lx.bs t:=⟨_,rfl⟩
 have hts:(tb.size:Int)=(t.length:Int):=by rw[htb,Lx.bs_size]
 have HTB:Hid (tb=Lx.bs t):=htb
 have htl:tb.toList=t:=by rw[htb,Lx.bs_toList]
 rw[←htb]
 clear htb
 by_cases h0:0<Lx.sgn l
 ·have q4:(tb.toList==[])=false:=by
   rw[htl,beq_eq_false_iff_ne]
   intro e
   have:=HT.out.1
   rw[e] at this
   simp at this
   omega
  have HR:Hid (F=⟨0,5,t,0,t.length⟩):=by show _=_;rw[HF.out,if_pos h0,Lx.sign,←HT.out.2,HT.out.1]
  clear htl h0
  go_wp2
  rw[HR.out,HTB.out]
  exact zaY (F:=⟨0,5,t,0,t.length⟩) (k:=5) (t:=t) (n:=0) (sz:=t.length) rfl X2.out (fun _=>⟨rfl,rfl,rfl,rfl⟩) rfl rfl rfl
 ·have q4:(tb.toList==[])=true:=by
   rw[htl]
   have:=HT.out.1
   have e:t=[]:=List.eq_nil_of_length_eq_zero (by omega)
   rw[e];rfl
  have HR:Hid (F=Lx.no 13):=by show _=_;rw[HF.out,if_neg h0]
  clear htl h0
  go_wp2
  rw[HR.out]
  exact zaY (F:=Lx.no 13) (k:=0) (t:=[]) (n:=0) (sz:=0) rfl X2.out (fun h=>by cases h) rfl rfl rfl
theorem rnext_c (x:UInt8) (r:Lx.Bs) (hl:(x :: r).length≤16384) (w:World):Calls Tryz.prog 123 #[.string (Lx.bs (x :: r))] w (Lx.NextGave (Lx.frst (x :: r)) w):=by
 rw[Lx.frst]
 by_cases h1:Lx.isL x.toNat=true
 ·rw[if_pos h1];exact rnextL_c x r h1 hl w
 ·have h1':Lx.isL x.toNat=false:=by simpa using h1
  rw[if_neg h1]
  by_cases h2:Lx.isD x.toNat=true
  ·rw[if_pos h2];exact rnextD_c x r h1' h2 hl w
  ·have h2':Lx.isD x.toNat=false:=by simpa using h2
   rw[if_neg h2]
   by_cases h3:x=39
   ·rw[if_pos h3];exact rnextT_c x r h3 hl w
   ·rw[if_neg h3];exact rnextS_c x r h1' h2' h3 w
end Go.Proofs.YtfhkaffakniioaaGreatDoor
namespace Go.Proofs.YtfhkaffakniioaaGreatDoor
open Go.RowKit
namespace Lx
theorem isB_iff (b:UInt8):isB b.toNat=true ↔ (b=32∨b=9∨b=10∨b=13):=by
 have e:∀k:UInt8,b.toNat=k.toNat ↔ b=k:=fun k=>UInt8.toNat_inj
 have h1:=e 32
 have h2:=e 9
 have h3:=e 10
 have h4:=e 13
 simp only[isB,Bool.or_eq_true,decide_eq_true_iff,←h1,←h2,←h3,←h4]
 show((b.toNat=32∨b.toNat=9)∨b.toNat=10)∨b.toNat=13 ↔ b.toNat=32∨b.toNat=9∨b.toNat=10∨b.toNat=13
 omega
theorem lx_step {b:UInt8} (h:isB b.toNat=true) (n:Nat) (r:Bs) (a:Nat):lx n (b :: r) a=lx n r (a+1):=by
 have h1:bl (b :: r)=bl r+1:=by rw[bl,if_pos ((isB_iff b).1 h)]
 rw[lx_blank n (b :: r) a,lx_blank n r (a+1),h1,List.drop_succ_cons,show a+(bl r+1)=a+1+bl r by omega]
theorem bl_no {b:UInt8} (h:isB b.toNat=false) (r:Bs):bl (b :: r)=0:=by
 rw[bl,if_neg (fun h2=>by rw[(isB_iff b).2 h2] at h;cases h)]
end Lx
structure RS (w W:World) (ts:List Lx.Tk) (lv:Value):Prop where
 below:Below w.heap.size w W
 row:W.ownsRow w.heap.size 92 4 lv ts.length (Lx.tcs ts)
theorem RS.call {w W W':World} {ts:List Lx.Tk} {lv:Value} (h:RS w W ts lv) (hb:Below W.heap.size W W'):RS w W' ts lv :=
 ⟨h.below.trans (hb.mono h.below.size),zaT h.row hb⟩
theorem RS.next {w W W3 W4 W5:World} {gg cap:Nat} {ts:List Lx.Tk} {lv:Value} {t:Lx.Tk} (h:RS w W ts lv) (h3:Below W.heap.size W W3) (h4:Below W3.heap.size W3 W4) (hg:W4.grownBy W5 lv.ownBlock)
  (hn:W5.ownsRow w.heap.size 92 4 (.slice (some ⟨gg,0,none⟩) (ts.length+1) cap) (ts.length+1) (Lx.tcs ts++[.int .u8 (t.kind:Int),.string (Lx.bs t.text),.int .i64 t.n,.int .i64 (t.at':Int)])):RS w W5 (ts++[t]) (.slice (some ⟨gg,0,none⟩) (ts.length+1) cap):=by
 have hb:Below W.heap.size W W4:=h3.trans (h4.mono h3.size)
 have hs:=h.below.size
 have hs4:=hb.size
 have hb5:Below w.heap.size W4 W5:=(Below.refl _ _).grown hg (by omega) (fun k hk=>(own_lt h.row k hk).1)
 refine⟨(h.below.trans (hb.mono h.below.size)).trans hb5,?_⟩
 rw[List.length_append,Lx.tcs_snoc]
 exact hn
theorem rlex_c (l:Lx.Bs) (w:World):Calls Tryz.prog 89 #[.string (Lx.bs l)] w (Lx.LexGave (Lx.lex l) w):=by
 obtain⟨s,hs⟩:∃s,s=Lx.bs l:=⟨_,rfl⟩
 obtain⟨n,hn⟩:∃n:Int,n=(l.length:Int):=⟨_,rfl⟩
 have hsz:(s.size:Int)=n:=by rw[hs,Lx.bs_size,hn]
 have HN:Hid (n=(l.length:Int)):=hn
 by_cases hbig:16384<l.length
 ·have q0:(16384:Int)<n:=by omega
  have HR:Hid (Lx.lex l=⟨[],4,0⟩):=by show _=_;rw[Lx.lex,if_pos hbig]
  rw[←hs]
  clear hs hn
  go_enter Tryz.func89,Tryz.ntmps89
  go_wp2
  refine bodyPost_ret (zbI rfl _ _) rfl ?_
  rw[HR.out]
  exact⟨Below.refl _ _,_,rfl,World.ownsRow_nil _ _ _ _⟩
 ·have q0:¬(16384:Int)<n:=by omega
  have HR:Hid (Lx.lex l=Lx.lx (l.length+1) l 0):=by show _=_;rw[Lx.lex,if_neg hbig]
  have hll:l.length≤16384:=by omega
  have HSL:Hid (∀(k:Nat),k≤l.length→∀wx,(Instr.slice 9 (.string s) (some (.int .i64 (k:Int))) none none).run Tryz.prog wx=.ok (.string (Lx.bs (l.drop k))) wx):=fun k hk wx=>by rw[hs];exact Lx.slice_from l (k:Int) k rfl hk wx
  have HIX:Hid (∀(k:Nat) (b:UInt8),l[k]?=some b→∀wx,(Instr.index 9 (.string s) (.int .i64 (k:Int))).run Tryz.prog wx=.ok (.int .u8 (b.toNat:Int)) wx):=fun k b hb wx=>by rw[hs];exact Lx.index_at l (k:Int) k b rfl hb wx
  have CBL:Hid (∀(b:Nat) (W:World),Calls Tryz.prog 122 #[.int .u8 (b:Int)] W fun e w'=>e=.returned (.bool (Lx.isB b))∧w'=W):=rblank_c
  rw[←hs]
  obtain⟨ir,hir,hr0,hr1,hr2⟩:=Go.info_parts infoTok3
  clear hs hn hbig
  go_enter Tryz.func89,Tryz.ntmps89
  go_wp2
  go_loopw [5,6] (fun o a wr=>∃(ts:List Lx.Tk) (k m:Nat) (lv:Value),lv=o∧a=.int .i64 (k:Int)∧k≤l.length∧l.length<k+m∧Lx.lx (l.length+1) l 0=Lx.join ts (Lx.lx m (l.drop k) k)∧ts.length≤k∧RS w wr ts lv) (fun _ a _=>l.length - (intOf a).toNat)
  case atStart =>
   refine⟨[],0,l.length+1,_,rfl,rfl,Nat.zero_le _,by omega,?_,Nat.zero_le _,Below.refl _ _,World.ownsRow_nil _ _ _ _⟩
   exact(Lx.lx_form _ _ _).symm
  case round =>
   obtain⟨ts,k,m,lv,hlv,rfl,hk,hm,hlx,htk,hS⟩:=hrel
   subst hlv
   have S:Hid (RS w wr ts lv):=hS
   have HLX:Hid (Lx.lx (l.length+1) l 0=Lx.join ts (Lx.lx m (l.drop k) k)):=hlx
   clear hS hlx
   by_cases hlt:k<l.length
   ·have q1:(k:Int)<n:=by rw[HN.out];omega
    have hsl:=HSL.out k hk
    obtain⟨x,hx⟩:∃x,l[k]?=some x:=⟨_,List.getElem?_eq_getElem hlt⟩
    obtain⟨r,hr⟩:∃r,r=l.drop (k+1):=⟨_,rfl⟩
    have hxr:l.drop k=x :: r:=by rw[hr];exact Lx.drop_at hx
    have hix:=HIX.out k x hx
    have hln:(x :: r).length=l.length - k:=by rw[←hxr,List.length_drop]
    obtain⟨ib,hib⟩:∃ib,ib=Lx.isB x.toNat:=⟨_,rfl⟩
    have CB2:Hid (∀W:World,Calls Tryz.prog 122 #[.int .u8 (x.toNat:Int)] W fun e w'=>e=.returned (.bool ib)∧w'=W):=fun W=>by rw[hib];exact CBL.out x.toNat W
    obtain⟨a1,a2,a3⟩:=Lx.arQ hlt (by omega)
    have HXR:Hid (l.drop k=x :: r∧r=l.drop (k+1)∧ib=Lx.isB x.toNat∧(x :: r).length=l.length - k):=⟨hxr,hr,hib,hln⟩
    clear hx hr hxr hib hln CBL
    go_wp2_with fail
    refine Calls.mono (CB2.out _) ?_
    rintro e w' ⟨rfl,hw'⟩
    subst hw'
    clear CB2
    cases ib with
    | true =>
     have HA:Hid (Lx.lx (l.length+1) l 0=Lx.join ts (Lx.lx m (l.drop (k+1)) (k+1))):=by
      show _=_
      rw[HLX.out,HXR.out.1,Lx.lx_step HXR.out.2.2.1.symm,←HXR.out.2.1]
     go_wp2
     go_roundw
     case rel=>exact⟨ts,k+1,m,_,rfl,by go_num,by omega,by omega,HA.out,by omega,S.out⟩
     case measure=>simp[intOf];omega
    | false =>
     clear a1 a2 a3
     obtain⟨sx,hsx⟩:∃sx,sx=Lx.bs (l.drop k):=⟨_,rfl⟩
     rw[←hsx] at hsl
     obtain⟨F,hF⟩:∃F,F=Lx.frst (x :: r):=⟨_,rfl⟩
     have CF:Hid (∀W:World,Calls Tryz.prog 123 #[.string sx] W fun e w'=>Below W.heap.size W w'∧∃(kd:Nat) (tb:ByteArray) (nn:Int) (sz:Nat),e=.returned (.tuple #[.agg #[.int .u8 (kd:Int),.string tb,.int .i64 nn,.int .i64 0],.int .i64 (sz:Int),.int .i64 (F.err:Int)])∧(F.err=0→kd=F.kind∧tb=Lx.bs F.text∧nn=F.n∧sz=F.size)):=fun W=>by
      rw[hsx,HXR.out.1]
      refine Calls.mono (rnext_c x r (by rw[HXR.out.2.2.2];omega) W) ?_
      rintro e w' ⟨h1,kd,t,nn,sz,h2,h3⟩
      rw[hF]
      exact⟨h1,kd,Lx.bs t,nn,sz,h2,fun he=>⟨(h3 he).1,by rw[(h3 he).2.1],(h3 he).2.2.1,(h3 he).2.2.2⟩⟩
     have HF:Hid (F.err=0→0<F.size∧F.size≤(x :: r).length):=by rw[hF];exact Lx.frst_size
     obtain⟨m',hm'⟩:∃m',m=m'+1:=⟨m - 1,by omega⟩
     have HBL:Hid (Lx.bl (x :: r)=0):=Lx.bl_no HXR.out.2.2.1.symm r
     have HLE:Hid (F.err≠0→Lx.lex l=⟨[],F.err,k⟩):=fun he=>by
      rw[HR.out,HLX.out,hm',HXR.out.1,Lx.lx,HBL.out,List.drop_zero]
      show Lx.join ts (if (Lx.frst (x :: r)).err≠0 then _ else _)=_
      rw[←hF,if_pos he,Lx.join,if_pos (show(Lx.Out.mk [] F.err (k+0)).err≠0 from he)]
      rfl
     have HLN:Hid (F.err=0→Lx.lx (l.length+1) l 0=Lx.join (ts++[⟨F.kind,F.text,F.n,k⟩]) (Lx.lx m' (l.drop (k+F.size)) (k+F.size))):=fun he=>by
      rw[HLX.out,hm',HXR.out.1,Lx.lx,HBL.out,List.drop_zero]
      show Lx.join ts (if (Lx.frst (x :: r)).err≠0 then _ else _)=_
      rw[←hF,if_neg (by simp[he]),Lx.join_join,←HXR.out.1,List.drop_drop]
      rfl
     clear hF hsx HLX
     go_wp2_with fail
     refine Calls.mono (CF.out _) ?_
     rintro e w2 ⟨hb2,kd,tb,nn,sz,rfl,hgv⟩
     have HGV:Hid (F.err=0→kd=F.kind∧tb=Lx.bs F.text∧nn=F.n∧sz=F.size):=hgv
     have S2:Hid (RS w w2 ts lv):=S.out.call hb2
     have HB2:Hid (Below w'.heap.size w' w2):=hb2
     obtain⟨er,her⟩:∃er,er=F.err:=⟨_,rfl⟩
     rw[←her] at HGV HF HLE HLN
     rw[←her]
     clear hb2 CF hgv her
     go_upto_region 9 with fail
     obtain⟨w3,hw3⟩:∃w3,w3=w2.alloc (.cells #[.int .u8 (kd:Int),.string tb,.int .i64 nn,.int .i64 0] 92):=⟨_,rfl⟩
     obtain⟨Q,hQ⟩:∃Q,Q=w2.heap.size:=⟨_,rfl⟩
     have S3:Hid (RS w w3 ts lv):=by rw[hw3];exact S2.out.call ((Below.refl _ _).alloc (Nat.le_refl _) _)
     have V3:Hid (w3.heap[Q]?=some (.cells #[.int .u8 (kd:Int),.string tb,.int .i64 nn,.int .i64 0] 92 (0,0))∧Q=w2.heap.size∧Below w2.heap.size w2 w3):=by rw[hw3,hQ];exact⟨heap_alloc_new w2 _,rfl,(Below.refl _ _).alloc (Nat.le_refl _) _⟩
     rw[←hw3,←hQ]
     clear hw3 hQ S2
     by_cases he:er=0
     ·subst he
      have HSZ:Hid (0<sz∧sz≤(x :: r).length):=by have h:=HF.out rfl;rw[←(HGV.out rfl).2.2.2] at h;exact h
      obtain⟨p0,p1,p2,p3⟩:w3.cell? ⟨Q,0,none⟩=some (.int .u8 (kd:Int))∧w3.cell? ⟨Q,1,none⟩=some (.string tb)∧w3.cell? ⟨Q,2,none⟩=some (.int .i64 nn)∧w3.cell? ⟨Q,3,none⟩=some (.int .i64 0):=by
       refine⟨?_,?_,?_,?_⟩<;>(rw[cell_of_row _ _ _ _ _ _ V3.out.1];rfl)
      have fz:=Lib.frozen_of_heap V3.out.1
      go_upto_region 12 with fail
      obtain⟨w4,hw4⟩:∃w4,w4=w3.setCell ⟨Q,3,none⟩ (.int .i64 (k:Int)):=⟨_,rfl⟩
      have HBW:Hid (Below w'.heap.size w' w4):=by
       have h2:=HB2.out.size
       have h3:=V3.out.2.1
       rw[hw4]
       exact(HB2.out.trans (V3.out.2.2.mono h2)).setCell (by show w'.heap.size≤Q;omega) _
      have V4:Hid (w4.heap[Q]?=some (.cells #[.int .u8 (kd:Int),.string tb,.int .i64 nn,.int .i64 (k:Int)] 92 (0,0))):=by rw[hw4];exact heap_setCell_same w3 _ 3 _ 92 _ V3.out.1
      rw[←hw4]
      clear hw4 p0 p1 p2 p3 fz S3 V3
      obtain⟨p0,p1,p2,p3⟩:w4.cell? ⟨Q,0,none⟩=some (.int .u8 (kd:Int))∧w4.cell? ⟨Q,1,none⟩=some (.string tb)∧w4.cell? ⟨Q,2,none⟩=some (.int .i64 nn)∧w4.cell? ⟨Q,3,none⟩=some (.int .i64 (k:Int)):=by
       refine⟨?_,?_,?_,?_⟩<;>(rw[cell_of_row _ _ _ _ _ _ V4.out];rfl)
      obtain⟨j,hj⟩:∃j,j=ts.length:=⟨_,rfl⟩
      have HJ:Hid (j=ts.length):=hj
      have HOWN:Hid (w4.ownsRow w.heap.size 92 4 lv j (Lx.tcs ts)):=by rw[hj];exact zaT S.out.row HBW.out
      have fit63:Hid (j+1≤maxLen):=by show _≤_;unfold maxLen;omega
      have fit47:Hid ((j+1)*40≤140737488355328):=by show _≤_;omega
      have HSZ2:Hid (w.heap.size≤(w4.alloc (.cells #[.int .u8 (kd:Int),.string tb,.int .i64 nn,.int .i64 (k:Int)] 92)).heap.size):=by have:=HBW.out.size;have:=S.out.below.size;show _≤_;simp;omega
      have HNX:Hid (∀gg cap w5,(w4.alloc (.cells #[.int .u8 (kd:Int),.string tb,.int .i64 nn,.int .i64 (k:Int)] 92)).grownBy w5 lv.ownBlock→w5.ownsRow w.heap.size 92 4 (.slice (some ⟨gg,0,none⟩) (j+1) cap) (j+1) (Lx.tcs ts++[.int .u8 (kd:Int),.string tb,.int .i64 nn,.int .i64 (k:Int)])→RS w w5 (ts++[⟨F.kind,F.text,F.n,k⟩]) (.slice (some ⟨gg,0,none⟩) (j+1) cap)):=by
       intro gg cap w5 hgr hno
       obtain⟨g1,g2,g3,_⟩:=HGV.out rfl
       rw[hj] at hno ⊢
       rw[g1,g2,g3] at hno hgr
       exact RS.next (t:=⟨F.kind,F.text,F.n,k⟩) S.out HBW.out ((Below.refl _ _).alloc (Nat.le_refl _) _) hgr hno
      clear hj
      go_upto_region 13 with (first | (at_builtin;refine wpList_append_lies _ rfl _ _ 61 rfl w.heap.size 92 ir _ 4 40 Tryz.underlying61 hir hr0 hr1 hr2 rfl (by decide) _ _ _ rfl (HOWN.out.alloc _) ⟨w4.heap.size,0,none⟩ 1 1 [.int .u8 (kd:Int),.string tb,.int .i64 nn,.int .i64 (k:Int)] rfl rfl (World.news_of_block (heap_alloc_new w4 _)) (by intro u hu;simp at hu;rcases hu with rfl | rfl | rfl | rfl<;>rfl) (by decide) fit63.out fit47.out HSZ2.out _ rfl ?_;intro gg cap w5 hown5 hgrow hat hglt;have S5:Hid (RS w w5 (ts++[⟨F.kind,F.text,F.n,k⟩]) (.slice (some ⟨gg,0,none⟩) (j+1) cap)):=HNX.out gg cap w5 hgrow hown5;clear hown5 hgrow hat hglt))
      obtain⟨a2,ha2⟩:∃a2,a2=k+sz:=⟨_,rfl⟩
      have hle2:a2≤l.length:=by have:=HSZ.out;have:=HXR.out.2.2.2;omega
      have hgt:k<a2:=by have:=HSZ.out;omega
      have HA:Hid (Lx.lx (l.length+1) l 0=Lx.join (ts++[⟨F.kind,F.text,F.n,k⟩]) (Lx.lx m' (l.drop a2) a2)):=by rw[ha2,(HGV.out rfl).2.2.2];exact HLN.out rfl
      have hlen:(ts++[(⟨F.kind,F.text,F.n,k⟩:Lx.Tk)]).length≤a2:=by rw[List.length_append];show ts.length+1≤a2;omega
      have hm3:l.length<a2+m':=by omega
      have hw1:wrap64 ((k:Int)+(sz:Int))=(a2:Int):=by unfold wrap64;omega
      clear HLN HLE ha2
      go_wp2
      rw[hw1]
      exact⟨⟨ts++[⟨F.kind,F.text,F.n,k⟩],a2,m',_,rfl,rfl,hle2,hm3,HA.out,hlen,S5.out⟩,Lx.arC (k:=k) (a:=a2) (k2:=a2) (L:=l.length) hgt (Nat.le_refl _) hle2⟩
     ·have q2:((er:Int)==0)=false:=by rw[beq_eq_false_iff_ne];omega
      have q3:((er:Int) != 0)=true:=by rw[bne,q2];rfl
      have hF:=HLE.out he
      have HFF:Hid (Lx.lex l=⟨[],er,k⟩):=hF
      have HBB:=S3.out.below
      clear hF he
      go_wp2
      refine bodyPost_ret (zbI rfl _ _) rfl ?_
      rw[HFF.out]
      exact⟨HBB,_,rfl,World.ownsRow_nil _ _ _ _⟩
   ·have q1:¬(k:Int)<n:=by rw[HN.out];omega
    have HF:Hid (Lx.lex l=⟨ts,0,0⟩):=by
     show _=_
     rw[HR.out,HLX.out,List.drop_of_length_le (by omega)]
     cases m with
     | zero=>simp[Lx.lx,Lx.join]
     | succ m=>simp[Lx.lx,Lx.join,Lx.bl]
    have hF:=S.out
    go_wp2
    refine bodyPost_ret (zbI rfl _ _) rfl ?_
    rw[HF.out]
    exact⟨hF.below,_,rfl,hF.row⟩
end Go.Proofs.YtfhkaffakniioaaGreatDoor
