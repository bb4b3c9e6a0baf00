/- Several texts, joined. -/
import Derived.Test.YtfhkaffakniioaaGreatDoorQ71M
import Derived.Test.YtfhkaffakniioaaGreatDoorLxJM
set_option maxHeartbeats 8000000
set_option maxRecDepth 100000
namespace Go.Proofs.YtfhkaffakniioaaGreatDoor
open Go.RowKit
namespace Lx
def NextGave (F:R) (w:World) (e:Ending) (w':World):Prop:=Below w.heap.size w w'∧∃k t n sz,e=.returned (.tuple #[.agg (tc k t n 0),.int .i64 ((sz:Nat):Int),.int .i64 (F.err:Int)])∧(F.err=0→k=F.kind∧t=F.text∧n=F.n∧sz=F.size)
theorem word_err (l:Bs):(word l).err=if wok (l.take (wsz l)) then 0 else 13:=by
 have hl:(l.take (wsz l)).length=wsz l:=by rw[List.length_take];have:=wsz_le l;omega
 rw[word,wok,hl]
 by_cases h:isKey (l.take (wsz l))=true
 ·rw[if_pos h,h];rfl
 ·have h':isKey (l.take (wsz l))=false:=by simpa using h
  rw[if_neg h,h']
  by_cases h2:64<wsz l
  ·rw[if_pos h2,decide_eq_false (by omega)];rfl
  ·rw[if_neg h2,decide_eq_true (by omega)];rfl
theorem word_is (l:Bs) (h:(word l).err=0):wk (l.take (wsz l))=(word l).kind∧wt (l.take (wsz l))=(word l).text∧(word l).n=0∧(word l).size=wsz l:=by
 rw[wk,wt]
 rw[word] at h ⊢
 by_cases h1:isKey (l.take (wsz l))=true
 ·rw[if_pos h1,if_pos h1,if_pos h1];exact⟨rfl,rfl,rfl,rfl⟩
 ·rw[if_neg h1] at h
  rw[if_neg h1,if_neg h1,if_neg h1]
  by_cases h2:64<wsz l
  ·rw[if_pos h2] at h;cases h
  ·rw[if_neg h2];exact⟨rfl,rfl,rfl,rfl⟩
end Lx
theorem zaY {fn:Func} {p u v:Tmp} {F:Lx.R} {w W:World} {tmps:Array Value} {k:Nat} {t:Lx.Bs} {n:Int} {sz:Nat} (hr:fn.results=#[.cell p 92,.tmp u,.tmp v]) (h:T4 w W) (hk:F.err=0→k=F.kind∧t=F.text∧n=F.n∧sz=F.size) (hp:tmps.getD p undef=.pointer (some ⟨w.heap.size,0,none⟩)) (hu:tmps.getD u undef=.int .i64 (sz:Int)) (hv:tmps.getD v undef=.int .i64 (F.err:Int)) :
  bodyPost Tryz.prog fn (Lx.NextGave F w) .ret ⟨tmps,[]⟩ ((((W.setCell ⟨w.heap.size,0,none⟩ (.int .u8 (k:Int))).setCell ⟨w.heap.size,1,none⟩ (.string (Lx.bs t))).setCell ⟨w.heap.size,2,none⟩ (.int .i64 n)).setCell ⟨w.heap.size,3,none⟩ (.int .i64 0)):=by
 obtain⟨HA,HB⟩:=h.put (.int .u8 (k:Int)) (.string (Lx.bs t)) (.int .i64 n) (.int .i64 0)
 refine bodyPost_ret (zbJ hr tmps _ w.heap.size 92 _ (0,0) _ hp HA Tryz.underlying92 rfl infoTok) rfl ⟨HB,k,t,n,sz,?_,hk⟩
 rw[hu,hv]
 rfl
theorem rnextL_c (x:UInt8) (r:Lx.Bs) (hx:Lx.isL x.toNat=true) (hl:(x :: r).length≤16384) (w:World):Calls Tryz.prog 123 #[.string (Lx.bs (x :: r))] w (Lx.NextGave (Lx.word (x :: r)) w):=by
 obtain⟨w1,hw1⟩:∃w1,w1=w.alloc (.cells #[.int .u8 0,.string ⟨#[]⟩,.int .i64 0,.int .i64 0] 92):=⟨_,rfl⟩
 have X1:Hid (T4 w w1):=by rw[hw1];exact T4.start w
 obtain⟨l,hxl⟩:∃l,l=x :: r:=⟨_,rfl⟩
 obtain⟨s,hs⟩:∃s,s=Lx.bs l:=⟨_,rfl⟩
 obtain⟨n,hn⟩:∃n:Int,n=(l.length:Int):=⟨_,rfl⟩
 have hsz:(s.size:Int)=n:=by rw[hs,Lx.bs_size,hn]
 have HNL:Hid (n=(l.length:Int)):=hn
 have HIX:Hid (∀(k:Nat) (b:UInt8),l[k]?=some b→∀wx,(Instr.index 9 (.string s) (.int .i64 (k:Int))).run Tryz.prog wx=.ok (.int .u8 (b.toNat:Int)) wx):=fun k b hb wx=>by rw[hs];exact Lx.index_at l (k:Int) k b rfl hb wx
 have hx0:∀wx,(Instr.index 9 (.string s) (.int .i64 0)).run Tryz.prog wx=.ok (.int .u8 (x.toNat:Int)) wx:=HIX.out 0 x (by rw[hxl];rfl)
 have HSL:Hid (∀(k:Nat),k≤l.length→∀wx,(Instr.slice 9 (.string s) none (some (.int .i64 (k:Int))) none).run Tryz.prog wx=.ok (.string (Lx.bs (l.take k))) wx):=fun k hk wx=>by rw[hs];exact Lx.slice_to l (k:Int) k rfl hk wx
 have CL:Hid (∀(b:Nat) (W:World),Calls Tryz.prog 150 #[.int .u8 (b:Int)] W fun e w'=>e=.returned (.bool (Lx.isL b))∧w'=W):=zcE
 have CD:Hid (∀(b:Nat) (W:World),Calls Tryz.prog 151 #[.int .u8 (b:Int)] W fun e w'=>e=.returned (.bool (Lx.isD b))∧w'=W):=zdK
 have C0:Hid (∀W:World,Calls Tryz.prog 150 #[.int .u8 (x.toNat:Int)] W fun e w'=>e=.returned (.bool true)∧w'=W):=fun W=>by have h:=zcE x.toNat W;rw[hx] at h;exact h
 have CW:Hid (∀(k:Nat) (W:World),Calls Tryz.prog 152 #[.string (Lx.bs (l.take k))] W fun e w'=>e=.returned (.tuple #[.agg (Lx.tc (Lx.wk (l.take k)) (Lx.wt (l.take k)) 0 0),.bool (Lx.wok (l.take k))])∧Below W.heap.size W w'):=fun k W=>rword_c (l.take k) (by rw[List.length_take,hxl];omega) W
 rw[←hxl] at hl ⊢
 rw[←hs]
 clear hs hxl hn hx
 go_enter Tryz.func123,Tryz.ntmps123
 go_upto_region 1 with fail
 rw[←hw1]
 clear hw1
 go_wp2_with fail
 refine Calls.mono (C0.out _) ?_
 rintro e w' ⟨rfl,hw'⟩
 subst hw'
 clear C0 hx0
 go_wp2
 go_loopw [5] (fun i wr=>∃j:Nat,j≤l.length∧i=.int .i64 (j:Int)∧wr=w'∧∀k,k<j→∃b,l[k]?=some b∧Lx.isW b=true) (fun i _=>l.length - (intOf i).toNat)
 case atStart=>exact⟨0,Nat.zero_le _,rfl,rfl,fun k hk=>by omega⟩
 case round =>
  obtain⟨j,hj,rfl,hwr,hin⟩:=hrel
  subst hwr
  have HIN:Hid (∀k,k<j→∃b,l[k]?=some b∧Lx.isW b=true):=hin
  clear hin
  have HEND:Hid (Lx.wsz l=j→True):=fun _=>trivial
  by_cases hlt:j<l.length
  ·have q0:(j:Int)<n:=by rw[HNL.out];omega
   obtain⟨a1,a2,a3⟩:=Lx.arQ hlt (by omega)
   obtain⟨b,hb⟩:∃b,l[j]?=some b:=⟨_,List.getElem?_eq_getElem hlt⟩
   have hix:=HIX.out j b hb
   have HB:Hid (l[j]?=some b):=hb
   clear hb
   obtain⟨l1,hl1⟩:∃l1,l1=Lx.isL b.toNat:=⟨_,rfl⟩
   obtain⟨d1,hd1⟩:∃d1,d1=Lx.isD b.toNat:=⟨_,rfl⟩
   have HLD:Hid (l1=Lx.isL b.toNat∧d1=Lx.isD b.toNat):=⟨hl1,hd1⟩
   have C1:Hid (∀W:World,Calls Tryz.prog 150 #[.int .u8 (b.toNat:Int)] W fun e w'=>e=.returned (.bool l1)∧w'=W):=fun W=>by rw[hl1];exact CL.out b.toNat W
   have C2:Hid (∀W:World,Calls Tryz.prog 151 #[.int .u8 (b.toNat:Int)] W fun e w'=>e=.returned (.bool d1)∧w'=W):=fun W=>by rw[hd1];exact CD.out b.toNat W
   clear hl1 hd1
   go_wp2_with fail
   refine Calls.mono (C1.out _) ?_
   rintro e w' ⟨rfl,hw'⟩
   subst hw'
   cases l1 with
   | true =>
    go_wp2
    go_roundw
    case rel=>exact⟨j+1,by omega,by go_num,trivial,fun k hk=>by
     rcases Nat.lt_or_ge k j with h | h
     ·exact HIN.out k h
     ·obtain rfl:k=j:=by omega
      exact⟨b,HB.out,by rw[Lx.isW,←HLD.out.1];rfl⟩⟩
    case measure=>simp[intOf];omega
   | false =>
    go_wp2_with fail
    refine Calls.mono (C2.out _) ?_
    rintro e w' ⟨rfl,hw'⟩
    subst hw'
    cases d1 with
    | true =>
     go_wp2
     go_roundw
     case rel=>exact⟨j+1,by omega,by go_num,trivial,fun k hk=>by
      rcases Nat.lt_or_ge k j with h | h
      ·exact HIN.out k h
      ·obtain rfl:k=j:=by omega
       exact⟨b,HB.out,by rw[Lx.isW,←HLD.out.1,←HLD.out.2];rfl⟩⟩
     case measure=>simp[intOf];omega
    | false =>
     have HW:Hid (Lx.wsz l=j):=Lx.wsz_of _ j HIN.out (fun c hc=>by
      have h:=HB.out
      rw[hc] at h
      cases h
      rw[Lx.isW,←HLD.out.1,←HLD.out.2];rfl)
     clear C1 C2
     have hsl:=HSL.out j hj
     obtain⟨kk,hkk⟩:∃kk,kk=Lx.wk (l.take j):=⟨_,rfl⟩
     obtain⟨tt,htt⟩:∃tt,tt=Lx.wt (l.take j):=⟨_,rfl⟩
     obtain⟨ok,hok⟩:∃ok,ok=Lx.wok (l.take j):=⟨_,rfl⟩
     have C3:Hid (∀W:World,Calls Tryz.prog 152 #[.string (Lx.bs (l.take j))] W fun e w'=>e=.returned (.tuple #[.agg #[.int .u8 (kk:Int),.string (Lx.bs tt),.int .i64 0,.int .i64 0],.bool ok])∧Below W.heap.size W w'):=fun W=>by rw[hkk,htt,hok];exact CW.out j W
     have HWE:Hid ((Lx.word l).err=(if ok then 0 else 13)∧((Lx.word l).err=0→kk=(Lx.word l).kind∧tt=(Lx.word l).text∧(0:Int)=(Lx.word l).n∧j=(Lx.word l).size)):=by
      have h1:=Lx.word_err l
      have h2:=Lx.word_is l
      rw[HW.out,←hok] at h1
      rw[HW.out,←hkk,←htt] at h2
      exact⟨h1,fun he=>⟨(h2 he).1,(h2 he).2.1,(h2 he).2.2.1.symm,(h2 he).2.2.2.symm⟩⟩
     obtain⟨sj,hsj⟩:∃sj,sj=Lx.bs (l.take j):=⟨_,rfl⟩
     rw[←hsj] at hsl C3
     clear hkk htt hok hsj CW CL CD HSL
     go_wp2_with fail
     refine Calls.mono (C3.out _) ?_
     rintro e w2 ⟨rfl,hb2⟩
     have X2:Hid (T4 w w2):=X1.out.call hb2
     clear hb2 C3 X1
     go_upto_region 6 with fail
     obtain⟨w3,hw3⟩:∃w3,w3=w2.alloc (.cells #[.int .u8 (kk:Int),.string (Lx.bs tt),.int .i64 0,.int .i64 0] 92):=⟨_,rfl⟩
     obtain⟨Q,hQ⟩:∃Q,Q=w2.heap.size:=⟨_,rfl⟩
     have X3:Hid (T4 w w3):=by rw[hw3];exact X2.out.call ((Below.refl _ _).alloc (Nat.le_refl _) _)
     have V3:Hid (w3.heap[Q]?=some (.cells #[.int .u8 (kk:Int),.string (Lx.bs tt),.int .i64 0,.int .i64 0] 92 (0,0))):=by rw[hw3,hQ];exact heap_alloc_new w2 _
     rw[←hw3,←hQ]
     clear hw3 hQ X2
     obtain⟨c0,c1,c2,c3⟩:w3.cell? ⟨Q,0,none⟩=some (.int .u8 (kk:Int))∧w3.cell? ⟨Q,1,none⟩=some (.string (Lx.bs tt))∧w3.cell? ⟨Q,2,none⟩=some (.int .i64 0)∧w3.cell? ⟨Q,3,none⟩=some (.int .i64 0):=by
      refine⟨?_,?_,?_,?_⟩<;>(rw[cell_of_row _ _ _ _ _ _ V3.out];rfl)
     obtain⟨p0,p1,p2,p3,fz⟩:=X3.out.cells
     cases ok with
     | true =>
      go_wp2
      exact zaY rfl X3.out HWE.out.2 rfl rfl (by rw[HWE.out.1];rfl)
     | false =>
      go_wp2
      exact zaY (sz:=0) rfl X3.out (fun h=>by rw[HWE.out.1] at h;cases h) rfl rfl (by rw[HWE.out.1];rfl)
  ·have q0:¬(j:Int)<n:=by rw[HNL.out];omega
   have HW:Hid (Lx.wsz l=j):=Lx.wsz_of _ j HIN.out (fun c hc=>by
    have:=(List.getElem?_eq_some_iff.1 hc).1
    omega)
   have hsl:=HSL.out j hj
   obtain⟨kk,hkk⟩:∃kk,kk=Lx.wk (l.take j):=⟨_,rfl⟩
   obtain⟨tt,htt⟩:∃tt,tt=Lx.wt (l.take j):=⟨_,rfl⟩
   obtain⟨ok,hok⟩:∃ok,ok=Lx.wok (l.take j):=⟨_,rfl⟩
   have C3:Hid (∀W:World,Calls Tryz.prog 152 #[.string (Lx.bs (l.take j))] W fun e w'=>e=.returned (.tuple #[.agg #[.int .u8 (kk:Int),.string (Lx.bs tt),.int .i64 0,.int .i64 0],.bool ok])∧Below W.heap.size W w'):=fun W=>by rw[hkk,htt,hok];exact CW.out j W
   have HWE:Hid ((Lx.word l).err=(if ok then 0 else 13)∧((Lx.word l).err=0→kk=(Lx.word l).kind∧tt=(Lx.word l).text∧(0:Int)=(Lx.word l).n∧j=(Lx.word l).size)):=by
    have h1:=Lx.word_err l
    have h2:=Lx.word_is l
    rw[HW.out,←hok] at h1
    rw[HW.out,←hkk,←htt] at h2
    exact⟨h1,fun he=>⟨(h2 he).1,(h2 he).2.1,(h2 he).2.2.1.symm,(h2 he).2.2.2.symm⟩⟩
   obtain⟨sj,hsj⟩:∃sj,sj=Lx.bs (l.take j):=⟨_,rfl⟩
   rw[←hsj] at hsl C3
   clear hkk htt hok hsj CW CL CD HSL
   go_wp2_with fail
   refine Calls.mono (C3.out _) ?_
   rintro e w2 ⟨rfl,hb2⟩
   have X2:Hid (T4 w w2):=X1.out.call hb2
   clear hb2 C3 X1
   go_upto_region 6 with fail
   obtain⟨w3,hw3⟩:∃w3,w3=w2.alloc (.cells #[.int .u8 (kk:Int),.string (Lx.bs tt),.int .i64 0,.int .i64 0] 92):=⟨_,rfl⟩
   obtain⟨Q,hQ⟩:∃Q,Q=w2.heap.size:=⟨_,rfl⟩
   have X3:Hid (T4 w w3):=by rw[hw3];exact X2.out.call ((Below.refl _ _).alloc (Nat.le_refl _) _)
   have V3:Hid (w3.heap[Q]?=some (.cells #[.int .u8 (kk:Int),.string (Lx.bs tt),.int .i64 0,.int .i64 0] 92 (0,0))):=by rw[hw3,hQ];exact heap_alloc_new w2 _
   rw[←hw3,←hQ]
   clear hw3 hQ X2
   obtain⟨c0,c1,c2,c3⟩:w3.cell? ⟨Q,0,none⟩=some (.int .u8 (kk:Int))∧w3.cell? ⟨Q,1,none⟩=some (.string (Lx.bs tt))∧w3.cell? ⟨Q,2,none⟩=some (.int .i64 0)∧w3.cell? ⟨Q,3,none⟩=some (.int .i64 0):=by
    refine⟨?_,?_,?_,?_⟩<;>(rw[cell_of_row _ _ _ _ _ _ V3.out];rfl)
   obtain⟨p0,p1,p2,p3,fz⟩:=X3.out.cells
   cases ok with
   | true =>
    go_wp2
    exact zaY rfl X3.out HWE.out.2 rfl rfl (by rw[HWE.out.1];rfl)
   | false =>
    go_wp2
    exact zaY (sz:=0) rfl X3.out (fun h=>by rw[HWE.out.1] at h;cases h) rfl rfl (by rw[HWE.out.1];rfl)
end Go.Proofs.YtfhkaffakniioaaGreatDoor
namespace Go.Proofs.YtfhkaffakniioaaGreatDoor
open Go.RowKit
namespace Lx
theorem allD_take {l:Bs} {j:Nat} (h:∀k,k<j→∃b,l[k]?=some b∧isD b.toNat=true):allD (l.take j)=true:=by
 rw[allD,List.all_eq_true]
 intro b hb
 obtain⟨i,hi,rfl⟩:=List.getElem_of_mem hb
 rw[List.length_take] at hi
 obtain⟨c,h1,h2⟩:=h i (by omega)
 rw[List.getElem_take]
 have:=(List.getElem?_eq_some_iff.1 h1).2
 rw[this]
 exact h2
theorem nok_iff (x:UInt8) (r:Bs) (hD:allD (x :: r)=true):nok (x :: r)=true ↔ (allD (x :: r)=true∧dv 0 (x :: r)≤9223372036854775807∧(r=[]∨x≠48)):=by
 rw[nok,Bool.and_eq_true,Bool.or_eq_true,decide_eq_true_iff,decide_eq_true_iff,decide_eq_true_iff]
 simp[hD]
theorem wsz_stop:∀(s:Bs) (c:UInt8),s[wsz s]?=some c→isW c=true→False
 | [],c,h,_=>by simp at h
 | b :: r,c,h,hw=>by
  rw[wsz] at h
  by_cases hb:isW b=true
  ·rw[if_pos hb] at h
   exact wsz_stop r c (by simpa using h) hw
  ·rw[if_neg hb] at h
   simp at h
   rw[h] at hb
   exact hb hw
theorem numb_of (x:UInt8) (r:Bs) (j:Nat) (hj:0<j) (h:∀k,k<j→∃b,(x :: r)[k]?=some b∧isD b.toNat=true) (hn:∀b,(x :: r)[j]?=some b→isD b.toNat=false) :
  (numb (x :: r)).err=(if nok ((x :: r).take j)=true∧(∀b,(x :: r)[j]?=some b→isL b.toNat=false) then 0 else 13) ∧
  ((numb (x :: r)).err=0→(numb (x :: r)).kind=3∧(numb (x :: r)).text=[]∧(numb (x :: r)).n=((dv 0 ((x :: r).take j):Nat):Int)∧(numb (x :: r)).size=j):=by
 have hD:=allD_take h
 have hx:isD x.toNat=true:=by obtain⟨b,h1,h2⟩:=h 0 hj;simp at h1;rw[h1];exact h2
 obtain⟨i,rfl⟩:∃i,j=i+1:=⟨j - 1,by omega⟩
 rw[List.take_succ_cons] at hD ⊢
 by_cases hL:∀b,(x :: r)[i+1]?=some b→isL b.toNat=false
 ·have hw:wsz (x :: r)=i+1:=wsz_of _ _ (fun k hk=>by
   obtain⟨b,h1,h2⟩:=h k hk
   exact⟨b,h1,by rw[isW,h2];simp⟩) (fun b hb=>by rw[isW,hL b hb,hn b hb];rfl)
  have e:=int_of x (r.take i) hx
  have e2:numOf ((x :: r).take (wsz (x :: r)))=if allD (x :: r.take i)=true∧dv 0 (x :: r.take i)≤9223372036854775807∧(r.take i=[]∨x≠48) then some ((dv 0 (x :: r.take i):Nat):Int) else none:=by
   rw[hw,List.take_succ_cons]
   exact e
  rw[numb,e2]
  by_cases hk:nok (x :: r.take i)=true
  ·rw[if_pos ((nok_iff _ _ hD).1 hk),if_pos ⟨hk,hL⟩]
   exact⟨rfl,fun _=>⟨rfl,rfl,rfl,hw⟩⟩
  ·rw[if_neg (fun h=>hk ((nok_iff _ _ hD).2 h)),if_neg (fun h=>hk h.1)]
   exact⟨rfl,fun h=>by cases h⟩
 ·rw[if_neg (fun h=>hL h.2)]
  have e2:numOf ((x :: r).take (wsz (x :: r)))=none:=by
   have hb:∃b,(x :: r)[i+1]?=some b∧isL b.toNat=true:=Decidable.byContradiction fun hno=>hL fun b hb=>by
    cases hl:isL b.toNat with
    | false=>rfl
    | true=>exact absurd ⟨b,hb,hl⟩ hno
   obtain⟨b,hb1,hb2⟩:=hb
   have hw:i+1<wsz (x :: r):=by
    refine Nat.lt_of_not_le fun hle=>?_
    have hlen:wsz (x :: r)<(x :: r).length:=by
     have:=(List.getElem?_eq_some_iff.1 hb1).1
     omega
    have hstop:∃c,(x :: r)[wsz (x :: r)]?=some c∧isW c=true:=by
     rcases Nat.lt_or_ge (wsz (x :: r)) (i+1) with h1 | h1
     ·obtain⟨c,h2,h3⟩:=h _ h1
      exact⟨c,h2,by rw[isW,h3];simp⟩
     ·have:wsz (x :: r)=i+1:=by omega
      rw[this]
      exact⟨b,hb1,by rw[isW,hb2];rfl⟩
    obtain⟨c,h2,h3⟩:=hstop
    exact wsz_stop _ _ h2 h3
   obtain⟨z,hz⟩:∃z,wsz (x :: r)=z+1:=⟨wsz (x :: r) - 1,by omega⟩
   have e:=int_of x (r.take z) hx
   rw[if_neg] at e
   ·rw[hz,List.take_succ_cons];exact e
   ·intro hc
    have h4:(x :: r.take z)[i+1]?=some b:=by
     have:(x :: r.take z)=(x :: r).take (z+1):=rfl
     rw[this,List.getElem?_take_of_lt (by omega)]
     exact hb1
    have h5:=List.mem_of_getElem? h4
    have h6:=hc.1
    rw[allD,List.all_eq_true] at h6
    have h7:=h6 b h5
    have h8:=hn b hb1
    rw[h7] at h8
    cases h8
  rw[numb,e2]
  exact⟨rfl,fun h=>by cases h⟩
end Lx
end Go.Proofs.YtfhkaffakniioaaGreatDoor
namespace Go.Proofs.YtfhkaffakniioaaGreatDoor
open Go.RowKit
theorem rnextD_c (x:UInt8) (r:Lx.Bs) (hxl0:Lx.isL x.toNat=false) (hx:Lx.isD x.toNat=true) (hl:(x :: r).length≤16384) (w:World):Calls Tryz.prog 123 #[.string (Lx.bs (x :: r))] w (Lx.NextGave (Lx.numb (x :: r)) w):=by
 obtain⟨w1,hw1⟩:∃w1,w1=w.alloc (.cells #[.int .u8 0,.string ⟨#[]⟩,.int .i64 0,.int .i64 0] 92):=⟨_,rfl⟩
 have X1:Hid (T4 w w1):=by rw[hw1];exact T4.start w
 obtain⟨l,hxl⟩:∃l,l=x :: r:=⟨_,rfl⟩
 obtain⟨s,hs⟩:∃s,s=Lx.bs l:=⟨_,rfl⟩
 obtain⟨n,hn⟩:∃n:Int,n=(l.length:Int):=⟨_,rfl⟩
 have hsz:(s.size:Int)=n:=by rw[hs,Lx.bs_size,hn]
 have HNL:Hid (n=(l.length:Int)):=hn
 have HIX:Hid (∀(k:Nat) (b:UInt8),l[k]?=some b→∀wx,(Instr.index 9 (.string s) (.int .i64 (k:Int))).run Tryz.prog wx=.ok (.int .u8 (b.toNat:Int)) wx):=fun k b hb wx=>by rw[hs];exact Lx.index_at l (k:Int) k b rfl hb wx
 have hx0:∀wx,(Instr.index 9 (.string s) (.int .i64 0)).run Tryz.prog wx=.ok (.int .u8 (x.toNat:Int)) wx:=HIX.out 0 x (by rw[hxl];rfl)
 have HSL:Hid (∀(k:Nat),k≤l.length→∀wx,(Instr.slice 9 (.string s) none (some (.int .i64 (k:Int))) none).run Tryz.prog wx=.ok (.string (Lx.bs (l.take k))) wx):=fun k hk wx=>by rw[hs];exact Lx.slice_to l (k:Int) k rfl hk wx
 have CL:Hid (∀(b:Nat) (W:World),Calls Tryz.prog 150 #[.int .u8 (b:Int)] W fun e w'=>e=.returned (.bool (Lx.isL b))∧w'=W):=zcE
 have CD:Hid (∀(b:Nat) (W:World),Calls Tryz.prog 151 #[.int .u8 (b:Int)] W fun e w'=>e=.returned (.bool (Lx.isD b))∧w'=W):=zdK
 have C0:Hid (∀W:World,Calls Tryz.prog 150 #[.int .u8 (x.toNat:Int)] W fun e w'=>e=.returned (.bool false)∧w'=W):=fun W=>by have h:=zcE x.toNat W;rw[hxl0] at h;exact h
 have C00:Hid (∀W:World,Calls Tryz.prog 151 #[.int .u8 (x.toNat:Int)] W fun e w'=>e=.returned (.bool true)∧w'=W):=fun W=>by have h:=zdK x.toNat W;rw[hx] at h;exact h
 have HNUM:Hid (∀j,0<j→(∀k,k<j→∃b,l[k]?=some b∧Lx.isD b.toNat=true)→(∀b,l[j]?=some b→Lx.isD b.toNat=false)→(∀W:World,Calls Tryz.prog 153 #[.string (Lx.bs (l.take j))] W (Lx.NumGave (l.take j) W))∧(Lx.numb l).err=(if Lx.nok (l.take j)=true∧(∀b,l[j]?=some b→Lx.isL b.toNat=false) then 0 else 13)∧((Lx.numb l).err=0→(Lx.numb l).kind=3∧(Lx.numb l).text=[]∧(Lx.numb l).n=((Lx.dv 0 (l.take j):Nat):Int)∧(Lx.numb l).size=j)):=fun j hj h1 h2=>by
  rw[hxl] at h1 h2 ⊢
  refine⟨fun W=>?_,Lx.numb_of x r j hj h1 h2⟩
  obtain⟨i,rfl⟩:∃i,j=i+1:=⟨j - 1,by omega⟩
  have hD:=Lx.allD_take h1
  rw[List.take_succ_cons] at hD ⊢
  exact rnumber_c x (r.take i) hD (by simp at hl ⊢;omega) W
 have HD0:Hid (∃b,l[0]?=some b∧Lx.isD b.toNat=true):=⟨x,by rw[hxl];rfl,hx⟩
 rw[←hxl] at hl ⊢
 rw[←hs]
 clear hs hxl hn hx hxl0
 go_enter Tryz.func123,Tryz.ntmps123
 go_upto_region 1 with fail
 rw[←hw1]
 clear hw1
 go_wp2_with fail
 refine Calls.mono (C0.out _) ?_
 rintro e w' ⟨rfl,hw'⟩
 subst hw'
 go_wp2_with fail
 refine Calls.mono (C00.out _) ?_
 rintro e w' ⟨rfl,hw'⟩
 subst hw'
 clear C0 C00 hx0
 go_wp2
 go_loopw [5] (fun i wr=>∃j:Nat,j≤l.length∧i=.int .i64 (j:Int)∧wr=w'∧∀k,k<j→∃b,l[k]?=some b∧Lx.isD b.toNat=true) (fun i _=>l.length - (intOf i).toNat)
 case atStart=>exact⟨0,Nat.zero_le _,rfl,rfl,fun k hk=>by omega⟩
 case round =>
  obtain⟨j,hj,rfl,hwr,hin⟩:=hrel
  subst hwr
  have HIN:Hid (∀k,k<j→∃b,l[k]?=some b∧Lx.isD b.toNat=true):=hin
  clear hin
  by_cases hlt:j<l.length
  ·have q0:(j:Int)<n:=by rw[HNL.out];omega
   obtain⟨a1,a2,a3⟩:=Lx.arQ hlt (by omega)
   obtain⟨b,hb⟩:∃b,l[j]?=some b:=⟨_,List.getElem?_eq_getElem hlt⟩
   have hix:=HIX.out j b hb
   have HB:Hid (l[j]?=some b):=hb
   clear hb
   obtain⟨l1,hl1⟩:∃l1,l1=Lx.isL b.toNat:=⟨_,rfl⟩
   obtain⟨d1,hd1⟩:∃d1,d1=Lx.isD b.toNat:=⟨_,rfl⟩
   have HLD:Hid (l1=Lx.isL b.toNat∧d1=Lx.isD b.toNat):=⟨hl1,hd1⟩
   have C1:Hid (∀W:World,Calls Tryz.prog 150 #[.int .u8 (b.toNat:Int)] W fun e w'=>e=.returned (.bool l1)∧w'=W):=fun W=>by rw[hl1];exact CL.out b.toNat W
   have C2:Hid (∀W:World,Calls Tryz.prog 151 #[.int .u8 (b.toNat:Int)] W fun e w'=>e=.returned (.bool d1)∧w'=W):=fun W=>by rw[hd1];exact CD.out b.toNat W
   clear hl1 hd1
   go_wp2_with fail
   refine Calls.mono (C2.out _) ?_
   rintro e w' ⟨rfl,hw'⟩
   subst hw'
   cases d1 with
   | true =>
    go_wp2
    go_roundw
    case rel=>exact⟨j+1,by omega,by go_num,trivial,fun k hk=>by
     rcases Nat.lt_or_ge k j with h | h
     ·exact HIN.out k h
     ·obtain rfl:k=j:=by omega
      exact⟨b,HB.out,HLD.out.2.symm⟩⟩
    case measure=>simp[intOf];omega
   | false =>
    have HP:Hid ((∀W:World,Calls Tryz.prog 153 #[.string (Lx.bs (l.take j))] W (Lx.NumGave (l.take j) W))∧(Lx.numb l).err=(if Lx.nok (l.take j)=true∧l1=false then 0 else 13)∧((Lx.numb l).err=0→(Lx.numb l).kind=3∧(Lx.numb l).text=[]∧(Lx.numb l).n=((Lx.dv 0 (l.take j):Nat):Int)∧(Lx.numb l).size=j)):=by
     have hj0:0<j:=Nat.pos_of_ne_zero fun e=>by
      obtain⟨b0,h1,h2⟩:=HD0.out
      have h3:=HB.out
      rw[e,h1] at h3
      cases h3
      rw[h2] at HLD
      have:=HLD.out.2
      cases this
     have h:=HNUM.out j hj0 HIN.out (fun c hc=>by
      have h:=HB.out
      rw[hc] at h
      cases h
      exact HLD.out.2.symm)
     refine⟨h.1,?_,h.2.2⟩
     rw[h.2.1]
     have e:(∀c,l[j]?=some c→Lx.isL c.toNat=false) ↔ l1=false:=⟨fun h=>by rw[HLD.out.1];exact h b HB.out,fun h c hc=>by
      have h3:=HB.out
      rw[hc] at h3
      cases h3
      rw[←HLD.out.1];exact h⟩
     simp only[e]
    clear C2
    have hsl:=HSL.out j hj
    obtain⟨sj,hsj⟩:∃sj,sj=Lx.bs (l.take j):=⟨_,rfl⟩
    obtain⟨ok,hok⟩:∃ok,ok=Lx.nok (l.take j):=⟨_,rfl⟩
    obtain⟨tt,htt⟩:∃tt,tt=Lx.bs []:=⟨_,rfl⟩
    have C3:Hid (∀W:World,Calls Tryz.prog 153 #[.string sj] W fun e w'=>Below W.heap.size W w'∧∃(kk:Nat) (nn:Int),e=.returned (.tuple #[.agg #[.int .u8 (kk:Int),.string tt,.int .i64 nn,.int .i64 0],.bool ok])∧(ok=true→kk=3∧nn=((Lx.dv 0 (l.take j):Nat):Int))):=by rw[hsj,htt,hok];exact HP.out.1
    rw[←hsj] at hsl
    rw[←hok] at HP
    have HTT:Hid (tt=Lx.bs []):=htt
    clear hsj CL CD HSL HNUM HD0 hok htt
    go_wp2_with fail
    refine Calls.mono (C3.out _) ?_
    rintro e w2 ⟨hb2,kk,nn,rfl,hkn⟩
    have HKN:Hid (ok=true→kk=3∧nn=((Lx.dv 0 (l.take j):Nat):Int)):=hkn
    have X2:Hid (T4 w w2):=X1.out.call hb2
    clear hb2 C3 X1 hkn
    go_upto_region 13 with fail
    obtain⟨w3,hw3⟩:∃w3,w3=w2.alloc (.cells #[.int .u8 (kk:Int),.string tt,.int .i64 nn,.int .i64 0] 92):=⟨_,rfl⟩
    obtain⟨Q,hQ⟩:∃Q,Q=w2.heap.size:=⟨_,rfl⟩
    have X3:Hid (T4 w w3):=by rw[hw3];exact X2.out.call ((Below.refl _ _).alloc (Nat.le_refl _) _)
    have V3:Hid (w3.heap[Q]?=some (.cells #[.int .u8 (kk:Int),.string tt,.int .i64 nn,.int .i64 0] 92 (0,0))):=by rw[hw3,hQ];exact heap_alloc_new w2 _
    rw[←hw3,←hQ]
    clear hw3 hQ X2
    obtain⟨c0,c1,c2,c3⟩:w3.cell? ⟨Q,0,none⟩=some (.int .u8 (kk:Int))∧w3.cell? ⟨Q,1,none⟩=some (.string tt)∧w3.cell? ⟨Q,2,none⟩=some (.int .i64 nn)∧w3.cell? ⟨Q,3,none⟩=some (.int .i64 0):=by
     refine⟨?_,?_,?_,?_⟩<;>(rw[cell_of_row _ _ _ _ _ _ V3.out];rfl)
    obtain⟨p0,p1,p2,p3,fz⟩:=X3.out.cells
    cases ok with
    | false =>
     have HE:Hid ((Lx.numb l).err=13):=by show _=_;rw[HP.out.2.1,if_neg (by simp)]
     go_wp2
     rw[HTT.out]
     exact zaY (sz:=0) rfl X3.out (fun h=>by rw[HE.out] at h;cases h) rfl rfl (by rw[HE.out];rfl)
    | true =>
     go_wp2_with fail
     refine Calls.mono (C1.out _) ?_
     rintro e w' ⟨rfl,hw'⟩
     subst hw'
     cases l1 with
     | true =>
      have HE:Hid ((Lx.numb l).err=13):=by show _=_;rw[HP.out.2.1,if_neg (by simp)]
      go_wp2
      rw[HTT.out]
      exact zaY (sz:=0) rfl X3.out (fun h=>by rw[HE.out] at h;cases h) rfl rfl (by rw[HE.out];rfl)
     | false =>
      have HE:Hid ((Lx.numb l).err=0):=by show _=_;rw[HP.out.2.1,if_pos (by simp)]
      have HF:Hid ((Lx.numb l).err=0→kk=(Lx.numb l).kind∧[]=(Lx.numb l).text∧nn=(Lx.numb l).n∧j=(Lx.numb l).size):=fun he=>by
       obtain⟨h1,h2,h3,h4⟩:=HP.out.2.2 he
       obtain⟨h5,h6⟩:=HKN.out (by first | rfl | trivial)
       exact⟨by rw[h1,h5],h2.symm,by rw[h3,h6],h4.symm⟩
      go_wp2
      rw[HTT.out]
      exact zaY rfl X3.out HF.out rfl rfl (by rw[HE.out];rfl)
  ·have q0:¬(j:Int)<n:=by rw[HNL.out];omega
   have HP:Hid ((∀W:World,Calls Tryz.prog 153 #[.string (Lx.bs (l.take j))] W (Lx.NumGave (l.take j) W))∧(Lx.numb l).err=(if Lx.nok (l.take j)=true then 0 else 13)∧((Lx.numb l).err=0→(Lx.numb l).kind=3∧(Lx.numb l).text=[]∧(Lx.numb l).n=((Lx.dv 0 (l.take j):Nat):Int)∧(Lx.numb l).size=j)):=by
    have hlj:∀c,l[j]?≠some c:=fun c hc=>by
     have:=(List.getElem?_eq_some_iff.1 hc).1
     omega
    have hj0:0<j:=Nat.pos_of_ne_zero fun e=>by
     obtain⟨b0,h1,h2⟩:=HD0.out
     rw[e] at hlj
     exact hlj b0 h1
    have h:=HNUM.out j hj0 HIN.out (fun c hc=>absurd hc (hlj c))
    refine⟨h.1,?_,h.2.2⟩
    rw[h.2.1]
    have e:(∀c,l[j]?=some c→Lx.isL c.toNat=false) ↔ True:=⟨fun _=>trivial,fun _ c hc=>absurd hc (hlj c)⟩
    simp only[e,and_true]
   have hsl:=HSL.out j hj
   obtain⟨sj,hsj⟩:∃sj,sj=Lx.bs (l.take j):=⟨_,rfl⟩
   obtain⟨ok,hok⟩:∃ok,ok=Lx.nok (l.take j):=⟨_,rfl⟩
   obtain⟨tt,htt⟩:∃tt,tt=Lx.bs []:=⟨_,rfl⟩
   have C3:Hid (∀W:World,Calls Tryz.prog 153 #[.string sj] W fun e w'=>Below W.heap.size W w'∧∃(kk:Nat) (nn:Int),e=.returned (.tuple #[.agg #[.int .u8 (kk:Int),.string tt,.int .i64 nn,.int .i64 0],.bool ok])∧(ok=true→kk=3∧nn=((Lx.dv 0 (l.take j):Nat):Int))):=by rw[hsj,htt,hok];exact HP.out.1
   rw[←hsj] at hsl
   rw[←hok] at HP
   have HTT:Hid (tt=Lx.bs []):=htt
   clear hsj CL CD HSL HNUM HD0 hok htt
   go_wp2_with fail
   refine Calls.mono (C3.out _) ?_
   rintro e w2 ⟨hb2,kk,nn,rfl,hkn⟩
   have HKN:Hid (ok=true→kk=3∧nn=((Lx.dv 0 (l.take j):Nat):Int)):=hkn
   have X2:Hid (T4 w w2):=X1.out.call hb2
   clear hb2 C3 X1 hkn
   go_upto_region 13 with fail
   obtain⟨w3,hw3⟩:∃w3,w3=w2.alloc (.cells #[.int .u8 (kk:Int),.string tt,.int .i64 nn,.int .i64 0] 92):=⟨_,rfl⟩
   obtain⟨Q,hQ⟩:∃Q,Q=w2.heap.size:=⟨_,rfl⟩
   have X3:Hid (T4 w w3):=by rw[hw3];exact X2.out.call ((Below.refl _ _).alloc (Nat.le_refl _) _)
   have V3:Hid (w3.heap[Q]?=some (.cells #[.int .u8 (kk:Int),.string tt,.int .i64 nn,.int .i64 0] 92 (0,0))):=by rw[hw3,hQ];exact heap_alloc_new w2 _
   rw[←hw3,←hQ]
   clear hw3 hQ X2
   obtain⟨c0,c1,c2,c3⟩:w3.cell? ⟨Q,0,none⟩=some (.int .u8 (kk:Int))∧w3.cell? ⟨Q,1,none⟩=some (.string tt)∧w3.cell? ⟨Q,2,none⟩=some (.int .i64 nn)∧w3.cell? ⟨Q,3,none⟩=some (.int .i64 0):=by
    refine⟨?_,?_,?_,?_⟩<;>(rw[cell_of_row _ _ _ _ _ _ V3.out];rfl)
   obtain⟨p0,p1,p2,p3,fz⟩:=X3.out.cells
   cases ok with
   | false =>
    have HE:Hid ((Lx.numb l).err=13):=by show _=_;rw[HP.out.2.1,if_neg (by simp)]
    go_wp2
    rw[HTT.out]
    exact zaY (sz:=0) rfl X3.out (fun h=>by rw[HE.out] at h;cases h) rfl rfl (by rw[HE.out];rfl)
   | true =>
    have HE:Hid ((Lx.numb l).err=0):=by show _=_;rw[HP.out.2.1,if_pos (by simp)]
    have HF:Hid ((Lx.numb l).err=0→kk=(Lx.numb l).kind∧[]=(Lx.numb l).text∧nn=(Lx.numb l).n∧j=(Lx.numb l).size):=fun he=>by
     obtain⟨h1,h2,h3,h4⟩:=HP.out.2.2 he
     obtain⟨h5,h6⟩:=HKN.out (by first | rfl | trivial)
     exact⟨by rw[h1,h5],h2.symm,by rw[h3,h6],h4.symm⟩
    go_wp2
    rw[HTT.out]
    exact zaY rfl X3.out HF.out rfl rfl (by rw[HE.out];rfl)
end Go.Proofs.YtfhkaffakniioaaGreatDoor
