/- Several texts, joined. -/
import Derived.Test.YtfhkaffakniioaaGreatDoorQ13M
import Derived.Test.YtfhkaffakniioaaGreatDoorQ12M
set_option maxHeartbeats 4000000
set_option maxRecDepth 100000
namespace Go.Proofs.YtfhkaffakniioaaGreatDoor
open Go.RowKit
namespace Lx
theorem n_bounds (x:UInt8) (r:Bs):-9223372036854775808≤(frst (x :: r)).n∧(frst (x :: r)).n≤9223372036854775807:=by
 have z0:-9223372036854775808≤(0:Int)∧(0:Int)≤9223372036854775807:=by decide
 have h0:∀e,-9223372036854775808≤(no e).n∧(no e).n≤9223372036854775807:=fun e=>z0
 rw[frst]
 split
 ·rw[word]
  split
  ·exact z0
  ·split
   ·exact h0 _
   ·exact z0
 ·split
  ·rw[numb]
   cases hn:numOf ((x :: r).take (wsz (x :: r))) with
   | none=>exact h0 _
   | some v =>
    rw[numOf] at hn
    split at hn
    ·rename_i u hu
     have hb:=Lib.parseIntB_bounds hu
     simp at hb
     split at hn
     ·cases hn
      show -9223372036854775808≤v∧v≤9223372036854775807
      omega
     ·cases hn
    ·cases hn
  ·split
   ·rw[text]
    split
    ·rw[tok]
     split
     ·exact h0 _
     ·split
      ·exact h0 _
      ·exact z0
    ·exact h0 _
   ·split
    ·exact z0
    ·exact h0 _
theorem toks_len {l:Bs} {a:Nat} {ts:List Tk} (h:Toks l a ts):ts.length≤l.length:=by
 induction h with
 | nil h=>simp
 | cons h he _ ih=>have:=drop_lt h he;rw[List.length_cons];omega
theorem tcs_at (ts:List Tk) (j:Nat) (t:Tk) (h:ts[j]?=some t) (i:Nat) (v:Value) (hv:(tc t.kind t.text t.n t.at')[i]?=some v):(tcs ts)[j*4+i]?=some v:=by
 induction ts generalizing j with
 | nil=>simp at h
 | cons u ts ih =>
  have hc:tcs (u :: ts)=[.int .u8 (u.kind:Int),.string (bs u.text),.int .i64 u.n,.int .i64 (u.at':Int)]++tcs ts:=by simp[tcs,tc]
  rw[hc]
  have hi:i<4:=by have:=(Array.getElem?_eq_some_iff.1 hv).1;simpa [tc] using this
  cases j with
  | zero =>
   simp at h
   subst h
   rw[List.getElem?_append_left (by simp;omega)]
   simp[tc] at hv
   rw[Nat.zero_mul,Nat.zero_add]
   simpa using hv
  | succ j =>
   rw[List.getElem?_append_right (by simp;omega)]
   have:=ih j (by simpa using h)
   rw[←this]
   congr 1
   simp
   omega
end Lx
end Go.Proofs.YtfhkaffakniioaaGreatDoor
namespace Go.Proofs.YtfhkaffakniioaaGreatDoor
open Go.RowKit
namespace Ps
theorem sofar_leM {sep x:Bs} {r:List Bs} {M:Nat} (hs:sep.length≤10) (hx:x.length≤M) (hr:∀y∈r,y.length≤M):∀j,(sofar sep x r j).length≤M+j*(M+10)
 | 0=>by simp[sofar];omega
 | j+1=>by
  have e0:(j+1)*(M+10)=j*(M+10)+(M+10):=Nat.succ_mul _ _
  have h0:=sofar_leM hs hx hr j
  rw[e0]
  generalize j*(M+10)=P at h0 ⊢
  cases h:r[j]? with
  | none =>
   have e:r.take (j+1)=r.take j:=by rw[List.take_add_one,h];simp
   have e2:sofar sep x r (j+1)=sofar sep x r j:=by unfold sofar;rw[e]
   rw[e2]
   omega
  | some y =>
   rw[zcW h,List.length_append,List.length_append]
   have:=hr y (List.mem_of_getElem? h)
   omega
theorem lessG {T z:Nat} (h:T≤1000000000) (h2:z≤1000000000):¬((9223372036854775807 - T:Nat):Int)<(z:Int):=by omega
theorem stepM {T z j M:Nat} (h:T≤200000+j*M) (h2:z≤M):T+z≤200000+(j+1)*M:=by
 have e0:(j+1)*M=j*M+M:=Nat.succ_mul _ _
 rw[e0]
 omega
theorem capM {n M:Nat} (h:(n+1)*(M+10)≤900000000):M≤900000000∧(∀j,j≤n→j*M≤900000000)∧(∀j,j≤n→M+j*(M+10)≤900000000):=by
 have e:(n+1)*(M+10)=n*(M+10)+(M+10):=Nat.succ_mul _ _
 rw[e] at h
 refine⟨by omega,fun j hj=>?_,fun j hj=>?_⟩
 ·have h1:j*M≤n*(M+10):=Nat.mul_le_mul hj (by omega)
  omega
 ·have h1:j*(M+10)≤n*(M+10):=Nat.mul_le_mul_right _ hj
  omega
theorem join_g (M:Nat) (sep:Bs) (l:List Bs) (a:Option Addr) (n c:Nat) (W:World) (hn:n=l.length) (hl:n≤20001) (hnc:n≤c) (hc:c≤9223372036854775807) (hr:SR W a l) (hs:1≤sep.length∧sep.length≤10) (hx:∀x∈l,x.length≤M) (hM:(n+1)*(M+10)≤900000000):Calls Tryz.prog 23 #[.slice a n c,.string (Lx.bs sep)] W fun e W'=>e=.returned (.string (Lx.bs (join sep l)))∧Below W.heap.size W W':=by
 have HCM:=hidp (capM hM)
 clear hM
 cases l with
 | nil =>
  have:n=0:=hn
  subst this
  clear hl hnc hc hr hs hx hn
  go_enter Tryz.func23,Tryz.ntmps23
  go_wp2
  go_ret
  exact⟨rfl,Below.refl _ _⟩
 | cons x r0 =>
 cases r0 with
 | nil =>
  have:n=1:=hn
  subst this
  obtain⟨g,o,rfl,c0⟩:=hr 0 x rfl
  rw[Nat.add_zero] at c0
  clear hl hnc hc hr hs hx hn
  go_enter Tryz.func23,Tryz.ntmps23
  go_wp2
  go_ret
  exact⟨rfl,Below.refl _ _⟩
 | cons y r =>
  obtain⟨g,o,rfl,c0⟩:=hr 0 x rfl
  rw[Nat.add_zero] at c0
  have hn2:2≤n:=by rw[hn];simp
  obtain⟨ss,hss⟩:∃ss,ss=Lx.bs sep:=⟨_,rfl⟩
  obtain⟨k,hk⟩:∃k,k=sep.length:=⟨_,rfl⟩
  have hsz:(ss.size:Int)=(k:Int):=by rw[hss,Lx.bs_size,hk]
  have HSS:Hid (ss=Lx.bs sep∧k=sep.length∧1≤k∧k≤10):=⟨hss,hk,by omega,by omega⟩
  rw[←hss]
  obtain⟨n1,hn1⟩:∃n1,n=n1+1:=⟨n - 1,by omega⟩
  have HN:Hid (n=(x :: y :: r).length∧n≤20001∧n≤c∧c≤9223372036854775807∧2≤n∧n=n1+1∧n1=(y :: r).length):=⟨hn,hl,hnc,hc,hn2,hn1,by rw[hn] at hn1;simp at hn1;simp;omega⟩
  have HR:Hid (SR W (some ⟨g,o,none⟩) (x :: y :: r)∧∀z∈x :: y :: r,z.length≤M):=⟨hr,hx⟩
  have q0:((n:Int)==0)=false:=by simp;omega
  have q1:((n:Int)==1)=false:=by simp;omega
  have q2:(0:Int)<(k:Int):=by omega
  have q3:¬((n:Int) - 1=0):=by omega
  have q4:IntKind.i64.wrap ((n:Int) - 1)=(n1:Int)∧wrap64 ((n:Int) - 1)=(n1:Int):=wrp (by omega) (by omega)
  obtain⟨qq,hqq⟩:∃qq,qq=Int.tdiv 9223372036854775807 (n1:Int):=⟨_,rfl⟩
  have HQ:Hid (20≤qq):=by
   have:=quoN n hl hn2
   show(20:Int)≤qq
   rw[hqq,show(n1:Int)=(n:Int) - 1 by omega]
   exact this
  obtain⟨q4a,q4b⟩:=q4
  have hq9:qq≤9223372036854775807:=by
   rw[hqq,Int.tdiv_eq_ediv_of_nonneg (by decide)]
   exact Int.ediv_le_self _ (by decide)
  have q5:¬((n1:Int)=0):=by omega
  have hq20:20≤qq:=HQ.out
  obtain⟨t0,ht0⟩:∃t0,t0=k*n1:=⟨_,rfl⟩
  have ht0b:t0≤200000:=by
   rw[ht0]
   have h1:n1≤20000:=by omega
   have h2:k≤10:=by have:=HSS.out;omega
   exact Nat.le_trans (Nat.mul_le_mul h2 h1) (by decide)
  obtain⟨q6a,q6b⟩:=wrz (z:=qq) (by omega) hq9
  have q7:¬(qq≤(k:Int)):=by have:=HSS.out;omega
  have HT0:Hid (t0≤200000):=ht0b
  obtain⟨q8a,q8b⟩:=wrp (x:=(k:Int)*(n1:Int)) (c:=t0) (by rw[ht0];simp) (Nat.le_trans ht0b (by decide))
  obtain⟨q9a,q9b⟩:=wrp (x:=(t0:Int)) (c:=t0) rfl (Nat.le_trans ht0b (by decide))
  have hqq':=hqq.symm
  clear hn hl hnc hc hn2 hn1 hr hx hs hss hk hqq hq9 hq20 ht0 ht0b
  go_enter Tryz.func23,Tryz.ntmps23
  go_upto_region 11 with fail
  clear hqq' q4a q4b q6a q6b q7 q5 q3 q8a q8b q9a q9b q2
  have HC1:Hid (¬c=1):=by show ¬_;have:=HN.out;omega
  go_wp2
  go_loopw [5,7,41] (fun t _ i wr=>∃j T:Nat,j≤n∧i=.int .i64 j∧t=.int .i64 (T:Int)∧T≤200000+j*M∧wr=W) (fun _ _ i _=>n - (intOf i).toNat)
  case atStart=>exact⟨0,t0,Nat.zero_le _,rfl,rfl,by have:=HT0.out;rw[Nat.zero_mul];omega,rfl⟩
  case round =>
   obtain⟨j,T,hj,rfl,rfl,hT,hwr⟩:=hrel
   subst hwr
   by_cases hlt:j<n
   ·have q0:(j:Int)<(n:Int):=by omega
    have q1:(0:Int)≤(j:Int):=by omega
    obtain⟨z,hz⟩:∃z,(x :: y :: r)[j]?=some z:=⟨_,List.getElem?_eq_getElem (by have:=HN.out.1;omega)⟩
    obtain⟨g',o',e,cz⟩:=HR.out.1 j z hz
    cases e
    obtain⟨zs,hzs⟩:∃zs,zs=Lx.bs z:=⟨_,rfl⟩
    obtain⟨zk,hzk⟩:∃zk,zk=z.length:=⟨_,rfl⟩
    have hzz:(zs.size:Int)=(zk:Int):=by rw[hzs,Lx.bs_size,hzk]
    rw[←hzs] at cz
    have hzl:zk≤M:=by rw[hzk];exact HR.out.2 z (List.mem_of_getElem? hz)
    have hTb:T≤1000000000:=by have:=HCM.out.2.1 j hj;omega
    obtain⟨T1,hT1⟩:∃T1,T1=T+zk:=⟨_,rfl⟩
    obtain⟨j1,hj1⟩:∃j1,j1=j+1:=⟨_,rfl⟩
    have HJ:Hid (T1=T+zk∧j1=j+1∧j<n∧T≤200000+j*M∧zk≤M):=⟨hT1,hj1,hlt,hT,hzl⟩
    have HV:Hid ((IntKind.i64.wrap ((T:Int)+(zk:Int))=(T1:Int)∧wrap64 ((T:Int)+(zk:Int))=(T1:Int))∧(IntKind.i64.wrap ((j:Int)+1)=(j1:Int)∧wrap64 ((j:Int)+1)=(j1:Int))):=⟨wrp (by omega) (by have:=HCM.out.1;omega),wrp (by omega) (by have:=HN.out.2.1;omega)⟩
    have ql:=lessG (z:=zk) hTb (by have:=HCM.out.1;omega)
    obtain⟨sa,sb⟩:=subM hTb
    obtain⟨mT,hmT⟩:∃mT:Nat,mT=9223372036854775807 - T:=⟨_,rfl⟩
    rw[←hmT] at ql sa sb
    clear hz hzs hzk hT1 hj1 hlt hT hzl hTb hj hmT
    obtain⟨⟨v1,v2⟩,v3,v4⟩:=HV.out
    go_wp2
    clear v1 v2 v3 v4
    go_roundw
    case rel=>first | exact⟨j1,T1,by have:=HJ.out;omega,rfl,rfl,by rw[HJ.out.1,HJ.out.2.1];exact stepM HJ.out.2.2.2.1 HJ.out.2.2.2.2,by first | rfl | trivial⟩ | ((repeat apply Exists.intro);exact⟨⟨j1,T1,by have:=HJ.out;omega,rfl,rfl,by rw[HJ.out.1,HJ.out.2.1];exact stepM HJ.out.2.2.2.1 HJ.out.2.2.2.2,by first | rfl | trivial⟩,rfl⟩)
    case measure =>
     simp only[intOf]
     have:=HJ.out
     omega
   ·have q0:¬(j:Int)<(n:Int):=by omega
    have HT:Hid (T≤281474976710656):=by show _≤_;have:=HCM.out.2.1 j hj;omega
    clear hlt hj hT
    obtain⟨w0,rfl⟩:∃w0,w0=wr:=⟨_,rfl⟩
    go_upto_region 19 with fail
    obtain⟨w1,hw1⟩:∃w1,w1=w0.alloc (.cells #[.pointer none,.slice none 0 0] 73):=⟨_,rfl⟩
    obtain⟨b,hb⟩:∃b,b=w0.heap.size:=⟨_,rfl⟩
    have X1:Hid (w1.heap[b]?=some (.cells #[.pointer none,.slice none 0 0] 73 (0,0))∧Below w0.heap.size w0 w1∧b=w0.heap.size):=⟨by rw[hw1,hb];exact heap_alloc_new w0 _,by rw[hw1];exact bnew _ _,hb⟩
    rw[←hw1,←hb]
    clear hw1 hb
    have CG:Hid (Calls Tryz.prog 43 #[.pointer (some ⟨b,0,none⟩),.int .i64 (T:Int)] w1 fun e w'=>e=.returned (.tuple #[])∧Hid (Lib.BuilderAt 73 5 w0.heap.size b (.pointer (some ⟨b,0,none⟩)) [] w'∧Below w0.heap.size w1 w')):=Tryz.Builder_Grow_fresh w0.heap.size b T w1 (by rw[X1.out.2.2];exact Nat.le_refl _) X1.out.1 X1.out.2.1.size HT.out
    go_wp2_with fail
    refine(CG.out).mono ?_
    rintro e w2 ⟨rfl,G2⟩
    have B2:Hid (Below w0.heap.size w0 w2):=X1.out.2.1.trans G2.out.2
    have c0':w2.cell? ⟨g,o,none⟩=some (.string (Lx.bs x)):=(B2.out.cell (p:=⟨g,o,none⟩) (block_lt_of_cell c0)).trans c0
    have HC0:Hid (w0.cell? ⟨g,o,none⟩=some (.string (Lx.bs x))):=c0
    have CW:Hid (∀(l s:Bs) (w:World),Lib.BuilderAt 73 5 w0.heap.size b (.pointer (some ⟨b,0,none⟩)) (Lib.byteCells l) w→Below w0.heap.size w0 w→l.length+s.length≤140737488355328→Calls Tryz.prog 44 #[.pointer (some ⟨b,0,none⟩),.string (Lx.bs s)] w fun e w'=>(∃m:Int,e=.returned (.tuple #[.int .i64 m,.nilIface]))∧Hid (Lib.BuilderAt 73 5 w0.heap.size b (.pointer (some ⟨b,0,none⟩)) (Lib.byteCells (l++s)) w'∧Below w0.heap.size w0 w')):=fun l s w h1 h2 h3=>by
     refine(zdH w0.heap.size b l s w (.inr h1) h3 h2.size).mono ?_
     rintro e w' ⟨rfl,k1,k2⟩
     exact⟨⟨_,rfl⟩,k1,h2.trans k2⟩
    clear c0 CG
    have q10:(0:Int)<(n:Int):=by have:=HN.out;omega
    go_wp2_with fail
    refine(CW.out [] x w2 G2.out.1 B2.out (by have:=HR.out.2 x (by simp);have:=HCM.out.1;simp;omega)).mono ?_
    rintro e w3 ⟨⟨m3,rfl⟩,G3⟩
    clear c0'
    have q5:(1:Int)≤(n:Int):=by have:=HN.out;omega
    have q6:(n:Int)≤(c:Int):=by have:=HN.out;omega
    have q7:¬c=1:=HC1.out
    have q8:n - 1=n1:=by have:=HN.out;omega
    clear q0
    go_wp2
    clear q5 q6 q7 q8 q10
    go_loopw [10,65] (fun _ i w'=>∃j:Nat,j≤n1∧i=.int .i64 j∧Lib.BuilderAt 73 5 w0.heap.size b (.pointer (some ⟨b,0,none⟩)) (Lib.byteCells (sofar sep x (y :: r) j)) w'∧Below w0.heap.size w0 w') (fun _ i _=>n1 - (intOf i).toNat)
    case atStart=>exact⟨0,Nat.zero_le _,rfl,by have:=G3.out.1;simpa [sofar] using this,G3.out.2⟩
    case round =>
     clear G3 G2
     obtain⟨j,hj,rfl,hB,hbl⟩:=hrel
     have HB:Hid (Lib.BuilderAt 73 5 w0.heap.size b (.pointer (some ⟨b,0,none⟩)) (Lib.byteCells (sofar sep x (y :: r) j)) wr∧Below w0.heap.size w0 wr):=⟨hB,hbl⟩
     clear hB hbl
     have HLE:Hid (∀j,j≤n1→(sofar sep x (y :: r) j).length≤M+j*(M+10)):=fun j _=>sofar_leM (by have:=HSS.out;omega) (HR.out.2 x (by simp)) (fun z hz=>HR.out.2 z (by simp at hz ⊢;exact .inr hz)) j
     by_cases hlt:j<n1
     ·have q0:(j:Int)<(n1:Int):=by omega
      have q1:(0:Int)≤(j:Int):=by omega
      obtain⟨z,hz⟩:∃z,(y :: r)[j]?=some z:=⟨_,List.getElem?_eq_getElem (by have:=HN.out;omega)⟩
      obtain⟨g',o',e,cz⟩:=HR.out.1 (j+1) z (by simpa using hz)
      cases e
      have cz':wr.cell? ⟨g,o+1+j,none⟩=some (.string (Lx.bs z)):=by
       have:=(HB.out.2.cell (p:=⟨g,o+(j+1),none⟩) (block_lt_of_cell cz)).trans cz
       rwa [show o+(j+1)=o+1+j by omega] at this
      have hzl:=HR.out.2 z (by have:=List.mem_of_getElem? hz;simp at this ⊢;exact .inr this)
      obtain⟨j1,hj1⟩:∃j1,j1=j+1:=⟨_,rfl⟩
      have HJ:Hid (j1=j+1∧j<n1∧z.length≤M∧sofar sep x (y :: r) j1=sofar sep x (y :: r) j++(sep++z)):=⟨hj1,hlt,hzl,by rw[hj1];exact zcW hz⟩
      have HV:Hid (IntKind.i64.wrap ((j:Int)+1)=(j1:Int)∧wrap64 ((j:Int)+1)=(j1:Int)):=wrp (by omega) (by have:=HN.out;omega)
      have hl1:=HLE.out j hj
      have HL1:Hid ((sofar sep x (y :: r) j).length≤900000000):=Nat.le_trans hl1 (HCM.out.2.2 j (by have:=HN.out;omega))
      have CW1:Hid (Calls Tryz.prog 44 #[.pointer (some ⟨b,0,none⟩),.string ss] wr fun e w'=>(∃m:Int,e=.returned (.tuple #[.int .i64 m,.nilIface]))∧Hid (Lib.BuilderAt 73 5 w0.heap.size b (.pointer (some ⟨b,0,none⟩)) (Lib.byteCells (sofar sep x (y :: r) j++sep)) w'∧Below w0.heap.size w0 w')):=by
       have:=CW.out (sofar sep x (y :: r) j) sep wr HB.out.1 HB.out.2 (by have:=HL1.out;have:=HSS.out;omega)
       rw[←HSS.out.1] at this
       exact this
      have CW2:Hid (∀w',Lib.BuilderAt 73 5 w0.heap.size b (.pointer (some ⟨b,0,none⟩)) (Lib.byteCells (sofar sep x (y :: r) j++sep)) w'→Below w0.heap.size w0 w'→Calls Tryz.prog 44 #[.pointer (some ⟨b,0,none⟩),.string (Lx.bs z)] w' fun e w''=>(∃m:Int,e=.returned (.tuple #[.int .i64 m,.nilIface]))∧Hid (Lib.BuilderAt 73 5 w0.heap.size b (.pointer (some ⟨b,0,none⟩)) (Lib.byteCells (sofar sep x (y :: r) j1)) w''∧Below w0.heap.size w0 w'')):=fun w' h1 h2=>by
       have:=CW.out (sofar sep x (y :: r) j++sep) z w' h1 h2 (by have:=HL1.out;have:=HSS.out;have:=HJ.out.2.2.1;have:=HCM.out.1;simp;omega)
       rw[List.append_assoc,←HJ.out.2.2.2] at this
       exact this
      clear hz cz hzl hj1 hlt hj hl1 CW
      go_wp2_with fail
      refine(CW1.out).mono ?_
      rintro e w5 ⟨⟨m5,rfl⟩,G5⟩
      go_wp2_with fail
      refine(CW2.out w5 G5.out.1 G5.out.2).mono ?_
      rintro e w6 ⟨⟨m6,rfl⟩,G6⟩
      obtain⟨v1,v2⟩:=HV.out
      go_wp2
      clear v1 v2
      go_roundw
      case rel=>first | exact⟨j1,by have:=HJ.out;omega,rfl,G6.out.1,G6.out.2⟩ | ((repeat apply Exists.intro);exact⟨⟨j1,by have:=HJ.out;omega,rfl,G6.out.1,G6.out.2⟩,rfl⟩)
      case measure =>
       simp only[intOf]
       have:=HJ.out
       omega
     ·have q0:¬(j:Int)<(n1:Int):=by omega
      have hjn:j=n1:=by omega
      have CST:Hid (Calls Tryz.prog 45 #[.pointer (some ⟨b,0,none⟩)] wr fun e w'=>e=.returned (.string (Lx.bs (join sep (x :: y :: r))))∧Below w0.heap.size wr w'):=by
       have:=Tryz.Builder_String_any w0.heap.size b (sofar sep x (y :: r) j) wr (.inr HB.out.1) HB.out.2.size
       have e:sofar sep x (y :: r) j=join sep (x :: y :: r):=by
        rw[join_cons,sofar,List.take_of_length_le (by have:=HN.out;omega)]
       rw[e] at this
       exact this
      clear hlt hj hjn CW
      go_wp2_with fail
      refine(CST.out).mono ?_
      rintro e w5 ⟨rfl,hb5⟩
      have G5:Hid (Below w0.heap.size w0 w5):=HB.out.2.trans hb5
      clear hb5
      go_wp2
      go_ret
      exact⟨rfl,G5.out⟩
end Ps
end Go.Proofs.YtfhkaffakniioaaGreatDoor
