/- Several texts, joined. -/
import Derived.Test.YtfhkaffakniioaaGreatDoorQ78M
import Derived.Test.YtfhkaffakniioaaGreatDoorQ77M
set_option maxHeartbeats 8000000
set_option maxRecDepth 100000
namespace Go.Proofs.YtfhkaffakniioaaGreatDoor
open Go.RowKit
namespace Lx
def Dg (N u:Nat) (t:Bs):Prop:=(t=[]∧u=N)∨(t≠[]∧(u=0→Lib.decDigits N=t)∧(0<u→Lib.decDigits N=Lib.decDigits u++t))
theorem Dg.step {N u:Nat} {t:Bs} (h:Dg N u t) (hc:t=[]∨0<u):Dg N (u / 10) (UInt8.ofNat (48+u % 10) :: t):=by
 have e:∀v:Nat,Lib.decDigits v=if v<10 then [UInt8.ofNat (48+v)] else Lib.decDigits (v / 10)++[UInt8.ofNat (48+v % 10)]:=fun v=>by
  rw[Lib.decDigits];split<;>rfl
 have key:Lib.decDigits N=Lib.decDigits u++t:=by
  rcases h with ⟨rfl,rfl⟩ | ⟨h1,h2,h3⟩
  ·simp
  ·rcases hc with hc | hc
   ·exact absurd hc h1
   ·exact h3 hc
 refine Or.inr ⟨by simp,fun h0=>?_,fun h0=>?_⟩
 ·rw[key,e u,if_pos (by omega),show u % 10=u by omega];rfl
 ·rw[key,e u,if_neg (by omega),List.append_assoc];rfl
theorem Dg.len {N u:Nat} {t:Bs} (h:Dg N u t) (hc:t=[]∨0<u) (hN:N≤9223372036854775807):t.length≤21:=by
 have h1:=Lib.itoa_length_le (N:Int) (by omega) (by omega)
 rw[Lib.itoa_nonneg] at h1
 rcases h with ⟨rfl,_⟩ | ⟨h2,_,h3⟩
 ·simp
 ·rcases hc with hc | hc
  ·exact absurd hc h2
  ·rw[h3 hc,List.length_append] at h1;omega
theorem dbl_app:∀(a b:Bs),dbl (a++b)=dbl a++dbl b
 | [],b=>rfl
 | c :: a,b=>by
  rw[List.cons_append,dbl,dbl,dbl_app a b]
  split<;>rfl
theorem dbl_at (l:Bs) (k:Nat) (c:UInt8) (h:l[k]?=some c):dbl (l.take (k+1))=dbl (l.take k)++(if c=39 then [39,39] else [c]):=by
 rw[List.take_add_one,h]
 show dbl (l.take k++[c])=_
 rw[dbl_app]
 rw[dbl]
 split<;>rfl
theorem digit_piece:∀d:Fin 10,(ByteArray.mk #[48,49,50,51,52,53,54,55,56,57]).extract d.val (d.val+1)=bs [UInt8.ofNat (48+d.val)]:=by decide +kernel
end Lx
theorem rnumber2_c (N:Nat) (hN:N≤9223372036854775807) (w:World):Calls Tryz.prog 53 #[.int .i64 (N:Int)] w fun e w'=>e=.returned (.string (Lx.bs (Lib.decDigits N)))∧w'=w:=by
 go_enter Tryz.func53,Tryz.ntmps53
 go_wp2
 go_loopw [0,3] (fun a o wr=>∃(u:Nat) (t:Lx.Bs),a=.int .i64 (u:Int)∧o=.string (Lx.bs t)∧u≤9223372036854775807∧Lx.Dg N u t∧wr=w) (fun a o _=>(intOf a).toNat+(match o with
  | .string b=>if b.size=0 then 1 else 0
  | _=>0))
 case atStart=>exact⟨N,[],rfl,rfl,hN,Or.inl ⟨rfl,rfl⟩,rfl⟩
 case round =>
  obtain⟨u,t,rfl,rfl,hu,hD,hwr⟩:=hrel
  subst hwr
  have HD:Hid (Lx.Dg N u t):=hD
  clear hD
  obtain⟨tb,htb⟩:∃tb,tb=Lx.bs t:=⟨_,rfl⟩
  have HTB:Hid (tb=Lx.bs t):=htb
  have htl:tb.toList=t:=by rw[htb,Lx.bs_toList]
  rw[←htb]
  clear htb
  by_cases hc:t=[]∨0<u
  ·have HL:Hid (t.length≤21):=HD.out.len hc hN
   have HS:Hid (Lx.Dg N (u / 10) (UInt8.ofNat (48+u % 10) :: t)):=HD.out.step hc
   obtain⟨d,hd⟩:∃d,d=u % 10:=⟨_,rfl⟩
   obtain⟨v,hv⟩:∃v,v=u / 10:=⟨_,rfl⟩
   have hd10:d<10:=by omega
   have e1:(u:Int) % 10=(d:Int):=by omega
   have e2:(u:Int) / 10=(v:Int):=by omega
   rw[←hd,←hv] at HS
   obtain⟨tc,htc⟩:∃tc,tc=Lx.bs [UInt8.ofNat (48+d)]:=⟨_,rfl⟩
   have hsl:∀wx,(Instr.slice 9 (.string { data:=#[48,49,50,51,52,53,54,55,56,57] }) (some (.int .i64 (d:Int))) (some (.int .i64 ((d:Int)+1))) none).run Tryz.prog wx=.ok (.string tc) wx:=fun wx=>by
    have h:=run_slice_string (P:=Tryz.prog) wx 9 { data:=#[48,49,50,51,52,53,54,55,56,57] } .i64 .i64 (d:Int) ((d:Int)+1) Tryz.underlying9 (by omega) (by omega) (by show(d:Int)+1≤10;omega)
    rw[Int.toNat_natCast,show((d:Int)+1).toNat=d+1 by omega,Lx.digit_piece ⟨d,hd10⟩,←htc] at h
    exact h
   have HCAT:Hid (tc++tb=Lx.bs (UInt8.ofNat (48+d) :: t)):=by
    show _=_
    rw[htc,HTB.out]
    apply ByteArray.ext
    simp[Lx.bs,ByteArray.data_append]
   have hfit:tc.size+tb.size≤9223372036854775807:=by have:=HL.out;rw[htc,HTB.out,Lx.bs_size,Lx.bs_size];simp;omega
   have HM:Hid (((v:Int).toNat+if (tc++tb).size=0 then 1 else 0)<((u:Int).toNat+if tb.size=0 then 1 else 0)):=by
    show _<_
    rw[HCAT.out,Lx.bs_size,if_neg (by simp),HTB.out,Lx.bs_size]
    rcases hc with hc | hc
    ·rw[hc];simp;omega
    ·split<;>omega
   have hv2:v≤9223372036854775807:=by omega
   clear htc hd hv
   by_cases ht:t=[]
   ·have q1:(tb.toList==[])=true:=by rw[htl,ht];rfl
    clear ht hc htl
    go_wp2
    exact⟨⟨v,_,rfl,by rw[HCAT.out],hv2,HS.out,trivial⟩,HM.out⟩
   ·have q1:(tb.toList==[])=false:=by rw[htl];simpa using ht
    have q2:(0:Int)<(u:Int):=by
     rcases hc with hc | hc
     ·exact absurd hc ht
     ·omega
    clear ht hc htl
    go_wp2
    exact⟨⟨v,_,rfl,by rw[HCAT.out],hv2,HS.out,trivial⟩,HM.out⟩
  ·have ht:t≠[]:=fun e=>hc (Or.inl e)
   have q1:(tb.toList==[])=false:=by rw[htl];simpa using ht
   have q2:¬(0:Int)<(u:Int):=by
    intro h
    exact hc (Or.inr (by omega))
   have HF:Hid (Lib.decDigits N=t):=by
    rcases HD.out with ⟨h1,_⟩ | ⟨_,h1,_⟩
    ·exact absurd h1 ht
    ·exact h1 (by omega)
   clear ht hc htl
   go_wp2
   go_ret
   exact⟨by rw[HF.out,←HTB.out];rfl,rfl⟩
theorem rquoted_c (l:Lx.Bs) (hl:l.length≤1048576) (w:World):Calls Tryz.prog 54 #[.string (Lx.bs l)] w fun e w'=>e=.returned (.string (Lx.bs ([39]++Lx.dbl l++[39])))∧Below w.heap.size w w':=by
 obtain⟨s,hs⟩:∃s,s=Lx.bs l:=⟨_,rfl⟩
 obtain⟨n,hn⟩:∃n:Int,n=(l.length:Int):=⟨_,rfl⟩
 have hsz:(s.size:Int)=n:=by rw[hs,Lx.bs_size,hn]
 have HNL:Hid (n=(l.length:Int)):=hn
 have HIX:Hid (∀(k:Nat) (b:UInt8),l[k]?=some b→∀wx,(Instr.index 9 (.string s) (.int .i64 (k:Int))).run Tryz.prog wx=.ok (.int .u8 (b.toNat:Int)) wx):=fun k b hb wx=>by rw[hs];exact Lx.index_at l (k:Int) k b rfl hb wx
 obtain⟨R,hR⟩:∃R,R=Lx.bs ([39]++Lx.dbl l++[39]):=⟨_,rfl⟩
 have HRR:Hid (R=Lx.bs ([39]++Lx.dbl l++[39])):=hR
 rw[←hs,←hR]
 clear hs hn hR
 obtain⟨i0,hi,hz0,hz1,hz2⟩:=Go.info_parts zdQ
 go_enter Tryz.func54,Tryz.ntmps54
 go_wp2
 go_loopw [3,4] (fun o i wr=>∃(k:Nat) (lv:Value),lv=o∧i=.int .i64 (k:Int)∧k≤l.length∧BO w wr (Lx.dbl (l.take k)) lv) (fun _ i _=>l.length - (intOf i).toNat)
 case atStart=>exact⟨0,_,rfl,rfl,Nat.zero_le _,Below.refl _ _,World.ownsRow_nil _ _ _ _⟩
 case round =>
  obtain⟨k,lv,hlv,rfl,hk,hB⟩:=hrel
  subst hlv
  obtain⟨out,ho⟩:∃out,out=Lx.dbl (l.take k):=⟨_,rfl⟩
  have hol:out.length≤2097152:=by
   have h1:=Lx.dbl_len (l.take k)
   rw[List.length_take] at h1
   rw[ho]
   omega
  rw[←ho] at hB
  have HO:Hid (out=Lx.dbl (l.take k)):=ho
  have B:Hid (BO w wr out lv):=hB
  clear hB ho
  by_cases hlt:k<l.length
  ·have q0:(k:Int)<n:=by rw[HNL.out];omega
   have a1:wrap64 ((k:Int)+1)=((k+1:Nat):Int):=by unfold wrap64;omega
   obtain⟨c,hc⟩:∃c,l[k]?=some c:=⟨_,List.getElem?_eq_getElem hlt⟩
   have hix:=HIX.out k c hc
   have HC:Hid (Lx.dbl (l.take (k+1))=out++(if c=39 then [39,39] else [c])):=by show _=_;rw[HO.out];exact Lx.dbl_at l k c hc
   clear hc
   by_cases h39:c=39
   ·have q1:((c.toNat:Int)==39)=true:=by rw[h39];rfl
    have HC2:Hid (Lx.dbl (l.take (k+1))=out++[39]++[c]):=by show _=_;rw[HC.out,if_pos h39,h39];simp
    clear h39 HC
    obtain⟨ma,hma⟩:∃m,m=(out).length:=⟨_,rfl⟩
    have HOWNma:Hid (wr.ownsRow w.heap.size 5 1 lv ma (Lib.byteCells (out))):=by rw[hma];exact B.out.row
    have fit63ma:Hid (ma+1≤maxLen):=by show _≤_;unfold maxLen;rw[hma];simp;omega
    have fit47ma:Hid ((ma+1)*1≤140737488355328):=by show _≤_;rw[hma];simp;omega
    have HSZma:Hid (∀o,w.heap.size≤(wr.alloc o).heap.size):=fun o=>by have:=B.out.below.size;simp;omega
    have HNXma:Hid (∀(b:UInt8) gg cap w5 o,(wr.alloc o).grownBy w5 (lv).ownBlock→w5.ownsRow w.heap.size 5 1 (.slice (some ⟨gg,0,none⟩) (ma+1) cap) (ma+1) (Lib.byteCells (out)++[.int .u8 (b.toNat:Int)])→BO w w5 (out++[b]) (.slice (some ⟨gg,0,none⟩) (ma+1) cap)):=by
     intro b gg cap w5 o hgr hno
     rw[hma] at hno ⊢
     exact B.out.next hgr hno
    clear hma
    go_upto_region 7 with (first | (at_builtin;refine wpList_append_lies _ rfl _ _ 71 rfl w.heap.size 5 i0 _ 1 1 Tryz.underlying71 hi hz0 hz1 hz2 rfl (by decide) _ _ _ rfl (HOWNma.out.alloc _) ⟨wr.heap.size,0,none⟩ 1 1 [.int .u8 39] rfl rfl (World.news_of_block (heap_alloc_new wr _)) (by intro u hu;simp at hu;subst hu;rfl) (by decide) fit63ma.out fit47ma.out (HSZma.out _) _ rfl ?_;intro xg xc xw hown5 hgrow hat hglt;have Sx:Hid (BO w xw (out++[39]) (.slice (some ⟨xg,0,none⟩) (ma+1) xc)):=HNXma.out 39 xg xc xw _ hgrow hown5;clear hown5 hgrow hat hglt))
    obtain⟨mb,hmb⟩:∃m,m=(out++[39]).length:=⟨_,rfl⟩
    have HOWNmb:Hid (xw.ownsRow w.heap.size 5 1 (.slice (some ⟨xg,0,none⟩) (ma+1) xc) mb (Lib.byteCells (out++[39]))):=by rw[hmb];exact Sx.out.row
    have fit63mb:Hid (mb+1≤maxLen):=by show _≤_;unfold maxLen;rw[hmb];simp;omega
    have fit47mb:Hid ((mb+1)*1≤140737488355328):=by show _≤_;rw[hmb];simp;omega
    have HSZmb:Hid (∀o,w.heap.size≤(xw.alloc o).heap.size):=fun o=>by have:=Sx.out.below.size;simp;omega
    have HNXmb:Hid (∀(b:UInt8) gg cap w5 o,(xw.alloc o).grownBy w5 (Value.slice (some ⟨xg,0,none⟩) (ma+1) xc).ownBlock→w5.ownsRow w.heap.size 5 1 (.slice (some ⟨gg,0,none⟩) (mb+1) cap) (mb+1) (Lib.byteCells (out++[39])++[.int .u8 (b.toNat:Int)])→BO w w5 (out++[39]++[b]) (.slice (some ⟨gg,0,none⟩) (mb+1) cap)):=by
     intro b gg cap w5 o hgr hno
     rw[hmb] at hno ⊢
     exact Sx.out.next hgr hno
    clear hmb
    go_upto_region 4 with (first | (at_builtin;refine wpList_append_lies _ rfl _ _ 71 rfl w.heap.size 5 i0 _ 1 1 Tryz.underlying71 hi hz0 hz1 hz2 rfl (by decide) _ _ _ rfl (HOWNmb.out.alloc _) ⟨xw.heap.size,0,none⟩ 1 1 [.int .u8 (c.toNat:Int)] rfl rfl (World.news_of_block (heap_alloc_new xw _)) (by intro u hu;simp at hu;subst hu;rfl) (by decide) fit63mb.out fit47mb.out (HSZmb.out _) _ rfl ?_;intro yg yc yw hown5 hgrow hat hglt;have Sy:Hid (BO w yw (out++[39]++[c]) (.slice (some ⟨yg,0,none⟩) (mb+1) yc)):=HNXmb.out c yg yc yw _ hgrow hown5;clear hown5 hgrow hat hglt))
    go_wp2
    go_roundw
    case rel=>exact⟨k+1,_,rfl,by go_num,by omega,by rw[HC2.out];exact Sy.out⟩
    case measure=>simp[intOf];omega
   ·have q1:((c.toNat:Int)==39)=false:=by
     rw[beq_eq_false_iff_ne]
     intro e
     exact h39 (by rw[←UInt8.toNat_inj];show c.toNat=39;omega)
    have HC2:Hid (Lx.dbl (l.take (k+1))=out++[c]):=by show _=_;rw[HC.out,if_neg h39]
    clear h39 HC
    obtain⟨ma,hma⟩:∃m,m=(out).length:=⟨_,rfl⟩
    have HOWNma:Hid (wr.ownsRow w.heap.size 5 1 lv ma (Lib.byteCells (out))):=by rw[hma];exact B.out.row
    have fit63ma:Hid (ma+1≤maxLen):=by show _≤_;unfold maxLen;rw[hma];simp;omega
    have fit47ma:Hid ((ma+1)*1≤140737488355328):=by show _≤_;rw[hma];simp;omega
    have HSZma:Hid (∀o,w.heap.size≤(wr.alloc o).heap.size):=fun o=>by have:=B.out.below.size;simp;omega
    have HNXma:Hid (∀(b:UInt8) gg cap w5 o,(wr.alloc o).grownBy w5 (lv).ownBlock→w5.ownsRow w.heap.size 5 1 (.slice (some ⟨gg,0,none⟩) (ma+1) cap) (ma+1) (Lib.byteCells (out)++[.int .u8 (b.toNat:Int)])→BO w w5 (out++[b]) (.slice (some ⟨gg,0,none⟩) (ma+1) cap)):=by
     intro b gg cap w5 o hgr hno
     rw[hma] at hno ⊢
     exact B.out.next hgr hno
    clear hma
    go_upto_region 4 with (first | (at_builtin;refine wpList_append_lies _ rfl _ _ 71 rfl w.heap.size 5 i0 _ 1 1 Tryz.underlying71 hi hz0 hz1 hz2 rfl (by decide) _ _ _ rfl (HOWNma.out.alloc _) ⟨wr.heap.size,0,none⟩ 1 1 [.int .u8 (c.toNat:Int)] rfl rfl (World.news_of_block (heap_alloc_new wr _)) (by intro u hu;simp at hu;subst hu;rfl) (by decide) fit63ma.out fit47ma.out (HSZma.out _) _ rfl ?_;intro yg yc yw hown5 hgrow hat hglt;have Sy:Hid (BO w yw (out++[c]) (.slice (some ⟨yg,0,none⟩) (ma+1) yc)):=HNXma.out c yg yc yw _ hgrow hown5;clear hown5 hgrow hat hglt))
    go_wp2
    go_roundw
    case rel=>exact⟨k+1,_,rfl,by go_num,by omega,by rw[HC2.out];exact Sy.out⟩
    case measure=>simp[intOf];omega
  ·have q0:¬(k:Int)<n:=by rw[HNL.out];omega
   have HF:Hid (out=Lx.dbl l):=by show _=_;rw[HO.out,List.take_of_length_le (by omega)]
   have htx:=B.out.text
   have HB:=B.out.below
   obtain⟨tb,htb⟩:∃tb,tb=Lx.bs out:=⟨_,rfl⟩
   rw[←htb] at htx
   have hfit:tb.size≤2097152:=by rw[htb,Lx.bs_size];exact hol
   have HCAT:Hid (({ data:=#[39] }++tb:ByteArray)++{ data:=#[39] }=Lx.bs ([39]++Lx.dbl l++[39])):=by
    show _=_
    rw[htb,HF.out]
    apply ByteArray.ext
    simp[Lx.bs,ByteArray.data_append]
   clear htb
   go_wp2
   go_ret
   exact⟨by rw[HRR.out,←HCAT.out];rfl,HB⟩
end Go.Proofs.YtfhkaffakniioaaGreatDoor
namespace Go.Proofs.YtfhkaffakniioaaGreatDoor
open Go.RowKit
namespace Lx
theorem frst_text (x:UInt8) (r:Bs):(frst (x :: r)).text.length≤1024:=by
 rw[frst]
 by_cases h1:isL x.toNat=true
 ·rw[if_pos h1,word]
  by_cases h2:isKey ((x :: r).take (wsz (x :: r)))=true
  ·rw[if_pos h2]
   show(great _).length≤_
   rw[great,List.length_map]
   rw[isKey,Bool.and_eq_true,decide_eq_true_iff] at h2
   exact Nat.le_trans h2.1 (by decide)
  ·rw[if_neg h2]
   by_cases h3:64<wsz (x :: r)
   ·rw[if_pos h3];exact Nat.zero_le _
   ·rw[if_neg h3]
    show(List.take _ _).length≤_
    rw[List.length_take]
    omega
 ·rw[if_neg h1]
  by_cases h2:isD x.toNat=true
  ·rw[if_pos h2,numb]
   split<;>exact Nat.zero_le _
  ·rw[if_neg h2]
   by_cases h3:x=39
   ·rw[if_pos h3,text]
    split
    ·rw[tok]
     split
     ·exact Nat.zero_le _
     ·rename_i h4
      split
      ·exact Nat.zero_le _
      ·exact Nat.not_lt.1 h4
    ·exact Nat.zero_le _
   ·rw[if_neg h3]
    split
    ·show(List.take _ _).length≤_
     rw[List.length_take,sgn]
     split
     ·omega
     ·split<;>omega
    ·exact Nat.zero_le _
theorem lx_texts:∀(n:Nat) (l:Bs) (a:Nat) (t:Tk),t∈(lx n l a).toks→t.text.length≤1024
 | 0,l,a,t,h=>by cases h
 | n+1,l,a,t,h=>by
  rw[lx] at h
  split at h
  ·cases h
  ·rename_i x r _
   split at h
   ·cases h
   ·rw[join] at h
    split at h
    ·cases h
    ·simp only[List.cons_append,List.nil_append,List.mem_cons] at h
     rcases h with rfl | h
     ·exact frst_text x r
     ·exact lx_texts n _ _ t h
theorem lex_texts {l:Bs} {t:Tk} (h:t∈(lex l).toks):t.text.length≤1024:=by
 rw[lex] at h
 split at h
 ·cases h
 ·exact lx_texts _ _ _ t h
theorem lex_minus (r:Bs) (t:Bs) (n:Int):lex (45 :: r)≠⟨[⟨3,t,n,0⟩],0,0⟩:=by
 intro h
 rw[lex] at h
 split at h
 ·cases h
 ·rw[lx] at h
  have hb:bl (45 :: r)=0:=by rw[bl,if_neg (by decide)]
  rw[hb,List.drop_zero] at h
  simp only at h
  have hf:frst (45 :: r)=sign (45 :: r):=by
   have hs:sgn (45 :: r)=1:=by
    rw[sgn]
    have h1:∀a b:UInt8,a≠45→pre2 a b (45 :: r)=false:=fun a b hab=>by
     cases r with
     | nil=>rfl
     | cons y r=>rw[pre2];simp;intro e;exact absurd e.symm hab
    rw[h1 60 62 (by decide),h1 60 61 (by decide),h1 62 61 (by decide)]
    rfl
   rw[frst,if_neg (by decide),if_neg (by decide),if_neg (by decide),if_pos (by rw[hs];decide)]
  rw[hf] at h
  split at h
  ·cases h
  ·rw[join] at h
   split at h
   ·cases h
   ·simp only[Out.mk.injEq,List.cons_append,List.nil_append,List.cons.injEq] at h
    have:=congrArg Tk.kind h.1.1
    cases this
theorem shw_of (k:Nat) (t:Bs) (n:Int):shw k t n=if lex (wr k t n)=⟨[⟨k,t,n,0⟩],0,0⟩ then some (wr k t n) else none:=by
 rw[shw]
 by_cases h:1024<t.length
 ·rw[if_pos h,if_neg]
  intro e
  have:=lex_texts (l:=wr k t n) (t:=⟨k,t,n,0⟩) (by rw[e];simp)
  simp at this
  omega
 ·rw[if_neg h]
theorem shw_minus (t:Bs) (n:Int) (hn:n<0):shw 3 t n=none:=by
 rw[shw_of,if_neg]
 have e:wr 3 t n=45 :: Lib.decDigits n.natAbs:=by rw[wr,if_pos rfl,Lib.itoa,if_pos hn]
 rw[e]
 exact lex_minus _ _ _
end Lx
theorem rshow_c (k:Nat) (t:Lx.Bs) (n a:Int) (ht:t.length≤1048576) (hn:-9223372036854775808≤n∧n≤9223372036854775807) (w:World):Calls Tryz.prog 65 #[.agg #[.int .u8 (k:Int),.string (Lx.bs t),.int .i64 n,.int .i64 a]] w fun e w'=>e=Lx.shown (Lx.shw k t n)∧Below w.heap.size w w':=by
 obtain⟨w1,hw1⟩:∃w1,w1=w.alloc (.cells #[.int .u8 (k:Int),.string (Lx.bs t),.int .i64 n,.int .i64 a] 92):=⟨_,rfl⟩
 have hb1:Below w.heap.size w w1:=by rw[hw1];exact(Below.refl _ _).alloc (Nat.le_refl _) _
 have X1:Hid (TB w1 w.heap.size k t n a∧Below w.heap.size w w1):=⟨by rw[hw1];exact heap_alloc_new w _,hb1⟩
 obtain⟨tb,htb⟩:∃tb,tb=Lx.bs t:=⟨_,rfl⟩
 have HTB:Hid (tb=Lx.bs t):=htb
 obtain⟨s,hs⟩:∃s,s=Lx.wr k t n:=⟨_,rfl⟩
 obtain⟨sb,hsb⟩:∃sb,sb=Lx.bs s:=⟨_,rfl⟩
 have HSB:Hid (sb=Lx.bs s∧s=Lx.wr k t n):=⟨hsb,hs⟩
 have CX:Hid (∀W,Calls Tryz.prog 89 #[.string sb] W (Lx.LexGave (Lx.lex s) W)):=fun W=>by rw[hsb];exact rlex_c s W
 have HR:Hid (Lx.shw k t n=if Lx.lex s=⟨[⟨k,t,n,0⟩],0,0⟩ then some s else none):=by show _=_;rw[Lx.shw_of,hs]
 obtain⟨p0,p1,p2,p3⟩:=X1.out.1.cells
 rw[←htb] at p1 hw1 ⊢
 clear htb hb1 hs hsb
 by_cases h3:k=3
 ·have q3:((k:Int)==3)=true:=by rw[h3];rfl
  by_cases h0:n<0
  ·have HF:Hid (Lx.shw k t n=none):=by show _=_;rw[h3];exact Lx.shw_minus t n h0
   have HB:=X1.out.2
   clear h3
   go_enter Tryz.func65,Tryz.ntmps65
   go_upto_region 1 with fail
   rw[←hw1]
   clear hw1
   go_wp2
   refine bodyPost_ret (zaD rfl _ _) rfl ?_
   rw[HF.out]
   exact⟨rfl,HB⟩
  ·obtain⟨N,hN⟩:∃N:Nat,n=(N:Int):=⟨n.toNat,by omega⟩
   have C1:Hid (∀W:World,Calls Tryz.prog 53 #[.int .i64 n] W fun e w'=>e=.returned (.string sb)∧Below W.heap.size W w'):=fun W=>by
    have e:sb=Lx.bs (Lib.decDigits N):=by rw[HSB.out.1,HSB.out.2,Lx.wr,if_pos h3,hN,Lib.itoa_nonneg]
    rw[e,hN]
    refine Calls.mono (rnumber2_c N (by omega) W) ?_
    rintro e w' ⟨rfl,rfl⟩
    exact⟨rfl,Below.refl _ _⟩
   clear h3 hN
   go_enter Tryz.func65,Tryz.ntmps65
   go_upto_region 1 with fail
   rw[←hw1]
   clear hw1
   go_wp2_with fail
   refine Calls.mono (C1.out _) ?_
   rintro e w2 ⟨rfl,hb2⟩
   have X2:Hid (TB w2 w.heap.size k t n a∧Below w.heap.size w w2):=⟨X1.out.1.call hb2,X1.out.2.trans (hb2.mono X1.out.2.size)⟩
   clear hb2 X1 C1 p0 p1 p2 p3
   go_wp2_with fail
   refine Calls.mono (CX.out _) ?_
   rintro e w4 ⟨hb4,lv,rfl,hrow⟩
   have X4:Hid (TB w4 w.heap.size k t n a∧Below w.heap.size w w4):=⟨X2.out.1.call hb4,X2.out.2.trans (hb4.mono X2.out.2.size)⟩
   clear hb4 X2 CX
   obtain⟨o,ho⟩:∃o,o=Lx.lex s:=⟨_,rfl⟩
   rw[←ho] at hrow HR
   rw[←ho]
   have hps:o.err=0→o.pos=0:=fun h=>by rw[ho] at h ⊢;exact Lx.lex_pos h
   clear ho
   obtain⟨toks,er,ps⟩:=o
   have HPS:Hid (er=0→ps=0):=hps
   clear hps
   obtain⟨la,lc,rfl⟩:=zdL hrow
   obtain⟨ln,hln⟩:∃ln,ln=toks.length:=⟨_,rfl⟩
   obtain⟨BB,hBB⟩:∃BB:Nat,w4.ownsRow BB 92 4 (.slice la ln lc) ln (Lx.tcs toks):=⟨_,by rw[hln];exact hrow⟩
   have HROW:Hid (w4.ownsRow BB 92 4 (.slice la ln lc) ln (Lx.tcs toks)):=hBB
   have HLN:Hid (ln=toks.length):=hln
   rw[←hln]
   clear hrow hln hBB
   go_upto_region 10 with fail
   by_cases he:er=0
   ·subst he
    by_cases h1:ln=1
    ·subst h1
     obtain⟨⟨k2,t2,n2,a2⟩,rfl⟩:∃x,toks=[x]:=by
      match toks,HLN.out with
      | [x],_=>exact⟨x,rfl⟩
     obtain⟨g,cap,e1,hg,hc⟩:=zcF (by omega) HROW.out
     cases e1
     have c0:∀p:BelowOf w4.heap.size w4,p.W.cell? ⟨g,0,none⟩=some (.int .u8 (k2:Int)):=fun p=>(p.h.cell (p:=⟨g,0,none⟩) hg).trans (hc 0 _ rfl)
     have c1:∀p:BelowOf w4.heap.size w4,p.W.cell? ⟨g,1,none⟩=some (.string (Lx.bs t2)):=fun p=>(p.h.cell (p:=⟨g,1,none⟩) hg).trans (hc 1 _ rfl)
     have c2:∀p:BelowOf w4.heap.size w4,p.W.cell? ⟨g,2,none⟩=some (.int .i64 n2):=fun p=>(p.h.cell (p:=⟨g,2,none⟩) hg).trans (hc 2 _ rfl)
     have c3:∀p:BelowOf w4.heap.size w4,p.W.cell? ⟨g,3,none⟩=some (.int .i64 (a2:Int)):=fun p=>(p.h.cell (p:=⟨g,3,none⟩) hg).trans (hc 3 _ rfl)
     have d0:∀p:BelowOf w4.heap.size w4,p.W.cell? ⟨w.heap.size,0,none⟩=some (.int .u8 (k:Int)):=fun p=>(X4.out.1.call p.h).cells.1
     have d1:∀p:BelowOf w4.heap.size w4,p.W.cell? ⟨w.heap.size,1,none⟩=some (.string tb):=fun p=>by rw[HTB.out];exact(X4.out.1.call p.h).cells.2.1
     have d2:∀p:BelowOf w4.heap.size w4,p.W.cell? ⟨w.heap.size,2,none⟩=some (.int .i64 n):=fun p=>(X4.out.1.call p.h).cells.2.2.1
     clear hc hg
     obtain⟨tb2,htb2⟩:∃tb2,tb2=Lx.bs t2:=⟨_,rfl⟩
     rw[←htb2] at c1
     have HB2:Hid (tb2.toList=t2∧tb.toList=t):=⟨by rw[htb2,Lx.bs_toList],by rw[HTB.out,Lx.bs_toList]⟩
     clear htb2
     by_cases hk:k2=k
     ·have qk:((k2:Int) != (k:Int))=false:=by rw[hk];simp
      by_cases htt:t2=t
      ·have qt:(tb2.toList != tb.toList)=false:=by rw[HB2.out.1,HB2.out.2,htt];simp
       have qt2:(tb2.toList==tb.toList)=true:=by rw[HB2.out.1,HB2.out.2,htt];simp
       by_cases hnn:n2=n
       ·have qn:(n2 != n)=false:=by rw[hnn];simp
        by_cases haa:a2=0
        ·have qa:((a2:Int) != 0)=false:=by rw[haa];rfl
         have HY:Hid ((⟨[⟨k2,t2,n2,a2⟩],0,ps⟩:Lx.Out)=⟨[⟨k,t,n,0⟩],0,0⟩):=by
          have hps:=HPS.out rfl
          show _=_
          rw[hk,htt,hnn,haa,hps]
         clear hk htt hnn haa
         refine zaC w4.heap.size w4 (Below.refl _ _) (by kernel_rfl) (by kernel_rfl) ?_
         repeat (go_big_quiet_step (fail))
         refine wpQuiet_nil ?_
         intro _ hw'
         obtain⟨pq,hw''⟩:=hw'
         subst hw''
         have HF:=X4.out.2.trans (pq.h.mono X4.out.2.size)
         go_wp2
         refine bodyPost_ret (zaD rfl _ _) rfl ?_
         rw[HR.out,if_pos HY.out]
         exact⟨by simp only[Lx.shown,←HSB.out.1];rfl,HF⟩
        ·have qa:((a2:Int) != 0)=true:=by simp;omega
         have HNE:Hid (¬(⟨[⟨k2,t2,n2,a2⟩],0,ps⟩:Lx.Out)=⟨[⟨k,t,n,0⟩],0,0⟩):=fun e=>by cases e;exact haa rfl
         clear haa
         refine zaC w4.heap.size w4 (Below.refl _ _) (by kernel_rfl) (by kernel_rfl) ?_
         repeat (go_big_quiet_step (fail))
         refine wpQuiet_nil ?_
         intro _ hw'
         obtain⟨pq,hw''⟩:=hw'
         subst hw''
         have HF:=X4.out.2.trans (pq.h.mono X4.out.2.size)
         go_wp2
         refine bodyPost_ret (zaD rfl _ _) rfl ?_
         rw[HR.out,if_neg HNE.out]
         exact⟨rfl,HF⟩
       ·have qn:(n2 != n)=true:=by simpa using hnn
        have HNE:Hid (¬(⟨[⟨k2,t2,n2,a2⟩],0,ps⟩:Lx.Out)=⟨[⟨k,t,n,0⟩],0,0⟩):=fun e=>by cases e;exact hnn rfl
        clear hnn
        refine zaC w4.heap.size w4 (Below.refl _ _) (by kernel_rfl) (by kernel_rfl) ?_
        repeat (go_big_quiet_step (fail))
        refine wpQuiet_nil ?_
        intro _ hw'
        obtain⟨pq,hw''⟩:=hw'
        subst hw''
        have HF:=X4.out.2.trans (pq.h.mono X4.out.2.size)
        go_wp2
        refine bodyPost_ret (zaD rfl _ _) rfl ?_
        rw[HR.out,if_neg HNE.out]
        exact⟨rfl,HF⟩
      ·have qt:(tb2.toList != tb.toList)=true:=by rw[HB2.out.1,HB2.out.2];simpa using htt
       have qt2:(tb2.toList==tb.toList)=false:=by rw[HB2.out.1,HB2.out.2];simpa using htt
       have HNE:Hid (¬(⟨[⟨k2,t2,n2,a2⟩],0,ps⟩:Lx.Out)=⟨[⟨k,t,n,0⟩],0,0⟩):=fun e=>by cases e;exact htt rfl
       clear htt
       refine zaC w4.heap.size w4 (Below.refl _ _) (by kernel_rfl) (by kernel_rfl) ?_
       repeat (go_big_quiet_step (fail))
       refine wpQuiet_nil ?_
       intro _ hw'
       obtain⟨pq,hw''⟩:=hw'
       subst hw''
       have HF:=X4.out.2.trans (pq.h.mono X4.out.2.size)
       go_wp2
       refine bodyPost_ret (zaD rfl _ _) rfl ?_
       rw[HR.out,if_neg HNE.out]
       exact⟨rfl,HF⟩
     ·have qk:((k2:Int) != (k:Int))=true:=by simp;omega
      have HNE:Hid (¬(⟨[⟨k2,t2,n2,a2⟩],0,ps⟩:Lx.Out)=⟨[⟨k,t,n,0⟩],0,0⟩):=fun e=>by cases e;exact hk rfl
      clear hk
      refine zaC w4.heap.size w4 (Below.refl _ _) (by kernel_rfl) (by kernel_rfl) ?_
      repeat (go_big_quiet_step (fail))
      refine wpQuiet_nil ?_
      intro _ hw'
      obtain⟨pq,hw''⟩:=hw'
      subst hw''
      have HF:=X4.out.2.trans (pq.h.mono X4.out.2.size)
      go_wp2
      refine bodyPost_ret (zaD rfl _ _) rfl ?_
      rw[HR.out,if_neg HNE.out]
      exact⟨rfl,HF⟩
    ·have q1:((ln:Int)==1)=false:=by rw[beq_eq_false_iff_ne];omega
     have q2:((ln:Int) != 1)=true:=by rw[bne,q1];rfl
     have HNE:Hid (¬(⟨toks,0,ps⟩:Lx.Out)=⟨[⟨k,t,n,0⟩],0,0⟩):=fun e=>by
      cases e
      exact h1 HLN.out
     clear h1
     refine zaC w4.heap.size w4 (Below.refl _ _) (by kernel_rfl) (by kernel_rfl) ?_
     repeat (go_big_quiet_step (fail))
     refine wpQuiet_nil ?_
     intro _ hw'
     obtain⟨pq,hw''⟩:=hw'
     subst hw''
     have HF:=X4.out.2.trans (pq.h.mono X4.out.2.size)
     go_wp2
     refine bodyPost_ret (zaD rfl _ _) rfl ?_
     rw[HR.out,if_neg HNE.out]
     exact⟨rfl,HF⟩
   ·have q1:((er:Int)==0)=false:=by rw[beq_eq_false_iff_ne];omega
    have q2:((er:Int) != 0)=true:=by rw[bne,q1];rfl
    have HNE:Hid (¬(⟨toks,er,ps⟩:Lx.Out)=⟨[⟨k,t,n,0⟩],0,0⟩):=fun e=>by
     cases e
     exact he rfl
    clear he
    refine zaC w4.heap.size w4 (Below.refl _ _) (by kernel_rfl) (by kernel_rfl) ?_
    repeat (go_big_quiet_step (fail))
    refine wpQuiet_nil ?_
    intro _ hw'
    obtain⟨pq,hw''⟩:=hw'
    subst hw''
    have HF:=X4.out.2.trans (pq.h.mono X4.out.2.size)
    go_wp2
    refine bodyPost_ret (zaD rfl _ _) rfl ?_
    rw[HR.out,if_neg HNE.out]
    exact⟨rfl,HF⟩
 ·have q3:((k:Int)==3)=false:=by rw[beq_eq_false_iff_ne];omega
  by_cases h4:k=4
  ·have q4:((k:Int)==4)=true:=by rw[h4];rfl
   have C1:Hid (∀W:World,Calls Tryz.prog 54 #[.string tb] W fun e w'=>e=.returned (.string sb)∧Below W.heap.size W w'):=fun W=>by
    have e:sb=Lx.bs ([39]++Lx.dbl t++[39]):=by rw[HSB.out.1,HSB.out.2,Lx.wr,if_neg h3,if_pos h4]
    rw[e,HTB.out]
    exact rquoted_c t ht W
   clear h3 h4
   go_enter Tryz.func65,Tryz.ntmps65
   go_upto_region 1 with fail
   rw[←hw1]
   clear hw1
   go_wp2_with fail
   refine Calls.mono (C1.out _) ?_
   rintro e w2 ⟨rfl,hb2⟩
   have X2:Hid (TB w2 w.heap.size k t n a∧Below w.heap.size w w2):=⟨X1.out.1.call hb2,X1.out.2.trans (hb2.mono X1.out.2.size)⟩
   clear hb2 X1 C1 p0 p1 p2 p3
   go_wp2_with fail
   refine Calls.mono (CX.out _) ?_
   rintro e w4 ⟨hb4,lv,rfl,hrow⟩
   have X4:Hid (TB w4 w.heap.size k t n a∧Below w.heap.size w w4):=⟨X2.out.1.call hb4,X2.out.2.trans (hb4.mono X2.out.2.size)⟩
   clear hb4 X2 CX
   obtain⟨o,ho⟩:∃o,o=Lx.lex s:=⟨_,rfl⟩
   rw[←ho] at hrow HR
   rw[←ho]
   have hps:o.err=0→o.pos=0:=fun h=>by rw[ho] at h ⊢;exact Lx.lex_pos h
   clear ho
   obtain⟨toks,er,ps⟩:=o
   have HPS:Hid (er=0→ps=0):=hps
   clear hps
   obtain⟨la,lc,rfl⟩:=zdL hrow
   obtain⟨ln,hln⟩:∃ln,ln=toks.length:=⟨_,rfl⟩
   obtain⟨BB,hBB⟩:∃BB:Nat,w4.ownsRow BB 92 4 (.slice la ln lc) ln (Lx.tcs toks):=⟨_,by rw[hln];exact hrow⟩
   have HROW:Hid (w4.ownsRow BB 92 4 (.slice la ln lc) ln (Lx.tcs toks)):=hBB
   have HLN:Hid (ln=toks.length):=hln
   rw[←hln]
   clear hrow hln hBB
   go_upto_region 10 with fail
   by_cases he:er=0
   ·subst he
    by_cases h1:ln=1
    ·subst h1
     obtain⟨⟨k2,t2,n2,a2⟩,rfl⟩:∃x,toks=[x]:=by
      match toks,HLN.out with
      | [x],_=>exact⟨x,rfl⟩
     obtain⟨g,cap,e1,hg,hc⟩:=zcF (by omega) HROW.out
     cases e1
     have c0:∀p:BelowOf w4.heap.size w4,p.W.cell? ⟨g,0,none⟩=some (.int .u8 (k2:Int)):=fun p=>(p.h.cell (p:=⟨g,0,none⟩) hg).trans (hc 0 _ rfl)
     have c1:∀p:BelowOf w4.heap.size w4,p.W.cell? ⟨g,1,none⟩=some (.string (Lx.bs t2)):=fun p=>(p.h.cell (p:=⟨g,1,none⟩) hg).trans (hc 1 _ rfl)
     have c2:∀p:BelowOf w4.heap.size w4,p.W.cell? ⟨g,2,none⟩=some (.int .i64 n2):=fun p=>(p.h.cell (p:=⟨g,2,none⟩) hg).trans (hc 2 _ rfl)
     have c3:∀p:BelowOf w4.heap.size w4,p.W.cell? ⟨g,3,none⟩=some (.int .i64 (a2:Int)):=fun p=>(p.h.cell (p:=⟨g,3,none⟩) hg).trans (hc 3 _ rfl)
     have d0:∀p:BelowOf w4.heap.size w4,p.W.cell? ⟨w.heap.size,0,none⟩=some (.int .u8 (k:Int)):=fun p=>(X4.out.1.call p.h).cells.1
     have d1:∀p:BelowOf w4.heap.size w4,p.W.cell? ⟨w.heap.size,1,none⟩=some (.string tb):=fun p=>by rw[HTB.out];exact(X4.out.1.call p.h).cells.2.1
     have d2:∀p:BelowOf w4.heap.size w4,p.W.cell? ⟨w.heap.size,2,none⟩=some (.int .i64 n):=fun p=>(X4.out.1.call p.h).cells.2.2.1
     clear hc hg
     obtain⟨tb2,htb2⟩:∃tb2,tb2=Lx.bs t2:=⟨_,rfl⟩
     rw[←htb2] at c1
     have HB2:Hid (tb2.toList=t2∧tb.toList=t):=⟨by rw[htb2,Lx.bs_toList],by rw[HTB.out,Lx.bs_toList]⟩
     clear htb2
     by_cases hk:k2=k
     ·have qk:((k2:Int) != (k:Int))=false:=by rw[hk];simp
      by_cases htt:t2=t
      ·have qt:(tb2.toList != tb.toList)=false:=by rw[HB2.out.1,HB2.out.2,htt];simp
       have qt2:(tb2.toList==tb.toList)=true:=by rw[HB2.out.1,HB2.out.2,htt];simp
       by_cases hnn:n2=n
       ·have qn:(n2 != n)=false:=by rw[hnn];simp
        by_cases haa:a2=0
        ·have qa:((a2:Int) != 0)=false:=by rw[haa];rfl
         have HY:Hid ((⟨[⟨k2,t2,n2,a2⟩],0,ps⟩:Lx.Out)=⟨[⟨k,t,n,0⟩],0,0⟩):=by
          have hps:=HPS.out rfl
          show _=_
          rw[hk,htt,hnn,haa,hps]
         clear hk htt hnn haa
         refine zaC w4.heap.size w4 (Below.refl _ _) (by kernel_rfl) (by kernel_rfl) ?_
         repeat (go_big_quiet_step (fail))
         refine wpQuiet_nil ?_
         intro _ hw'
         obtain⟨pq,hw''⟩:=hw'
         subst hw''
         have HF:=X4.out.2.trans (pq.h.mono X4.out.2.size)
         go_wp2
         refine bodyPost_ret (zaD rfl _ _) rfl ?_
         rw[HR.out,if_pos HY.out]
         exact⟨by simp only[Lx.shown,←HSB.out.1];rfl,HF⟩
        ·have qa:((a2:Int) != 0)=true:=by simp;omega
         have HNE:Hid (¬(⟨[⟨k2,t2,n2,a2⟩],0,ps⟩:Lx.Out)=⟨[⟨k,t,n,0⟩],0,0⟩):=fun e=>by cases e;exact haa rfl
         clear haa
         refine zaC w4.heap.size w4 (Below.refl _ _) (by kernel_rfl) (by kernel_rfl) ?_
         repeat (go_big_quiet_step (fail))
         refine wpQuiet_nil ?_
         intro _ hw'
         obtain⟨pq,hw''⟩:=hw'
         subst hw''
         have HF:=X4.out.2.trans (pq.h.mono X4.out.2.size)
         go_wp2
         refine bodyPost_ret (zaD rfl _ _) rfl ?_
         rw[HR.out,if_neg HNE.out]
         exact⟨rfl,HF⟩
       ·have qn:(n2 != n)=true:=by simpa using hnn
        have HNE:Hid (¬(⟨[⟨k2,t2,n2,a2⟩],0,ps⟩:Lx.Out)=⟨[⟨k,t,n,0⟩],0,0⟩):=fun e=>by cases e;exact hnn rfl
        clear hnn
        refine zaC w4.heap.size w4 (Below.refl _ _) (by kernel_rfl) (by kernel_rfl) ?_
        repeat (go_big_quiet_step (fail))
        refine wpQuiet_nil ?_
        intro _ hw'
        obtain⟨pq,hw''⟩:=hw'
        subst hw''
        have HF:=X4.out.2.trans (pq.h.mono X4.out.2.size)
        go_wp2
        refine bodyPost_ret (zaD rfl _ _) rfl ?_
        rw[HR.out,if_neg HNE.out]
        exact⟨rfl,HF⟩
      ·have qt:(tb2.toList != tb.toList)=true:=by rw[HB2.out.1,HB2.out.2];simpa using htt
       have qt2:(tb2.toList==tb.toList)=false:=by rw[HB2.out.1,HB2.out.2];simpa using htt
       have HNE:Hid (¬(⟨[⟨k2,t2,n2,a2⟩],0,ps⟩:Lx.Out)=⟨[⟨k,t,n,0⟩],0,0⟩):=fun e=>by cases e;exact htt rfl
       clear htt
       refine zaC w4.heap.size w4 (Below.refl _ _) (by kernel_rfl) (by kernel_rfl) ?_
       repeat (go_big_quiet_step (fail))
       refine wpQuiet_nil ?_
       intro _ hw'
       obtain⟨pq,hw''⟩:=hw'
       subst hw''
       have HF:=X4.out.2.trans (pq.h.mono X4.out.2.size)
       go_wp2
       refine bodyPost_ret (zaD rfl _ _) rfl ?_
       rw[HR.out,if_neg HNE.out]
       exact⟨rfl,HF⟩
     ·have qk:((k2:Int) != (k:Int))=true:=by simp;omega
      have HNE:Hid (¬(⟨[⟨k2,t2,n2,a2⟩],0,ps⟩:Lx.Out)=⟨[⟨k,t,n,0⟩],0,0⟩):=fun e=>by cases e;exact hk rfl
      clear hk
      refine zaC w4.heap.size w4 (Below.refl _ _) (by kernel_rfl) (by kernel_rfl) ?_
      repeat (go_big_quiet_step (fail))
      refine wpQuiet_nil ?_
      intro _ hw'
      obtain⟨pq,hw''⟩:=hw'
      subst hw''
      have HF:=X4.out.2.trans (pq.h.mono X4.out.2.size)
      go_wp2
      refine bodyPost_ret (zaD rfl _ _) rfl ?_
      rw[HR.out,if_neg HNE.out]
      exact⟨rfl,HF⟩
    ·have q1:((ln:Int)==1)=false:=by rw[beq_eq_false_iff_ne];omega
     have q2:((ln:Int) != 1)=true:=by rw[bne,q1];rfl
     have HNE:Hid (¬(⟨toks,0,ps⟩:Lx.Out)=⟨[⟨k,t,n,0⟩],0,0⟩):=fun e=>by
      cases e
      exact h1 HLN.out
     clear h1
     refine zaC w4.heap.size w4 (Below.refl _ _) (by kernel_rfl) (by kernel_rfl) ?_
     repeat (go_big_quiet_step (fail))
     refine wpQuiet_nil ?_
     intro _ hw'
     obtain⟨pq,hw''⟩:=hw'
     subst hw''
     have HF:=X4.out.2.trans (pq.h.mono X4.out.2.size)
     go_wp2
     refine bodyPost_ret (zaD rfl _ _) rfl ?_
     rw[HR.out,if_neg HNE.out]
     exact⟨rfl,HF⟩
   ·have q1:((er:Int)==0)=false:=by rw[beq_eq_false_iff_ne];omega
    have q2:((er:Int) != 0)=true:=by rw[bne,q1];rfl
    have HNE:Hid (¬(⟨toks,er,ps⟩:Lx.Out)=⟨[⟨k,t,n,0⟩],0,0⟩):=fun e=>by
     cases e
     exact he rfl
    clear he
    refine zaC w4.heap.size w4 (Below.refl _ _) (by kernel_rfl) (by kernel_rfl) ?_
    repeat (go_big_quiet_step (fail))
    refine wpQuiet_nil ?_
    intro _ hw'
    obtain⟨pq,hw''⟩:=hw'
    subst hw''
    have HF:=X4.out.2.trans (pq.h.mono X4.out.2.size)
    go_wp2
    refine bodyPost_ret (zaD rfl _ _) rfl ?_
    rw[HR.out,if_neg HNE.out]
    exact⟨rfl,HF⟩
  ·have q4:((k:Int)==4)=false:=by rw[beq_eq_false_iff_ne];omega
   have hsb:sb=tb:=by rw[HSB.out.1,HSB.out.2,Lx.wr,if_neg h3,if_neg h4,HTB.out]
   rw[hsb] at CX HSB
   have X2:Hid (TB w1 w.heap.size k t n a∧Below w.heap.size w w1):=X1.out
   clear h3 h4 hsb X1
   go_enter Tryz.func65,Tryz.ntmps65
   go_upto_region 1 with fail
   rw[←hw1]
   clear hw1
   go_wp2_with fail
   refine Calls.mono (CX.out _) ?_
   rintro e w4 ⟨hb4,lv,rfl,hrow⟩
   have X4:Hid (TB w4 w.heap.size k t n a∧Below w.heap.size w w4):=⟨X2.out.1.call hb4,X2.out.2.trans (hb4.mono X2.out.2.size)⟩
   clear hb4 X2 CX
   obtain⟨o,ho⟩:∃o,o=Lx.lex s:=⟨_,rfl⟩
   rw[←ho] at hrow HR
   rw[←ho]
   have hps:o.err=0→o.pos=0:=fun h=>by rw[ho] at h ⊢;exact Lx.lex_pos h
   clear ho
   obtain⟨toks,er,ps⟩:=o
   have HPS:Hid (er=0→ps=0):=hps
   clear hps
   obtain⟨la,lc,rfl⟩:=zdL hrow
   obtain⟨ln,hln⟩:∃ln,ln=toks.length:=⟨_,rfl⟩
   obtain⟨BB,hBB⟩:∃BB:Nat,w4.ownsRow BB 92 4 (.slice la ln lc) ln (Lx.tcs toks):=⟨_,by rw[hln];exact hrow⟩
   have HROW:Hid (w4.ownsRow BB 92 4 (.slice la ln lc) ln (Lx.tcs toks)):=hBB
   have HLN:Hid (ln=toks.length):=hln
   rw[←hln]
   clear hrow hln hBB
   go_upto_region 10 with fail
   by_cases he:er=0
   ·subst he
    by_cases h1:ln=1
    ·subst h1
     obtain⟨⟨k2,t2,n2,a2⟩,rfl⟩:∃x,toks=[x]:=by
      match toks,HLN.out with
      | [x],_=>exact⟨x,rfl⟩
     obtain⟨g,cap,e1,hg,hc⟩:=zcF (by omega) HROW.out
     cases e1
     have c0:∀p:BelowOf w4.heap.size w4,p.W.cell? ⟨g,0,none⟩=some (.int .u8 (k2:Int)):=fun p=>(p.h.cell (p:=⟨g,0,none⟩) hg).trans (hc 0 _ rfl)
     have c1:∀p:BelowOf w4.heap.size w4,p.W.cell? ⟨g,1,none⟩=some (.string (Lx.bs t2)):=fun p=>(p.h.cell (p:=⟨g,1,none⟩) hg).trans (hc 1 _ rfl)
     have c2:∀p:BelowOf w4.heap.size w4,p.W.cell? ⟨g,2,none⟩=some (.int .i64 n2):=fun p=>(p.h.cell (p:=⟨g,2,none⟩) hg).trans (hc 2 _ rfl)
     have c3:∀p:BelowOf w4.heap.size w4,p.W.cell? ⟨g,3,none⟩=some (.int .i64 (a2:Int)):=fun p=>(p.h.cell (p:=⟨g,3,none⟩) hg).trans (hc 3 _ rfl)
     have d0:∀p:BelowOf w4.heap.size w4,p.W.cell? ⟨w.heap.size,0,none⟩=some (.int .u8 (k:Int)):=fun p=>(X4.out.1.call p.h).cells.1
     have d1:∀p:BelowOf w4.heap.size w4,p.W.cell? ⟨w.heap.size,1,none⟩=some (.string tb):=fun p=>by rw[HTB.out];exact(X4.out.1.call p.h).cells.2.1
     have d2:∀p:BelowOf w4.heap.size w4,p.W.cell? ⟨w.heap.size,2,none⟩=some (.int .i64 n):=fun p=>(X4.out.1.call p.h).cells.2.2.1
     clear hc hg
     obtain⟨tb2,htb2⟩:∃tb2,tb2=Lx.bs t2:=⟨_,rfl⟩
     rw[←htb2] at c1
     have HB2:Hid (tb2.toList=t2∧tb.toList=t):=⟨by rw[htb2,Lx.bs_toList],by rw[HTB.out,Lx.bs_toList]⟩
     clear htb2
     by_cases hk:k2=k
     ·have qk:((k2:Int) != (k:Int))=false:=by rw[hk];simp
      by_cases htt:t2=t
      ·have qt:(tb2.toList != tb.toList)=false:=by rw[HB2.out.1,HB2.out.2,htt];simp
       have qt2:(tb2.toList==tb.toList)=true:=by rw[HB2.out.1,HB2.out.2,htt];simp
       by_cases hnn:n2=n
       ·have qn:(n2 != n)=false:=by rw[hnn];simp
        by_cases haa:a2=0
        ·have qa:((a2:Int) != 0)=false:=by rw[haa];rfl
         have HY:Hid ((⟨[⟨k2,t2,n2,a2⟩],0,ps⟩:Lx.Out)=⟨[⟨k,t,n,0⟩],0,0⟩):=by
          have hps:=HPS.out rfl
          show _=_
          rw[hk,htt,hnn,haa,hps]
         clear hk htt hnn haa
         refine zaC w4.heap.size w4 (Below.refl _ _) (by kernel_rfl) (by kernel_rfl) ?_
         repeat (go_big_quiet_step (fail))
         refine wpQuiet_nil ?_
         intro _ hw'
         obtain⟨pq,hw''⟩:=hw'
         subst hw''
         have HF:=X4.out.2.trans (pq.h.mono X4.out.2.size)
         go_wp2
         refine bodyPost_ret (zaD rfl _ _) rfl ?_
         rw[HR.out,if_pos HY.out]
         exact⟨by simp only[Lx.shown,←HSB.out.1];rfl,HF⟩
        ·have qa:((a2:Int) != 0)=true:=by simp;omega
         have HNE:Hid (¬(⟨[⟨k2,t2,n2,a2⟩],0,ps⟩:Lx.Out)=⟨[⟨k,t,n,0⟩],0,0⟩):=fun e=>by cases e;exact haa rfl
         clear haa
         refine zaC w4.heap.size w4 (Below.refl _ _) (by kernel_rfl) (by kernel_rfl) ?_
         repeat (go_big_quiet_step (fail))
         refine wpQuiet_nil ?_
         intro _ hw'
         obtain⟨pq,hw''⟩:=hw'
         subst hw''
         have HF:=X4.out.2.trans (pq.h.mono X4.out.2.size)
         go_wp2
         refine bodyPost_ret (zaD rfl _ _) rfl ?_
         rw[HR.out,if_neg HNE.out]
         exact⟨rfl,HF⟩
       ·have qn:(n2 != n)=true:=by simpa using hnn
        have HNE:Hid (¬(⟨[⟨k2,t2,n2,a2⟩],0,ps⟩:Lx.Out)=⟨[⟨k,t,n,0⟩],0,0⟩):=fun e=>by cases e;exact hnn rfl
        clear hnn
        refine zaC w4.heap.size w4 (Below.refl _ _) (by kernel_rfl) (by kernel_rfl) ?_
        repeat (go_big_quiet_step (fail))
        refine wpQuiet_nil ?_
        intro _ hw'
        obtain⟨pq,hw''⟩:=hw'
        subst hw''
        have HF:=X4.out.2.trans (pq.h.mono X4.out.2.size)
        go_wp2
        refine bodyPost_ret (zaD rfl _ _) rfl ?_
        rw[HR.out,if_neg HNE.out]
        exact⟨rfl,HF⟩
      ·have qt:(tb2.toList != tb.toList)=true:=by rw[HB2.out.1,HB2.out.2];simpa using htt
       have qt2:(tb2.toList==tb.toList)=false:=by rw[HB2.out.1,HB2.out.2];simpa using htt
       have HNE:Hid (¬(⟨[⟨k2,t2,n2,a2⟩],0,ps⟩:Lx.Out)=⟨[⟨k,t,n,0⟩],0,0⟩):=fun e=>by cases e;exact htt rfl
       clear htt
       refine zaC w4.heap.size w4 (Below.refl _ _) (by kernel_rfl) (by kernel_rfl) ?_
       repeat (go_big_quiet_step (fail))
       refine wpQuiet_nil ?_
       intro _ hw'
       obtain⟨pq,hw''⟩:=hw'
       subst hw''
       have HF:=X4.out.2.trans (pq.h.mono X4.out.2.size)
       go_wp2
       refine bodyPost_ret (zaD rfl _ _) rfl ?_
       rw[HR.out,if_neg HNE.out]
       exact⟨rfl,HF⟩
     ·have qk:((k2:Int) != (k:Int))=true:=by simp;omega
      have HNE:Hid (¬(⟨[⟨k2,t2,n2,a2⟩],0,ps⟩:Lx.Out)=⟨[⟨k,t,n,0⟩],0,0⟩):=fun e=>by cases e;exact hk rfl
      clear hk
      refine zaC w4.heap.size w4 (Below.refl _ _) (by kernel_rfl) (by kernel_rfl) ?_
      repeat (go_big_quiet_step (fail))
      refine wpQuiet_nil ?_
      intro _ hw'
      obtain⟨pq,hw''⟩:=hw'
      subst hw''
      have HF:=X4.out.2.trans (pq.h.mono X4.out.2.size)
      go_wp2
      refine bodyPost_ret (zaD rfl _ _) rfl ?_
      rw[HR.out,if_neg HNE.out]
      exact⟨rfl,HF⟩
    ·have q1:((ln:Int)==1)=false:=by rw[beq_eq_false_iff_ne];omega
     have q2:((ln:Int) != 1)=true:=by rw[bne,q1];rfl
     have HNE:Hid (¬(⟨toks,0,ps⟩:Lx.Out)=⟨[⟨k,t,n,0⟩],0,0⟩):=fun e=>by
      cases e
      exact h1 HLN.out
     clear h1
     refine zaC w4.heap.size w4 (Below.refl _ _) (by kernel_rfl) (by kernel_rfl) ?_
     repeat (go_big_quiet_step (fail))
     refine wpQuiet_nil ?_
     intro _ hw'
     obtain⟨pq,hw''⟩:=hw'
     subst hw''
     have HF:=X4.out.2.trans (pq.h.mono X4.out.2.size)
     go_wp2
     refine bodyPost_ret (zaD rfl _ _) rfl ?_
     rw[HR.out,if_neg HNE.out]
     exact⟨rfl,HF⟩
   ·have q1:((er:Int)==0)=false:=by rw[beq_eq_false_iff_ne];omega
    have q2:((er:Int) != 0)=true:=by rw[bne,q1];rfl
    have HNE:Hid (¬(⟨toks,er,ps⟩:Lx.Out)=⟨[⟨k,t,n,0⟩],0,0⟩):=fun e=>by
     cases e
     exact he rfl
    clear he
    refine zaC w4.heap.size w4 (Below.refl _ _) (by kernel_rfl) (by kernel_rfl) ?_
    repeat (go_big_quiet_step (fail))
    refine wpQuiet_nil ?_
    intro _ hw'
    obtain⟨pq,hw''⟩:=hw'
    subst hw''
    have HF:=X4.out.2.trans (pq.h.mono X4.out.2.size)
    go_wp2
    refine bodyPost_ret (zaD rfl _ _) rfl ?_
    rw[HR.out,if_neg HNE.out]
    exact⟨rfl,HF⟩
end Go.Proofs.YtfhkaffakniioaaGreatDoor
