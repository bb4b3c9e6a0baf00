/- Several texts, joined. -/
import Derived.Test.YtfhkaffakniioaaGreatDoorQ11M
import Derived.Test.YtfhkaffakniioaaGreatDoorQ12M
import Derived.Deep.RegionLaw
import Derived.Deep.AppendLies
set_option maxHeartbeats 4000000
set_option maxRecDepth 100000
namespace Go.Proofs.YtfhkaffakniioaaGreatDoor.Lx
theorem one_tok {y:UInt8} {q:Bs} {k:Nat} {t:Bs} {n:Int} (hb:bl (y :: q)=0) (hf:frst (y :: q)=⟨0,k,t,n,(y :: q).length⟩) (hl:(y :: q).length≤16384):lex (y :: q)=⟨[⟨k,t,n,0⟩],0,0⟩:=by
 have h0:Toks ((y :: q).drop (frst (y :: q)).size) (0+bl (y :: q)+(frst (y :: q)).size) []:=.nil (by rw[hf];simp[bl])
 have h:=Toks.cons (a:=0) (l:=y :: q) (x:=y) (r:=q) (ts:=[]) (by rw[hb];rfl) (by rw[hf]) h0
 rw[hb,hf] at h
 exact toks_lex hl h
theorem byte_all {P:UInt8→Prop} (h:∀n:Fin 256,P (UInt8.ofNat n.val)) (b:UInt8):P b:=by
 have:=h ⟨b.toNat,UInt8.toNat_lt _⟩
 simpa using this
theorem bl_not {x:UInt8} {r:Bs} (h:¬(x=32∨x=9∨x=10∨x=13)):bl (x :: r)=0:=by rw[bl,if_neg h]
theorem w_not (b:UInt8):isW b=true→¬(b=32∨b=9∨b=10∨b=13):=byte_all (P:=fun b=>isW b=true→¬(b=32∨b=9∨b=10∨b=13)) (by decide +kernel) b
theorem s_not (b:UInt8):signs.contains b=true→¬(b=32∨b=9∨b=10∨b=13):=byte_all (P:=fun b=>signs.contains b=true→¬(b=32∨b=9∨b=10∨b=13)) (by decide +kernel) b
theorem up_W (b:UInt8):isW (up b)=isW b:=byte_all (P:=fun b=>isW (up b)=isW b) (by decide +kernel) b
theorem up_L (b:UInt8):isL (up b).toNat=isL b.toNat:=byte_all (P:=fun b=>isL (up b).toNat=isL b.toNat) (by decide +kernel) b
theorem up_up (b:UInt8):up (up b)=up b:=byte_all (P:=fun b=>up (up b)=up b) (by decide +kernel) b
theorem wsz_take:∀l:Bs,wsz (l.take (wsz l))=wsz l
 | []=>rfl
 | b :: r=>by
  by_cases h:isW b
  ·rw[wsz,if_pos h,List.take_succ_cons,wsz,if_pos h,wsz_take r]
  ·rw[wsz,if_neg h,List.take_zero];rfl
theorem wsz_great:∀l:Bs,wsz (great l)=wsz l
 | []=>rfl
 | b :: r=>by
  show wsz (up b :: great r)=_
  rw[wsz,wsz,up_W,wsz_great r]
theorem great_great (l:Bs):great (great l)=great l:=by
 rw[great,great,List.map_map]
 exact List.map_congr_left (fun b _=>up_up b)
theorem great_len (l:Bs):(great l).length=l.length:=by rw[great,List.length_map]
theorem quo_dbl:∀t:Bs,quo (dbl t++[39])=some (t,(dbl t).length+1)
 | []=>rfl
 | b :: r=>by
  by_cases h:b=39
  ·subst h
   rw[dbl,if_pos rfl,List.cons_append,List.cons_append,quo_twice,quo_dbl r]
   simp
  ·rw[dbl,if_neg h,List.cons_append,quo_plain h,quo_dbl r]
   simp
theorem numOf_len {d:Bs} {v:Int} (h:numOf d=some v):d.length≤21:=by
 rw[numOf] at h
 split at h
 ·rename_i u hu
  have hb:=Lib.parseIntB_bounds hu
  simp at hb
  split at h
  ·rename_i h3
   cases h
   rw[←h3]
   exact Lib.itoa_length_le _ (by omega) (by omega)
  ·cases h
 ·cases h
theorem sgn_one (x:UInt8):sgn [x]=if signs.contains x then 1 else 0:=by rw[sgn];simp[pre2]
theorem sgn_key {x:UInt8} {r:Bs} (h4:0<sgn (x :: r)):∃y q,(x :: r).take (sgn (x :: r))=y :: q∧y=x∧sgn (y :: q)=(y :: q).length∧(y :: q).length≤2∧signs.contains x=true:=by
 cases r with
 | nil =>
  rw[sgn_one] at h4 ⊢
  by_cases h:signs.contains x
  ·rw[if_pos h]
   exact⟨x,[],rfl,rfl,by rw[sgn_one,if_pos h];rfl,by simp,h⟩
  ·rw[if_neg h] at h4;omega
 | cons y r =>
  have hp:∀a b q,pre2 a b (x :: y :: q)=(x==a && y==b):=fun a b q=>rfl
  rw[sgn] at h4 ⊢
  by_cases h:(pre2 60 62 (x :: y :: r) || pre2 60 61 (x :: y :: r) || pre2 62 61 (x :: y :: r))=true
  ·rw[if_pos h]
   refine⟨x,[y],rfl,rfl,?_,by simp,?_⟩
   ·rw[sgn]
    rw[hp,hp,hp] at h ⊢
    rw[if_pos h];rfl
   ·rw[hp,hp,hp] at h
    simp at h
    rcases h with (⟨rfl,_⟩ | ⟨rfl,_⟩) | ⟨rfl,_⟩<;>decide
  ·rw[if_neg h] at h4 ⊢
   by_cases hc:signs.contains x
   ·rw[if_pos hc]
    exact⟨x,[],rfl,rfl,by rw[sgn_one,if_pos hc];rfl,by simp,hc⟩
   ·rw[if_neg hc] at h4;omega
theorem back {x:UInt8} {r:Bs} (he:(frst (x :: r)).err=0):(frst (x :: r)).text.length≤1024∧lex (wr (frst (x :: r)).kind (frst (x :: r)).text (frst (x :: r)).n)=⟨[⟨(frst (x :: r)).kind,(frst (x :: r)).text,(frst (x :: r)).n,0⟩],0,0⟩:=by
 rw[frst] at he ⊢
 have hw:=wsz_le (x :: r)
 by_cases h1:isL x.toNat
 ·rw[if_pos h1] at he ⊢
  have hW:isW x=true:=by rw[isW,h1];rfl
  obtain⟨z,hz⟩:∃z,wsz (x :: r)=z+1:=⟨wsz r,by rw[wsz,if_pos hW]⟩
  have ht:(x :: r).take (z+1)=x :: r.take z:=rfl
  have hlen:(x :: r.take z).length=z+1:=by rw[←ht,List.length_take];omega
  have hwt:wsz (x :: r.take z)=z+1:=by have:=wsz_take (x :: r);rw[hz,ht] at this;exact this
  rw[word,hz,ht] at he ⊢
  by_cases hk:isKey (x :: r.take z)
  ·rw[if_pos hk]
   have h7:(x :: r.take z).length≤7:=by rw[isKey,Bool.and_eq_true] at hk;exact of_decide_eq_true hk.1
   have hg:great (x :: r.take z)=up x :: great (r.take z):=rfl
   have hkg:isKey (great (x :: r.take z))=true:=by rw[isKey,great_great,great_len];exact hk
   have hwg:wsz (great (x :: r.take z))=z+1:=by rw[wsz_great,hwt]
   have hlg:(great (x :: r.take z)).length=z+1:=by rw[great_len,hlen]
   refine⟨by show(great (x :: r.take z)).length≤1024;rw[great_len];omega,?_⟩
   show lex (great (x :: r.take z))=_
   have hf:frst (great (x :: r.take z))=⟨0,2,great (x :: r.take z),0,(great (x :: r.take z)).length⟩:=by
    rw[hg,frst,up_L,if_pos h1,←hg,word,hwg,List.take_of_length_le (by omega),if_pos hkg,great_great,hlg]
   rw[hg] at hf ⊢
   exact one_tok (bl_not (w_not _ (by rw[up_W];exact hW))) hf (by rw[←hg,hlg];omega)
  ·rw[if_neg hk] at he ⊢
   by_cases h64:64<z+1
   ·rw[if_pos h64] at he;cases he
   ·rw[if_neg h64]
    refine⟨by show(x :: r.take z).length≤1024;omega,?_⟩
    show lex (x :: r.take z)=_
    have hf:frst (x :: r.take z)=⟨0,1,x :: r.take z,0,(x :: r.take z).length⟩:=by
     rw[frst,if_pos h1,word,hwt,List.take_of_length_le (by omega),if_neg hk,if_neg h64,hlen]
    exact one_tok (bl_not (w_not _ hW)) hf (by omega)
 ·rw[if_neg h1] at he ⊢
  by_cases h2:isD x.toNat
  ·rw[if_pos h2] at he ⊢
   have hW:isW x=true:=by rw[isW,h2];simp
   obtain⟨z,hz⟩:∃z,wsz (x :: r)=z+1:=⟨wsz r,by rw[wsz,if_pos hW]⟩
   have ht:(x :: r).take (z+1)=x :: r.take z:=rfl
   have hlen:(x :: r.take z).length=z+1:=by rw[←ht,List.length_take];omega
   have hwt:wsz (x :: r.take z)=z+1:=by have:=wsz_take (x :: r);rw[hz,ht] at this;exact this
   rw[numb,hz,ht] at he ⊢
   cases hn:numOf (x :: r.take z) with
   | none=>rw[hn] at he;cases he
   | some v =>
    have hi:Lib.itoa v=x :: r.take z:=by
     have hn2:=hn
     rw[numOf] at hn2
     split at hn2
     ·split at hn2
      ·rename_i h3;cases hn2;exact h3
      ·cases hn2
     ·cases hn2
    have hb:=numOf_len hn
    refine⟨Nat.zero_le _,?_⟩
    show lex (Lib.itoa v)=_
    rw[hi]
    have hf:frst (x :: r.take z)=⟨0,3,[],v,(x :: r.take z).length⟩:=by
     rw[frst,if_neg h1,if_pos h2,numb,hwt,List.take_of_length_le (by omega),hn,hlen]
    exact one_tok (bl_not (w_not _ hW)) hf (by omega)
  ·rw[if_neg h2] at he ⊢
   by_cases h3:x=39
   ·rw[if_pos h3] at he ⊢
    rw[text] at he ⊢
    cases hq:quo ((x :: r).drop 1) with
    | none=>rw[hq] at he;cases he
    | some tm =>
     obtain⟨t,m⟩:=tm
     rw[hq] at he
     simp only at he ⊢
     rw[tok] at he ⊢
     by_cases h4:1024<t.length
     ·rw[if_pos h4] at he;cases he
     ·rw[if_neg h4] at he ⊢
      by_cases h5:Lib.validD t=false
      ·rw[if_pos h5] at he;cases he
      ·rw[if_neg h5]
       refine⟨by show t.length≤1024;omega,?_⟩
       show lex (39 :: (dbl t++[39]))=_
       have hd:=dbl_len t
       have hf:frst (39 :: (dbl t++[39]))=⟨0,4,t,0,(39 :: (dbl t++[39])).length⟩:=by
        rw[frst,if_neg (by decide),if_neg (by decide),if_pos rfl,text]
        simp only[List.drop_succ_cons,List.drop_zero]
        rw[quo_dbl]
        simp only
        rw[tok,if_neg h4,if_neg h5]
        simp
       exact one_tok (bl_not (by decide)) hf (by simp;omega)
   ·rw[if_neg h3] at he ⊢
    by_cases h4:0<sgn (x :: r)
    ·rw[if_pos h4]
     obtain⟨y,q,e1,rfl,e2,e3,e4⟩:=sgn_key h4
     refine⟨by show((y :: r).take (sgn (y :: r))).length≤1024;rw[e1];omega,?_⟩
     show lex ((y :: r).take (sgn (y :: r)))=⟨[⟨5,(y :: r).take (sgn (y :: r)),0,0⟩],0,0⟩
     rw[e1]
     have hf:frst (y :: q)=⟨0,5,y :: q,0,(y :: q).length⟩:=by
      rw[frst,if_neg h1,if_neg h2,if_neg h3,if_pos (by rw[e2];simp),sign,e2,List.take_of_length_le (Nat.le_refl _)]
     exact one_tok (bl_not (s_not _ e4)) hf (by omega)
    ·rw[if_neg h4] at he;cases he
end Go.Proofs.YtfhkaffakniioaaGreatDoor.Lx
namespace Go.Proofs.YtfhkaffakniioaaGreatDoor
open Go.RowKit
namespace Ps
theorem infoStep:(Tryz.prog.info? 29).map (fun i=>(i.zero,i.size,i.bytes))=some (some (.agg #[.int .u8 0,.string ⟨#[]⟩,.int .i64 0]),3,32):=by kernel_rfl
theorem zaJ {e:TypeId} {z:Value} {n b:Nat} (h:(Tryz.prog.info? e).map (fun i=>(i.zero,i.size,i.bytes))=some (some z,n,b)):∃i,Tryz.prog.info? e=some i∧i.zero=some z∧i.size=n∧i.bytes=b:=by
 cases hi:Tryz.prog.info? e with
 | none=>simp[hi] at h
 | some i =>
  rw[hi] at h
  simp at h
  exact⟨i,rfl,h.1,h.2.1,h.2.2⟩
section
variable {W0:World} {pb:Nat} {W W' W1 w4 w5:World} {s s':S} {sb sb1:Option Nat}
theorem PS.append (h:PS W0 W pb s sb) {ra:Option Addr} {rc gg cap:Nat} {sv:Value} {p:Sp} (hx:W.heap[pb]?=some (.cells (pc s ra rc sv) 67 (0,0))) (ht:Tks W W0.heap.size ra s.rest) (hc:s.rest.length≤rc∧rc≤9223372036854775807) (ho:W.ownsRow W0.heap.size 29 3 sv s.steps.length (scs s.steps)) (hs:sv.ownBlock=sb) (hne:sb≠some pb)
  (hb:Below W.heap.size W w4) (hg:w4.grownBy w5 sv.ownBlock) (hat:sv.ownBlock=some gg∨gg=w4.heap.size) (hn:w5.ownsRow W0.heap.size 29 3 (.slice (some ⟨gg,0,none⟩) (s.steps.length+1) cap) (s.steps.length+1) (scs s.steps++[.int .u8 (p.kind:Int),.string (Lx.bs p.text),.int .i64 p.n])) (hlim:s.steps.length+1+s.rest.length≤20000) :
  PG W0 pb W sb { s with steps:=s.steps++[p] } (w5.setCell ⟨pb,6,none⟩ (.slice (some ⟨gg,0,none⟩) (s.steps.length+1) cap)):=by
 have hl:=h.blt
 have hsz:=hb.size
 have hlt:=h.lt
 have g0:Below 0 w4 w5:=(Below.refl 0 _).grown hg (Nat.zero_le _) (fun k hk=>Nat.zero_le _)
 have hsb:∀g,sv.ownBlock=some g→W0.heap.size≤g∧g<W.heap.size:=fun g e=>ho.lt g e
 have b5:Below W0.heap.size w4 w5:=(Below.refl _ _).grown hg (by omega) (fun k hk=>(hsb k hk).1)
 have hgp:gg≠pb:=by
  rcases hat with e | e
  ·intro q
   rw[hs] at e
   rw[q] at e
   exact hne e
  ·omega
 have hg4:∀k,k<W.heap.size→sv.ownBlock≠some k→w5.heap[k]?=W.heap[k]?:=fun k hk q=>(hg.block k (by omega) (fun e=>q e.symm)).trans (hb.block k hk)
 refine⟨some gg,⟨hlt,(h.below.trans ((hb.mono (by omega)).trans b5)).setCell hlt _,⟨ra,rc,.slice (some ⟨gg,0,none⟩) (s.steps.length+1) cap,?_,?_,hc,?_,rfl,fun e=>hgp (by injection e)⟩,?_,h.fit,h.around,h.nums⟩,⟨⟨?_,?_,?_,?_,fun k hk hf=>?_⟩,?_,?_⟩⟩
 ·have h5:w5.heap[pb]?=some (.cells (pc s ra rc sv) 67 (0,0)):=(hg4 pb hl (by rw[hs];exact hne)).trans hx
  have:=heap_setCell_same w5 pb 6 _ 67 (.slice (some ⟨gg,0,none⟩) (s.steps.length+1) cap) h5
  rw[this]
  rfl
 ·exact ht.stays fun g q=>(zbG (by omega)).trans (hg4 g (by omega) fun e=>by have:=(hsb g e).1;omega)
 ·rw[List.length_append,List.length_singleton,scs_snoc]
  exact own_setL hn (by show some pb≠some gg;intro e;cases e;exact hgp rfl)
 ·show(s.steps++[p]).length+s.rest.length≤20000
  simp
  omega
 ·exact g0.os.trans hb.os
 ·exact g0.tape.trans hb.tape
 ·exact g0.output.trans hb.output
 ·simp
  have:=g0.size
  omega
 ·rw[zbG (fun e=>hf (.inl e))]
  exact hg4 k hk fun e=>hf (.inr (hs ▸ e))
 ·rcases hat with e | e
  ·left;rw[←hs];exact e.symm
  ·right;exact⟨gg,rfl,by omega⟩
 ·have h5:w5.heap[pb]?=some (.cells (pc s ra rc sv) 67 (0,0)):=(hg4 pb hl (by rw[hs];exact hne)).trans hx
  have e1:slen W pb=s.steps.length:=by
   rw[zcJ hx]
   rcases ho.2 with ⟨q,h0⟩ | ⟨g,cap,cur,q,_⟩
   ·rw[q];exact h0.symm
   ·rw[q];rfl
  have e2:slen (w5.setCell ⟨pb,6,none⟩ (.slice (some ⟨gg,0,none⟩) (s.steps.length+1) cap)) pb=s.steps.length+1:=by
   rw[zcJ (s:=s) (ra:=ra) (rc:=rc) (sv:=.slice (some ⟨gg,0,none⟩) (s.steps.length+1) cap) (by rw[heap_setCell_same w5 pb 6 _ 67 (.slice (some ⟨gg,0,none⟩) (s.steps.length+1) cap) h5];rfl)]
   rfl
  exact fun _=>⟨by omega,fun _ q=>by omega⟩
theorem add_c (h:PS W0 W pb s sb) (p:Sp) (hlim:s.steps.length+1+s.rest.length≤20000):Calls Tryz.prog 162 #[.pointer (some ⟨pb,0,none⟩),.agg #[.int .u8 (p.kind:Int),.string (Lx.bs p.text),.int .i64 p.n]] W fun e W'=>e=.returned (.tuple #[])∧PG W0 pb W sb (add p s) W':=by
 obtain⟨pk,ptx,pn⟩:=p
 obtain⟨w1,hw1⟩:∃w1,w1=W.alloc (.cells #[.int .u8 (pk:Int),.string (Lx.bs ptx),.int .i64 pn] 29):=⟨_,rfl⟩
 obtain⟨T,hT⟩:∃T,T=W.heap.size:=⟨_,rfl⟩
 have X1:Hid (w1.heap[T]?=some (.cells #[.int .u8 (pk:Int),.string (Lx.bs ptx),.int .i64 pn] 29 (0,0))∧Below W.heap.size W w1∧T=W.heap.size):=⟨by rw[hw1,hT];exact heap_alloc_new W _,by rw[hw1];exact bnew _ _,hT⟩
 have HP:Hid (PS W0 w1 pb s sb):=h.call X1.out.2.1
 have HLIM:Hid (s.steps.length+1+s.rest.length≤20000):=hlim
 obtain⟨ov,hov⟩:∃ov,ov=(s.over || s.steps.length==128):=⟨_,rfl⟩
 have HA:Hid (add ⟨pk,ptx,pn⟩ s={ s with over:=ov,steps:=s.steps++[⟨pk,ptx,pn⟩] }):=by
  show _=_
  rw[add,hov]
 obtain⟨i0,hi,hz0,hz1,hz2⟩:=zaJ infoStep
 obtain⟨b1,b2⟩:=HP.out.set (i:=2) (v:=.bool ov) (s':={ s with over:=ov }) rfl rfl HP.out.around HP.out.nums (fun _ _ _=>rfl)
 have HP2:Hid (PS W0 (w1.setCell ⟨pb,2,none⟩ (.bool ov)) pb { s with over:=ov } sb∧PCh pb w1 sb (w1.setCell ⟨pb,2,none⟩ (.bool ov)) sb):=⟨b1,b2⟩
 obtain⟨n,hn⟩:∃n,n=s.steps.length:=⟨_,rfl⟩
 have HN:Hid (n=s.steps.length∧n≤20000):=⟨hn,by omega⟩
 obtain⟨ra,rc,sv,H,p0,p1,p2,p3,p4,p5,p6,pf⟩:=HP.out.cells
 have hpl:=HP.out.blt
 have hsv:∃sa scap,sv=.slice sa n scap:=by
  obtain⟨_,_,h4,_⟩:=H.out
  rw[←hn] at h4
  rcases h4.2 with ⟨e,h0⟩ | ⟨g,cap,cur,e,_⟩
  ·exact⟨none,0,by rw[e,h0]⟩
  ·exact⟨_,cap,e⟩
 obtain⟨sa,scap,rfl⟩:=hsv
 have y0:w1.cell? ⟨T,0,none⟩=some (.int .u8 (pk:Int)):=by rw[cell_of_row _ _ _ _ _ _ X1.out.1];rfl
 have y1:w1.cell? ⟨T,1,none⟩=some (.string (Lx.bs ptx)):=by rw[cell_of_row _ _ _ _ _ _ X1.out.1];rfl
 have y2:w1.cell? ⟨T,2,none⟩=some (.int .i64 pn):=by rw[cell_of_row _ _ _ _ _ _ X1.out.1];rfl
 have n1:¬T=pb:=by have:=h.blt;have:=X1.out.2.2;omega
 have n2:¬pb=T:=fun e=>n1 e.symm
 clear h hlim b1 b2 p0 p1 p3 p4 p5
 go_enter Tryz.func162,Tryz.ntmps162
 go_upto_region 1 with fail
 rw[←hw1,←hT]
 clear hw1 hT
 obtain⟨so,hso⟩:∃so,so=s.over:=⟨_,rfl⟩
 rw[←hso] at p2 hov
 rw[←hn] at hov
 have HOV:Hid (ov=(so || n==128)):=hov
 clear hov hso hn
 cases so with
 | true =>
  have HOV1:Hid (ov=true):=by show _=_;rw[HOV.out];rfl
  go_upto_region 2 with fail
  obtain⟨w2,hw2⟩:∃w2,w2=w1.setCell ⟨pb,2,none⟩ (.bool true):=⟨_,rfl⟩
  rw[←hw2]
  have Q2:Hid (PS W0 w2 pb { s with over:=ov } sb∧PCh pb w1 sb w2 sb):=by
   have:=HP2.out
   rw[HOV1.out,←hw2] at this
   rw[HOV1.out]
   exact this
  obtain⟨ra,rc,sv',h1,h2,h3,h4,h5,h6⟩:=Q2.out.1.ex
  obtain rfl:sv'=.slice sa n scap:=by
   have e:w2.cell? ⟨pb,6,none⟩=some sv':=by rw[cell_of_row _ _ _ _ _ _ h1];rfl
   rw[hw2,World.cell?_setCell_other _ _ _ _ (by intro q;cases q),p6] at e
   exact(Option.some.inj e).symm
  have HEX:Hid (w2.heap[pb]?=some (.cells (pc { s with over:=ov } ra rc (.slice sa n scap)) 67 (0,0))∧Tks w2 W0.heap.size ra s.rest∧(s.rest.length≤rc∧rc≤9223372036854775807)∧sb≠some pb):=⟨h1,h2,h3,h6⟩
  have HOWN:Hid (w2.ownsRow W0.heap.size 29 3 (.slice sa n scap) n (scs s.steps)∧(Value.slice sa n scap).ownBlock=sb):=⟨by rw[HN.out.1];exact(by rw[HN.out.1] at h4;exact h4),h5⟩
  have p6':w2.cell? ⟨pb,6,none⟩=some (.slice sa n scap):=by rw[cell_of_row _ _ _ _ _ _ h1];rfl
  have pf':∀r,w2.frozen? ⟨pb,r,none⟩=false:=fun r=>by simp[World.frozen?,h1]
  have hpl':pb<w2.heap.size:=row_lt h1
  have eT:w2.heap[T]?=w1.heap[T]?:=by rw[hw2];exact zbG n1
  have y0':w2.cell? ⟨T,0,none⟩=some (.int .u8 (pk:Int)):=(World.cell?_of_block (a:=⟨T,0,none⟩) eT).trans y0
  have y1':w2.cell? ⟨T,1,none⟩=some (.string (Lx.bs ptx)):=(World.cell?_of_block (a:=⟨T,1,none⟩) eT).trans y1
  have y2':w2.cell? ⟨T,2,none⟩=some (.int .i64 pn):=(World.cell?_of_block (a:=⟨T,2,none⟩) eT).trans y2
  have fit63:Hid (n+1≤maxLen):=by show _≤_;have:=HN.out;unfold maxLen;omega
  have fit47:Hid ((n+1)*32≤140737488355328):=by show _≤_;have:=HN.out;omega
  have hb2:Hid (W0.heap.size≤w2.heap.size+1):=by show _≤_;have:=Q2.out.1.lt;omega
  clear h1 h2 h3 h4 h5 h6 p6 pf hpl y0 y1 y2 eT hw2
  go_region_law (first
   |(refine step_append_lies _ (by rfl) _ _ _ (by rfl) W0.heap.size 29 i0 _ 3 32 Tryz.underlying24 hi hz0 hz1 hz2 rfl (by omega) (.slice sa n scap) n (scs s.steps) (by rfl) (HOWN.out.1.alloc _) ⟨w2.heap.size,0,none⟩ 1 1 [.int .u8 (pk:Int),.string (Lx.bs ptx),.int .i64 pn] (by rfl) (by rfl) (World.news_of_block (heap_alloc_new w2 _)) (by simp[Value.oneCell']) (by omega) fit63.out fit47.out (by have:=hb2.out;simp;omega) (w2.heap.size+1) (by simp) ?_;intro gg cap w5 hown5 hgrow hat hglt
     have hpw:w5.heap[pb]?=w2.heap[pb]?:=((hgrow.block pb (by simp;omega) (fun e=>HEX.out.2.2.2 (HOWN.out.2.symm.trans e.symm))).trans (Below.block (bnew w2 _) pb hpl'))
     have N:Hid (PG W0 pb w2 sb { s with over:=ov,steps:=s.steps++[⟨pk,ptx,pn⟩] } (w5.setCell ⟨pb,6,none⟩ (.slice (some ⟨gg,0,none⟩) (n+1) cap))):=by
      have:=Q2.out.1.append (gg:=gg) (cap:=cap) (p:=⟨pk,ptx,pn⟩) HEX.out.1 HEX.out.2.1 HEX.out.2.2.1 (by rw[←HN.out.1];exact HOWN.out.1) HOWN.out.2 HEX.out.2.2.2 (by first | exact bnew w2 _ | exact(bnew w2 _).drew) hgrow (by simpa using hat) (by rw[←HN.out.1];exact hown5) HLIM.out
      rw[←HN.out.1] at this
      exact this
     have q6:w5.cell? ⟨pb,6,none⟩=some (.slice sa n scap):=(World.cell?_of_block (a:=⟨pb,6,none⟩) hpw).trans p6'
     have qf:∀r,w5.frozen? ⟨pb,r,none⟩=false:=fun r=>(World.frozen?_of_block (a:=⟨pb,r,none⟩) hpw).trans (pf' r)
     clear hown5 hgrow hat hpw)
   | fail "no arm")
  all_goals
   have F:Hid (PG W0 pb W sb (add ⟨pk,ptx,pn⟩ s) (w5.setCell ⟨pb,6,none⟩ (.slice (some ⟨gg,0,none⟩) (n+1) cap))):=by
    show PG _ _ _ _ _ _
    rw[HA.out]
    obtain⟨sb',k1,k2⟩:=N.out
    exact⟨sb',k1,(PCh.of_below X1.out.2.1).trans (Q2.out.2.trans k2)⟩
   first | exact bodyPost_end (results_none (by rfl) _ _ _) rfl ⟨rfl,F.out⟩ | exact bodyPost_end (results_none (by rfl) _ _ _) rfl ⟨rfl,F.out.call (Below.refl _ _).drew⟩ | (go_wp2;exact bodyPost_end (results_none (by rfl) _ _ _) rfl ⟨rfl,F.out⟩)
 | false =>
  obtain⟨nb,hnb⟩:∃nb,nb=(n==128):=⟨_,rfl⟩
  have HOV1:Hid (ov=nb):=by show _=_;rw[HOV.out,hnb];rfl
  have qn:((n:Int)==128)=nb:=by
   rw[hnb]
   by_cases e:n=128
   ·rw[e];rfl
   ·have e1:((n:Int)==128)=false:=by simp;omega
    have e2:(n==128)=false:=by simp;omega
    rw[e1,e2]
  clear hnb
  go_upto_region 2 with fail
  obtain⟨w2,hw2⟩:∃w2,w2=w1.setCell ⟨pb,2,none⟩ (.bool nb):=⟨_,rfl⟩
  rw[←hw2]
  have Q2:Hid (PS W0 w2 pb { s with over:=ov } sb∧PCh pb w1 sb w2 sb):=by
   have:=HP2.out
   rw[HOV1.out,←hw2] at this
   rw[HOV1.out]
   exact this
  obtain⟨ra,rc,sv',h1,h2,h3,h4,h5,h6⟩:=Q2.out.1.ex
  obtain rfl:sv'=.slice sa n scap:=by
   have e:w2.cell? ⟨pb,6,none⟩=some sv':=by rw[cell_of_row _ _ _ _ _ _ h1];rfl
   rw[hw2,World.cell?_setCell_other _ _ _ _ (by intro q;cases q),p6] at e
   exact(Option.some.inj e).symm
  have HEX:Hid (w2.heap[pb]?=some (.cells (pc { s with over:=ov } ra rc (.slice sa n scap)) 67 (0,0))∧Tks w2 W0.heap.size ra s.rest∧(s.rest.length≤rc∧rc≤9223372036854775807)∧sb≠some pb):=⟨h1,h2,h3,h6⟩
  have HOWN:Hid (w2.ownsRow W0.heap.size 29 3 (.slice sa n scap) n (scs s.steps)∧(Value.slice sa n scap).ownBlock=sb):=⟨by rw[HN.out.1];exact(by rw[HN.out.1] at h4;exact h4),h5⟩
  have p6':w2.cell? ⟨pb,6,none⟩=some (.slice sa n scap):=by rw[cell_of_row _ _ _ _ _ _ h1];rfl
  have pf':∀r,w2.frozen? ⟨pb,r,none⟩=false:=fun r=>by simp[World.frozen?,h1]
  have hpl':pb<w2.heap.size:=row_lt h1
  have eT:w2.heap[T]?=w1.heap[T]?:=by rw[hw2];exact zbG n1
  have y0':w2.cell? ⟨T,0,none⟩=some (.int .u8 (pk:Int)):=(World.cell?_of_block (a:=⟨T,0,none⟩) eT).trans y0
  have y1':w2.cell? ⟨T,1,none⟩=some (.string (Lx.bs ptx)):=(World.cell?_of_block (a:=⟨T,1,none⟩) eT).trans y1
  have y2':w2.cell? ⟨T,2,none⟩=some (.int .i64 pn):=(World.cell?_of_block (a:=⟨T,2,none⟩) eT).trans y2
  have fit63:Hid (n+1≤maxLen):=by show _≤_;have:=HN.out;unfold maxLen;omega
  have fit47:Hid ((n+1)*32≤140737488355328):=by show _≤_;have:=HN.out;omega
  have hb2:Hid (W0.heap.size≤w2.heap.size+1):=by show _≤_;have:=Q2.out.1.lt;omega
  clear h1 h2 h3 h4 h5 h6 p6 pf hpl y0 y1 y2 eT hw2
  go_region_law (first
   |(refine step_append_lies _ (by rfl) _ _ _ (by rfl) W0.heap.size 29 i0 _ 3 32 Tryz.underlying24 hi hz0 hz1 hz2 rfl (by omega) (.slice sa n scap) n (scs s.steps) (by rfl) (HOWN.out.1.alloc _) ⟨w2.heap.size,0,none⟩ 1 1 [.int .u8 (pk:Int),.string (Lx.bs ptx),.int .i64 pn] (by rfl) (by rfl) (World.news_of_block (heap_alloc_new w2 _)) (by simp[Value.oneCell']) (by omega) fit63.out fit47.out (by have:=hb2.out;simp;omega) (w2.heap.size+1) (by simp) ?_;intro gg cap w5 hown5 hgrow hat hglt
     have hpw:w5.heap[pb]?=w2.heap[pb]?:=((hgrow.block pb (by simp;omega) (fun e=>HEX.out.2.2.2 (HOWN.out.2.symm.trans e.symm))).trans (Below.block (bnew w2 _) pb hpl'))
     have N:Hid (PG W0 pb w2 sb { s with over:=ov,steps:=s.steps++[⟨pk,ptx,pn⟩] } (w5.setCell ⟨pb,6,none⟩ (.slice (some ⟨gg,0,none⟩) (n+1) cap))):=by
      have:=Q2.out.1.append (gg:=gg) (cap:=cap) (p:=⟨pk,ptx,pn⟩) HEX.out.1 HEX.out.2.1 HEX.out.2.2.1 (by rw[←HN.out.1];exact HOWN.out.1) HOWN.out.2 HEX.out.2.2.2 (by first | exact bnew w2 _ | exact(bnew w2 _).drew) hgrow (by simpa using hat) (by rw[←HN.out.1];exact hown5) HLIM.out
      rw[←HN.out.1] at this
      exact this
     have q6:w5.cell? ⟨pb,6,none⟩=some (.slice sa n scap):=(World.cell?_of_block (a:=⟨pb,6,none⟩) hpw).trans p6'
     have qf:∀r,w5.frozen? ⟨pb,r,none⟩=false:=fun r=>(World.frozen?_of_block (a:=⟨pb,r,none⟩) hpw).trans (pf' r)
     clear hown5 hgrow hat hpw)
   | fail "no arm")
  all_goals
   have F:Hid (PG W0 pb W sb (add ⟨pk,ptx,pn⟩ s) (w5.setCell ⟨pb,6,none⟩ (.slice (some ⟨gg,0,none⟩) (n+1) cap))):=by
    show PG _ _ _ _ _ _
    rw[HA.out]
    obtain⟨sb',k1,k2⟩:=N.out
    exact⟨sb',k1,(PCh.of_below X1.out.2.1).trans (Q2.out.2.trans k2)⟩
   first | exact bodyPost_end (results_none (by rfl) _ _ _) rfl ⟨rfl,F.out⟩ | exact bodyPost_end (results_none (by rfl) _ _ _) rfl ⟨rfl,F.out.call (Below.refl _ _).drew⟩ | (go_wp2;exact bodyPost_end (results_none (by rfl) _ _ _) rfl ⟨rfl,F.out⟩)
end
end Ps
end Go.Proofs.YtfhkaffakniioaaGreatDoor
