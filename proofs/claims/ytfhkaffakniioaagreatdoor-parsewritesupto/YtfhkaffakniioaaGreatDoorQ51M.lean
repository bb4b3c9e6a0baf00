/- Several texts, joined. -/
import Derived.Test.YtfhkaffakniioaaGreatDoorQ24M
import Derived.Test.YtfhkaffakniioaaGreatDoorQ38M
import Derived.Test.YtfhkaffakniioaaGreatDoorQ50M
namespace Go.Proofs.YtfhkaffakniioaaGreatDoor
namespace Ps
def z (t:Tk):Tk:=⟨t.kind,t.text,t.n,0⟩
section
variable {s t:S}
end
def sg (t:Bs):Tk:=⟨5,t,0,0⟩
def ky (t:Bs):Tk:=⟨2,t,0,0⟩
def wd (t:Bs):Tk:=⟨1,t,0,0⟩
def nb (n:Int):Tk:=⟨3,[],n,0⟩
def tt (t:Bs):Tk:=⟨4,t,0,0⟩
inductive Lz:Bs→List Tk→Prop
 | nil:Lz [] []
 | blank {l:Bs} {ts:List Tk} (h:Lz l ts):Lz (32 :: l) ts
 | tok {x:UInt8} {r:Bs} {ts:List Tk} {k m:Nat} {t:Bs} {n:Int} (hb:¬(x=32∨x=9∨x=10∨x=13)) (hf:Lx.frst (x :: r)=⟨0,k,t,n,m⟩) (h:Lz ((x :: r).drop m) ts):Lz (x :: r) (⟨k,t,n,0⟩ :: ts)
theorem toks_blank {l:Bs} {a:Nat} {us:List Tk} (h:Lx.Toks l (a+1) us):Lx.Toks (32 :: l) a us:=by
 have hb:Lx.bl (32 :: l)=Lx.bl l+1:=by rw[Lx.bl,if_pos (.inl rfl)]
 generalize hc:a+1=c at h
 cases h with
 | nil h=>exact .nil (by rw[hb,List.drop_succ_cons];exact h)
 | cons h he ht =>
  have e:c+Lx.bl l=a+Lx.bl (32 :: l):=by rw[hb,←hc];omega
  rw[e] at ht ⊢
  exact .cons (by rw[hb,List.drop_succ_cons];exact h) he ht
theorem Lz.toks {l:Bs} {ts:List Tk} (h:Lz l ts):∀a,∃us,Lx.Toks l a us∧us.map z=ts:=by
 induction h with
 | nil=>intro a;exact⟨[],.nil rfl,rfl⟩
 | blank h ih =>
  intro a
  obtain⟨us,h1,h2⟩:=ih (a+1)
  exact⟨us,toks_blank h1,h2⟩
 | @tok x r ts k m t n hb hf h ih =>
  intro a
  have h0:Lx.bl (x :: r)=0:=Lx.bl_not hb
  obtain⟨us,h1,h2⟩:=ih (a+m)
  have h3:=Lx.Toks.cons (l:=x :: r) (a:=a) (x:=x) (r:=r) (ts:=us) (by rw[h0];rfl) (by rw[hf]) (by rw[h0,hf];exact h1)
  rw[hf] at h3
  exact⟨_,h3,by rw[List.map_cons,h2];rfl⟩
theorem Lz.lex {l:Bs} {ts:List Tk} (h:Lz l ts) (hl:l.length≤16384):(Lx.lex l).err=0∧(Lx.lex l).toks.map z=ts:=by
 obtain⟨us,h1,h2⟩:=h.toks 0
 rw[Lx.toks_lex hl h1]
 exact⟨rfl,h2⟩
def Sep (c:Bs):Prop:=∀b r,c=b :: r→Lx.isW b=false∧b≠39
theorem sep_nil:Sep []:=fun _ _ h=>by cases h
theorem wsz_sep:∀(l c:Bs),Sep c→Lx.wsz (l++c)=Lx.wsz l
 | [],c,h=>by
  cases c with
  | nil=>rfl
  | cons b r=>show Lx.wsz (b :: r)=0;rw[Lx.wsz,if_neg (by rw[(h b r rfl).1];decide)]
 | x :: r,c,h=>by rw[List.cons_append,Lx.wsz,Lx.wsz,wsz_sep r c h]
theorem take_left (a c:Bs):(a++c).take a.length=a:=by rw[List.take_append_of_le_length (Nat.le_refl _),List.take_length]
theorem frst_word {x:UInt8} {r c:Bs} (hL:Lx.isL x.toNat=true) (hw:Lx.wsz (x :: r)=(x :: r).length) (hs:Sep c):Lx.frst (x :: (r++c))=if Lx.isKey (x :: r) then ⟨0,2,Lx.great (x :: r),0,(x :: r).length⟩ else if 64<(x :: r).length then Lx.no 13 else ⟨0,1,x :: r,0,(x :: r).length⟩:=by
 have h1:Lx.wsz (x :: (r++c))=(x :: r).length:=by rw[←hw];exact wsz_sep (x :: r) c hs
 have h2:(x :: (r++c)).take (x :: r).length=x :: r:=take_left (x :: r) c
 rw[Lx.frst,if_pos hL,Lx.word,h1,h2]
theorem Lz.of {a c:Bs} {ts:List Tk} {k:Nat} {t:Bs} {n:Int} {x:UInt8} {r:Bs} (ha:a=x :: r) (hb:¬(x=32∨x=9∨x=10∨x=13)) (hf:Lx.frst (x :: (r++c))=⟨0,k,t,n,a.length⟩) (h:Lz c ts):Lz (a++c) (⟨k,t,n,0⟩ :: ts):=by
 subst ha
 refine .tok hb hf ?_
 have e:(x :: (r++c)).drop (x :: r).length=c:=by rw[←List.cons_append,List.drop_left]
 exact e.symm ▸ h
theorem nm_word {t:Bs} (h:isNm t=true):∃x r,t=x :: r∧Lx.isL x.toNat=true∧Lx.wsz t=t.length∧Lx.isKey t=false∧t.length≤64:=by
 rw[isNm,Lx.shw] at h
 split at h
 ·cases h
 split at h
 ·rename_i h1 h2
  have hw:Lx.wr 1 t 0=t:=by rw[Lx.wr,if_neg (by decide),if_neg (by decide)]
  rw[hw] at h2
  obtain⟨h3,h4⟩:=Lx.lex_toks (l:=t) (by rw[h2])
  rw[h2] at h4
  obtain⟨_,_,_,⟨x,r,he,ek,et,_,e0⟩,_⟩:=Lx.toks_at h4 0 _ rfl
  have e1:x :: r=t:=by rw[e0];rfl
  subst e1
  have ek2:(Lx.frst (x :: r)).kind=1:=ek.symm
  have et2:(Lx.frst (x :: r)).text=x :: r:=et.symm
  clear ek et h4 h3 h2 hw h1 h e0
  rw[Lx.frst] at he ek2 et2
  by_cases hL:Lx.isL x.toNat
  ·rw[if_pos hL] at he ek2 et2
   rw[Lx.word] at he ek2 et2
   by_cases hk:Lx.isKey ((x :: r).take (Lx.wsz (x :: r)))=true
   ·rw[if_pos hk] at ek2;cases ek2
   ·rw[if_neg hk] at he ek2 et2
    by_cases h64:64<Lx.wsz (x :: r)
    ·rw[if_pos h64] at ek2;cases ek2
    ·rw[if_neg h64] at et2
     have e2:(x :: r).take (Lx.wsz (x :: r))=x :: r:=et2
     have e3:=congrArg List.length e2
     rw[List.length_take] at e3
     have e4:=Lx.wsz_le (x :: r)
     rw[e2] at hk
     exact⟨x,r,rfl,hL,by omega,by simpa using hk,by omega⟩
  ·rw[if_neg hL] at he ek2 et2
   exfalso
   by_cases hD:Lx.isD x.toNat
   ·rw[if_pos hD,Lx.numb] at ek2
    split at ek2<;>cases ek2
   ·rw[if_neg hD] at ek2
    by_cases h39:x=39
    ·rw[if_pos h39,Lx.text] at ek2
     split at ek2
     ·rw[Lx.tok] at ek2
      split at ek2
      ·cases ek2
      ·split at ek2<;>cases ek2
     ·cases ek2
    ·rw[if_neg h39] at ek2
     split at ek2<;>cases ek2
 ·cases h
theorem l_not {x:UInt8} (h:Lx.isL x.toNat=true):¬(x=32∨x=9∨x=10∨x=13):=Lx.w_not x (by rw[Lx.isW,h];rfl)
theorem Lz.name {t c:Bs} {ts:List Tk} (ht:isNm t=true) (hs:Sep c) (h:Lz c ts):Lz (t++c) (wd t :: ts):=by
 obtain⟨x,r,rfl,hL,hw,hk,h64⟩:=nm_word ht
 refine Lz.of rfl (l_not hL) ?_ h
 rw[frst_word hL hw hs,hk,if_neg (by decide),if_neg (by omega)]
theorem Lz.key {t c:Bs} {ts:List Tk} (hk:Lx.isKey t=true) (hL:∃x r,t=x :: r∧Lx.isL x.toNat=true) (hw:Lx.wsz t=t.length) (hs:Sep c) (h:Lz c ts):Lz (t++c) (ky (Lx.great t) :: ts):=by
 obtain⟨x,r,rfl,hL⟩:=hL
 refine Lz.of rfl (l_not hL) ?_ h
 rw[frst_word hL hw hs,if_pos hk]
theorem sgn_plain {x:UInt8} (c:Bs) (h1:x≠60) (h2:x≠62) (h3:Lx.signs.contains x=true):Lx.sgn (x :: c)=1:=by
 have hp:∀a b,(a=60∨a=62)→Lx.pre2 a b (x :: c)=false:=fun a b h=>by
  cases c with
  | nil=>rfl
  | cons y r =>
   show(x==a && y==b)=false
   have:(x==a)=false:=by
    rw[beq_eq_false_iff_ne]
    rcases h with rfl | rfl
    ·exact h1
    ·exact h2
   rw[this];rfl
 rw[Lx.sgn,hp 60 62 (.inl rfl),hp 60 61 (.inl rfl),hp 62 61 (.inr rfl),if_neg (by decide),if_pos h3]
theorem Lz.sign {x:UInt8} {c:Bs} {ts:List Tk} (h1:x≠60) (h2:x≠62) (h3:Lx.signs.contains x=true) (hL:Lx.isL x.toNat=false) (hD:Lx.isD x.toNat=false) (h39:x≠39) (h:Lz c ts):Lz (x :: c) (sg [x] :: ts):=by
 refine Lz.of (a:=[x]) rfl (Lx.s_not x h3) ?_ h
 have hs:=sgn_plain c h1 h2 h3
 rw[List.nil_append,Lx.frst,hL,hD,if_neg (by decide),if_neg (by decide),if_neg h39,hs,if_pos (by decide),Lx.sign,hs]
 rfl
theorem Lz.op {k:Nat} (hk:12≤k∧k≤22) {c:Bs} {ts:List Tk} (h:Lz c ts):Lz (opTx k++32 :: c) ((if k≤20 then sg (opTx k) else ky (opTx k)) :: ts):=by
 have key:∀(x:UInt8) (r:Bs) (kk:Nat) (t:Bs),¬(x=32∨x=9∨x=10∨x=13)→Lx.frst (x :: r)=⟨0,kk,t,0,(x :: r).length⟩→Lz ((x :: r)++32 :: c) (⟨kk,t,0,0⟩ :: ts):=fun x r kk t hb hf=>by
  refine Lz.of rfl hb ?_ (.blank h)
  rw[Lx.frst_app c (by rw[hf]),hf]
 obtain⟨h1,h2⟩:=hk
 obtain rfl | rfl | rfl | rfl | rfl | rfl | rfl | rfl | rfl | rfl | rfl:k=12∨k=13∨k=14∨k=15∨k=16∨k=17∨k=18∨k=19∨k=20∨k=21∨k=22:=by omega
 ·exact key 43 [] 5 [43] (by decide) rfl
 ·exact key 45 [] 5 [45] (by decide) rfl
 ·exact key 42 [] 5 [42] (by decide) rfl
 ·exact key 61 [] 5 [61] (by decide) rfl
 ·exact key 60 [62] 5 [60,62] (by decide) rfl
 ·exact key 60 [] 5 [60] (by decide) rfl
 ·exact key 60 [61] 5 [60,61] (by decide) rfl
 ·exact key 62 [] 5 [62] (by decide) rfl
 ·exact key 62 [61] 5 [62,61] (by decide) rfl
 ·exact key 65 [78,68] 2 [65,78,68] (by decide) rfl
 ·exact key 79 [82] 2 [79,82] (by decide) rfl
theorem dec_facts:∀m:Nat,Lx.allD (Lib.decDigits m)=true∧Lx.dv 0 (Lib.decDigits m)=m∧∃x r,Lib.decDigits m=x :: r:=by
 intro m
 induction m using Nat.strongRecOn with
 | _ m ih =>
  by_cases h:m<10
  ·have e:Lib.decDigits m=[UInt8.ofNat (48+m)]:=Lib.decDigits_one h
   have e2:(UInt8.ofNat (48+m)).toNat=48+m:=UInt8.toNat_ofNat_of_lt' (by show 48+m<256;omega)
   rw[e]
   refine⟨(Lx.allD_cons _ _).2 ⟨by rw[e2];omega,rfl⟩,?_,_,_,rfl⟩
   rw[Lx.dv_cons,Lx.dv_nil,e2]
   omega
  ·obtain⟨h1,h2,x,r,h3⟩:=ih (m / 10) (by omega)
   have e:Lib.decDigits m=Lib.decDigits (m / 10)++[UInt8.ofNat (48+m % 10)]:=by
    conv=>lhs;rw[Lib.decDigits]
    rw[dif_neg h]
   have e2:(UInt8.ofNat (48+m % 10)).toNat=48+m % 10:=UInt8.toNat_ofNat_of_lt' (by show 48+m % 10<256;omega)
   rw[e]
   refine⟨?_,?_,x,r++[UInt8.ofNat (48+m % 10)],by rw[h3];rfl⟩
   ·rw[Lx.allD,List.all_append,Bool.and_eq_true]
    exact⟨h1,by rw[List.all_cons,e2,Bool.and_eq_true,Lx.isD_iff];exact⟨by omega,rfl⟩⟩
   ·rw[Lx.dv_snoc,h2,e2]
    omega
theorem wsz_D:∀l:Bs,Lx.allD l=true→Lx.wsz l=l.length
 | [],_=>rfl
 | b :: r,h=>by
  obtain⟨h1,h2⟩:=(Lx.allD_cons b r).1 h
  rw[Lx.wsz,if_pos (by rw[Lx.isW,(Lx.isD_iff _).2 h1,Bool.or_true]),wsz_D r h2]
  rfl
theorem d_not_L (x:UInt8):Lx.isD x.toNat=true→Lx.isL x.toNat=false:=Lx.byte_all (P:=fun x=>Lx.isD x.toNat=true→Lx.isL x.toNat=false) (by decide +kernel) x
theorem Lz.num {n:Int} (h0:0≤n) (h1:n≤9223372036854775807) {c:Bs} {ts:List Tk} (hs:Sep c) (h:Lz c ts):Lz (Lib.itoa n++c) (nb n :: ts):=by
 obtain⟨m,rfl⟩:=Int.eq_ofNat_of_zero_le h0
 have hi:Lib.itoa (m:Int)=Lib.decDigits m:=Lib.itoa_nonneg m
 obtain⟨h2,h3,x,r,h4⟩:=dec_facts m
 have hz:r=[]∨x≠48:=by
  by_cases hx:x=48
  ·subst hx;exact .inl (Lx.dec_head m m (Nat.le_refl _) r h4)
  ·exact .inr hx
 rw[h4] at h2 h3
 have hD:Lx.isD x.toNat=true:=(Lx.isD_iff _).2 ((Lx.allD_cons x r).1 h2).1
 have hn:Lx.numOf (x :: r)=some (m:Int):=by
  have:=Lx.int_of x r hD
  rw[if_pos ⟨h2,by omega,hz⟩,h3] at this
  exact this
 rw[hi,h4]
 refine Lz.of rfl (Lx.w_not x (by rw[Lx.isW,hD,Bool.or_true])) ?_ h
 have e1:Lx.wsz (x :: (r++c))=(x :: r).length:=(wsz_sep (x :: r) c hs).trans (wsz_D _ h2)
 have e2:(x :: (r++c)).take (x :: r).length=x :: r:=take_left (x :: r) c
 rw[Lx.frst,d_not_L x hD,if_neg (by decide),if_pos hD,Lx.numb,e1,e2,hn]
theorem quo_sep (c:Bs) (hs:Sep c):∀t:Bs,Lx.quo (Lx.dbl t++39 :: c)=some (t,(Lx.dbl t).length+1)
 | []=>by
  show Lx.quo (39 :: c)=_
  rw[Lx.quo_end (fun b hb=>by
   cases c with
   | nil=>cases hb
   | cons y r =>
    have e:y=b:=by simpa using hb
    rw[←e]
    exact(hs y r rfl).2)]
  rfl
 | b :: r=>by
  by_cases h:b=39
  ·subst h
   rw[Lx.dbl,if_pos rfl,List.cons_append,List.cons_append,Lx.quo_twice,quo_sep c hs r]
   simp
  ·rw[Lx.dbl,if_neg h,List.cons_append,Lx.quo_plain h,quo_sep c hs r]
   simp
theorem frst_tx {t c:Bs} (hl:t.length≤1024) (hv:Lib.validD t=true) (hs:Sep c):Lx.frst (39 :: (Lx.dbl t++39 :: c))=⟨0,4,t,0,(Lx.dbl t).length+2⟩:=by
 rw[Lx.frst,if_neg (by decide),if_neg (by decide),if_pos rfl,Lx.text]
 simp only[List.drop_succ_cons,List.drop_zero]
 rw[quo_sep c hs]
 simp only
 rw[Lx.tok,if_neg (by omega),if_neg (by rw[hv];decide)]
theorem shw_text {t:Bs} (hl:t.length≤1024) (hv:Lib.validD t=true):(Lx.shw 4 t 0).getD []=39 :: (Lx.dbl t++[39]):=by
 have hw:Lx.wr 4 t 0=39 :: (Lx.dbl t++[39]):=by rw[Lx.wr,if_neg (by decide),if_pos rfl];rfl
 have hd:=Lx.dbl_len t
 have hf:Lx.frst (39 :: (Lx.dbl t++[39]))=⟨0,4,t,0,(39 :: (Lx.dbl t++[39])).length⟩:=by
  rw[frst_tx (c:=[]) hl hv sep_nil,List.length_cons,List.length_append]
  rfl
 rw[Lx.shw,if_neg (by omega),hw,Lx.one_tok (Lx.bl_not (by decide)) hf (by rw[List.length_cons,List.length_append];show _+1+1≤_;omega),if_pos rfl]
 rfl
theorem Lz.text {t c:Bs} {ts:List Tk} (hl:t.length≤1024) (hv:Lib.validD t=true) (hs:Sep c) (h:Lz c ts):Lz ((Lx.shw 4 t 0).getD []++c) (tt t :: ts):=by
 rw[shw_text hl hv]
 refine Lz.of rfl (by decide) ?_ h
 have e:Lx.dbl t++[39]++c=Lx.dbl t++39 :: c:=by rw[List.append_assoc];rfl
 rw[e,frst_tx hl hv hs,List.length_cons,List.length_append]
 rfl
theorem digs_allD:∀l:Bs,digs l=true→Lx.allD l=true
 | [],_=>rfl
 | b :: r,h=>by
  rw[digs,Bool.and_eq_true,decide_eq_true_iff] at h
  exact(Lx.allD_cons b r).2 ⟨h.1,digs_allD r h.2⟩
theorem numv_dv:∀(l:Bs) (a:Nat),numv a l=Lx.dv a l
 | [],_=>rfl
 | b :: r,a=>by
  have h1:numv a (b :: r)=numv (a*10+(b.toNat - 48)) r:=rfl
  rw[h1,numv_dv r,Lx.dv_cons]
theorem nb_itoa {p:Bs} (h:isNb p=true):Lib.itoa (numv 0 p:Nat)=p∧numv 0 p≤9223372036854775807:=by
 cases p with
 | nil=>cases h
 | cons b r =>
  rw[isNb,Bool.and_eq_true,Bool.and_eq_true,decide_eq_true_iff,Bool.or_eq_true,decide_eq_true_iff] at h
  obtain⟨⟨h1,h2⟩,h3⟩:=h
  refine⟨?_,by omega⟩
  rw[Lib.itoa_nonneg,numv_dv]
  refine Lx.dec_of (digs_allD _ h1) ?_
  rcases h3 with h3 | h3
  ·exact .inr h3
  ·exact .inl (List.isEmpty_iff.1 h3)
def pk (p:Bs):Tk:=if isNm p then wd p else nb (numv 0 p:Nat)
theorem Lz.comma {c:Bs} {ts:List Tk} (h:Lz c ts):Lz (44 :: c) (sg [44] :: ts):=.sign (by decide) (by decide) rfl rfl rfl (by decide) h
end Ps
end Go.Proofs.YtfhkaffakniioaaGreatDoor
