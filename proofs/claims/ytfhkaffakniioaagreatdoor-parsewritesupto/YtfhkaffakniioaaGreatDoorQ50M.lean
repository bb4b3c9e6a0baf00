/- Several texts, joined. -/
import Derived.Test.YtfhkaffakniioaaGreatDoorQ13M
import Derived.Test.YtfhkaffakniioaaGreatDoorQ01M
import Derived.Lib.ParseIntB
import Derived.Lib.ItoaMem
namespace Go.Proofs.YtfhkaffakniioaaGreatDoor.Lx
theorem wsz_app:∀(l b:Bs),wsz (l++32 :: b)=wsz l
 | [],b=>by show wsz (32 :: b)=0;rw[wsz,if_neg (by decide)]
 | x :: r,b=>by rw[List.cons_append,wsz,wsz,wsz_app r b]
theorem quo_app (b:Bs):∀(n:Nat) (r:Bs),r.length≤n→∀p,quo r=some p→quo (r++32 :: b)=some p:=by
 intro n
 induction n with
 | zero =>
  intro r hr p h
  have:r=[]:=List.eq_nil_of_length_eq_zero (by omega)
  subst this
  rw[quo] at h
  cases h
 | succ n ih =>
  intro r hr p h
  match r,hr,h with
  | [],_,h=>rw[quo] at h;cases h
  | x :: r,hr,h =>
   by_cases hx:x=39
   ·subst hx
    match r,hr,h with
    | [],_,h =>
     rw[List.cons_append,List.nil_append,quo_end (fun c hc=>by simp at hc;rw[←hc];decide)]
     rw[quo_end (fun c hc=>by simp at hc)] at h
     exact h
    | y :: r,hr,h =>
     by_cases hy:y=39
     ·subst hy
      rw[quo_twice] at h
      obtain⟨q,h1,h2⟩:=Option.map_eq_some_iff.1 h
      rw[List.cons_append,List.cons_append,quo_twice,ih r (by simp at hr;omega) q h1]
      exact congrArg some h2
     ·rw[quo_end (fun c hc=>by simp at hc;rw[←hc];exact hy)] at h
      rw[List.cons_append,List.cons_append,quo_end (fun c hc=>by simp at hc;rw[←hc];exact hy)]
      exact h
   ·rw[quo_plain hx] at h
    obtain⟨q,h1,h2⟩:=Option.map_eq_some_iff.1 h
    rw[List.cons_append,quo_plain hx,ih r (by simp at hr;omega) q h1]
    exact congrArg some h2
theorem sgn_app (x:UInt8) (r b:Bs):sgn (x :: (r++32 :: b))=sgn (x :: r):=by
 cases r with
 | nil =>
  rw[sgn_one,List.nil_append,sgn]
  have h:∀a c:UInt8,(c==32)=false→pre2 a c (x :: 32 :: b)=false:=fun a c hc=>by
   show(x==a && (32:UInt8)==c)=false
   have:((32:UInt8)==c)=false:=by rw[beq_eq_false_iff_ne] at hc ⊢;exact fun e=>hc e.symm
   rw[this,Bool.and_false]
  rw[h 60 62 rfl,h 60 61 rfl,h 62 61 rfl]
  rfl
 | cons y r=>rfl
theorem take_app {l b:Bs} {k:Nat} (h:k≤l.length):(l++b).take k=l.take k:=List.take_append_of_le_length h
theorem frst_app {x:UInt8} {r:Bs} (b:Bs) (he:(frst (x :: r)).err=0):frst (x :: (r++32 :: b))=frst (x :: r):=by
 have hw:=wsz_le (x :: r)
 have hwa:wsz (x :: (r++32 :: b))=wsz (x :: r):=wsz_app (x :: r) b
 have hta:(x :: (r++32 :: b)).take (wsz (x :: r))=(x :: r).take (wsz (x :: r)):=by
  rw[←List.cons_append];exact take_app hw
 rw[frst] at he
 rw[frst,frst]
 by_cases h1:isL x.toNat
 ·rw[if_pos h1,if_pos h1,word,word,hwa,hta]
 ·rw[if_neg h1,if_neg h1]
  rw[if_neg h1] at he
  by_cases h2:isD x.toNat
  ·rw[if_pos h2,if_pos h2,numb,numb,hwa,hta]
  ·rw[if_neg h2,if_neg h2]
   rw[if_neg h2] at he
   by_cases h3:x=39
   ·rw[if_pos h3,if_pos h3]
    rw[if_pos h3] at he
    rw[text] at he
    rw[text,text]
    simp only[List.drop_succ_cons,List.drop_zero] at he ⊢
    cases hq:quo r with
    | none=>rw[hq] at he;cases he
    | some p=>rw[quo_app b _ r (Nat.le_refl _) p hq]
   ·rw[if_neg h3,if_neg h3,sgn_app]
    by_cases h4:0<sgn (x :: r)
    ·rw[if_pos h4,if_pos h4,sign,sign,sgn_app]
     congr 1
     have hs:sgn (x :: r)≤(x :: r).length:=by
      obtain⟨y,q,e1,_,_,_,_⟩:=sgn_key h4
      rw[sgn]
      cases r with
      | nil=>simp[pre2];split<;>omega
      | cons y r=>simp;split<;>(try split)<;>omega
     rw[←List.cons_append];exact take_app hs
    ·rw[if_neg h4,if_neg h4]
end Go.Proofs.YtfhkaffakniioaaGreatDoor.Lx
namespace Go.Proofs.YtfhkaffakniioaaGreatDoor.Lx
def st (acc:Nat) (c:UInt8):Nat:=acc*10+(c.toNat - 48)
def dv (acc:Nat) (l:Bs):Nat:=l.foldl st acc
theorem dv_nil (acc:Nat):dv acc []=acc:=rfl
theorem dv_cons (acc:Nat) (c:UInt8) (r:Bs):dv acc (c :: r)=dv (acc*10+(c.toNat - 48)) r:=by
 rw[dv,List.foldl_cons,←dv,st]
def allD (l:Bs):Bool:=l.all fun b=>isD b.toNat
theorem isD_iff (b:Nat):isD b=true ↔ 48≤b∧b≤57:=by simp[isD]
theorem allD_cons (c:UInt8) (r:Bs):allD (c :: r)=true ↔ (48≤c.toNat∧c.toNat≤57)∧allD r=true:=by
 rw[allD,List.all_cons,Bool.and_eq_true,isD_iff];exact Iff.rfl
theorem dv_snoc:∀(l:Bs) (acc:Nat) (c:UInt8),dv acc (l++[c])=dv acc l*10+(c.toNat - 48)
 | [],acc,c=>by rw[List.nil_append,dv_cons,dv_nil,dv_nil]
 | b :: r,acc,c=>by rw[List.cons_append,dv_cons,dv_snoc r,dv_cons]
theorem dv_ge:∀(l:Bs) (acc:Nat),acc≤dv acc l
 | [],acc=>Nat.le_refl _
 | c :: r,acc=>by rw[dv_cons];have:=dv_ge r (acc*10+(c.toNat - 48));omega
theorem dv_take_le:∀(l:Bs) (acc k:Nat),dv acc (l.take k)≤dv acc l
 | l,acc,0=>by rw[List.take_zero];exact dv_ge l acc
 | [],acc,k+1=>Nat.le_refl _
 | c :: r,acc,k+1=>by rw[List.take_succ_cons,dv_cons,dv_cons];exact dv_take_le r _ k
theorem uintM_ok (M:Nat):∀(l:Bs) (acc u:Nat),Lib.parseUintM M acc l=.ok u→allD l=true∧u=dv acc l
 | [],acc,u,h=>by
  rw[Lib.parseUintM] at h
  cases h
  exact⟨rfl,rfl⟩
 | c :: r,acc,u,h=>by
  rw[Lib.parseUintM] at h
  by_cases h1:48≤c.toNat∧c.toNat≤57
  ·rw[if_pos h1] at h
   by_cases h2:1844674407370955162≤acc
   ·rw[if_pos h2] at h;cases h
   ·rw[if_neg h2] at h
    by_cases h3:M<acc*10+(c.toNat - 48)
    ·rw[if_pos h3] at h;cases h
    ·rw[if_neg h3] at h
     obtain⟨h4,h5⟩:=uintM_ok M r _ u h
     exact⟨(allD_cons c r).2 ⟨h1,h4⟩,h5⟩
  ·rw[if_neg h1] at h;cases h
theorem uintM_of:∀(l:Bs) (acc:Nat),allD l=true→dv acc l≤18446744073709551615→Lib.parseUintM 18446744073709551615 acc l=.ok (dv acc l)
 | [],acc,_,_=>rfl
 | c :: r,acc,h,hm=>by
  obtain⟨h1,h2⟩:=(allD_cons c r).1 h
  rw[dv_cons] at hm
  have h3:=dv_ge r (acc*10+(c.toNat - 48))
  rw[Lib.parseUintM,if_pos h1,if_neg (by omega),if_neg (by omega),uintM_of r _ h2 hm,dv_cons]
theorem dec_big {a d:Nat} (h:0<a) (hd:d<10):Lib.decDigits (a*10+d)=Lib.decDigits a++[UInt8.ofNat (48+d)]:=by
 rw[Lib.decDigits,dif_neg (by omega)]
 rw[show(a*10+d) / 10=a by omega,show(a*10+d) % 10=d by omega]
theorem back8 {c:UInt8} (h:48≤c.toNat):UInt8.ofNat (48+(c.toNat - 48))=c:=by
 rw[show 48+(c.toNat - 48)=c.toNat by omega]
 simp
theorem dec_dv:∀(r:Bs) (a:Nat),0<a→allD r=true→Lib.decDigits (dv a r)=Lib.decDigits a++r
 | [],a,_,_=>by rw[dv_nil,List.append_nil]
 | c :: r,a,ha,h=>by
  obtain⟨h1,h2⟩:=(allD_cons c r).1 h
  rw[dv_cons,dec_dv r _ (by omega) h2,dec_big ha (by omega),back8 h1.1,List.append_assoc]
  rfl
theorem dec_of {x:UInt8} {r:Bs} (h:allD (x :: r)=true) (hz:r=[]∨x≠48):Lib.decDigits (dv 0 (x :: r))=x :: r:=by
 obtain⟨h1,h2⟩:=(allD_cons x r).1 h
 have e1:Lib.decDigits (x.toNat - 48)=[x]:=by
  rw[Lib.decDigits,dif_pos (by omega),back8 h1.1]
 rw[dv_cons,Nat.zero_mul,Nat.zero_add]
 rcases hz with rfl | hz
 ·exact e1
 ·have:x.toNat≠48:=fun e=>hz (by rw[←UInt8.toNat_inj];exact e)
  rw[dec_dv r _ (by omega) h2,e1]
  rfl
theorem dec_head:∀(n u:Nat),u≤n→∀r,Lib.decDigits u=(48:UInt8) :: r→r=[]
 | n,u,hn,r,h=>by
  rw[Lib.decDigits] at h
  by_cases hu:u<10
  ·rw[dif_pos hu] at h
   exact(List.cons.inj h).2.symm
  ·rw[dif_neg hu] at h
   cases n with
   | zero=>omega
   | succ n =>
    cases hd:Lib.decDigits (u / 10) with
    | nil =>
     have h1:=Lib.decDigits_length (u / 10)
     rw[hd] at h1
     have h2:=Lib.nDigits_pos (u / 10)
     simp at h1
     omega
    | cons c t =>
     rw[hd] at h
     simp only[List.cons_append,List.cons.injEq] at h
     obtain⟨rfl,h3⟩:=h
     have ht:=dec_head n (u / 10) (by omega) t hd
     subst ht
     -- the digits of u / 10 are a nought alone: u / 10 is 0
     have h4:u / 10<10:=by
      have h5:=Lib.decDigits_length (u / 10)
      rw[hd] at h5
      simp at h5
      refine Nat.lt_of_not_le fun hge=>?_
      rw[Lib.nDigits_big (by omega)] at h5
      have:=Lib.nDigits_pos (u / 10 / 10)
      omega
     rw[Lib.decDigits,dif_pos h4] at hd
     simp only[List.cons.injEq,and_true] at hd
     have h6:=congrArg UInt8.toNat hd
     rw[UInt8.toNat_ofNat_of_lt' (by show 48+u / 10<256;omega)] at h6
     have h7:(48:UInt8).toNat=48:=rfl
     omega
theorem int_of (x:UInt8) (r:Bs) (hx:isD x.toNat=true):(match Lib.parseIntB 64 (x :: r) with
  | .ok v=>if Lib.itoa v=x :: r then some v else none
  | _=>none)=if allD (x :: r)=true∧dv 0 (x :: r)≤9223372036854775807∧(r=[]∨x≠48) then some ((dv 0 (x :: r):Nat):Int) else none:=by
 have hx1:=(isD_iff _).1 hx
 have e1:Lib.parseIntB 64 (x :: r)=match Lib.parseUintM 18446744073709551615 0 (x :: r) with
  | .syntax=>.syntax
  | .range=>.range
  | .ok u=>if 9223372036854775808≤u then .range else .ok (u:Int):=by
  rw[Lib.parseIntB]
  rw[if_neg (by omega),Lib.parseUintB,if_neg (by simp)]
  have hn:¬x.toNat=45:=by omega
  simp only[hn,not_false_eq_true,true_and,false_and,if_false]
  rfl
 rw[e1]
 by_cases hc:allD (x :: r)=true∧dv 0 (x :: r)≤9223372036854775807∧(r=[]∨x≠48)
 ·obtain⟨h1,h2,h3⟩:=hc
  rw[if_pos ⟨h1,h2,h3⟩,uintM_of _ _ h1 (by omega)]
  simp only
  rw[if_neg (by omega)]
  simp only
  rw[Lib.itoa_nonneg,dec_of h1 h3,if_pos rfl]
 ·rw[if_neg hc]
  cases hu:Lib.parseUintM 18446744073709551615 0 (x :: r) with
  | «syntax»=>rfl
  | range=>rfl
  | ok u =>
   obtain⟨h1,rfl⟩:=uintM_ok _ _ _ _ hu
   simp only
   by_cases h2:9223372036854775808≤dv 0 (x :: r)
   ·rw[if_pos h2]
   ·rw[if_neg h2]
    simp only
    rw[if_neg]
    intro h3
    rw[Lib.itoa_nonneg] at h3
    refine hc ⟨h1,by omega,?_⟩
    by_cases h4:x=48
    ·subst h4
     exact Or.inl (dec_head _ _ (Nat.le_refl _) _ h3)
    ·exact Or.inr h4
end Go.Proofs.YtfhkaffakniioaaGreatDoor.Lx
