/- Several texts, joined. -/
import Derived.Test.YtfhkaffakniioaaGreatDoorPsHM
set_option maxHeartbeats 4000000
set_option maxRecDepth 100000
namespace Go.Proofs.YtfhkaffakniioaaGreatDoor
open Go.RowKit
namespace Ps
attribute [local go_sem] zaR
section
variable {W0:World} {pb:Nat} {W:World} {s:S} {sb:Option Nat} {F:S→S} {m:Nat}
theorem SR.made {w:World} {g:Nat} {C:Array Value} {t:TypeId} {l:List Bs} (h:w.heap[g]?=some (.cells C t (0,0))) (hc:∀(j:Nat) (x:Bs),l[j]?=some x→C[j]?=some (Value.string (Lx.bs x))):SR w (some ⟨g,0,none⟩) l:=fun j x hx =>
 ⟨g,0,rfl,by rw[Nat.zero_add,cell_of_row _ _ _ _ _ _ h];exact hc j x hx⟩
theorem ors_of (hF:∀s,Less s (F s)) (HC:DoesP W0 pb 138 F m) (hO:HasO W0):DoesP W0 pb 106 (row F [[79,82]]) m:=by
 intro W s sb h hm
 obtain⟨w1,hw1⟩:∃w1,w1=W.alloc (.cells #[.string ⟨#[79,82]⟩] 9):=⟨_,rfl⟩
 obtain⟨T,hT⟩:∃T,T=W.heap.size:=⟨_,rfl⟩
 have X1:Hid (w1.heap[T]?=some (.cells #[.string ⟨#[79,82]⟩] 9 (0,0))∧Below W.heap.size W w1):=⟨by rw[hw1,hT];exact heap_alloc_new W _,by rw[hw1];exact bnew _ _⟩
 have CR:Hid (Calls Tryz.prog 137 #[.pointer (some ⟨pb,0,none⟩),.func (.func 138) #[.pointer (some ⟨pb,0,none⟩)] #[],.slice (some ⟨T,0,none⟩) 1 1] w1 fun e W'=>e=.returned (.tuple #[])∧PG W0 pb W sb (row F [[79,82]] s) W'):=by
  have h1:=h.call X1.out.2
  have hne:=h.ne (R:=T) (by rw[hT];exact Nat.le_refl _)
  refine(row_ands (ts:=[[79,82]]) hF HC hO h1 hm (SR.made X1.out.1 (fun j x hx=>by
   have hj:j<1:=(List.getElem?_eq_some_iff.1 hx).1
   obtain rfl:j=0:=by omega
   cases hx
   rfl)) rfl (by decide) (fun g o e=>by cases e;exact hne)).mono ?_
  rintro e W' ⟨rfl,q⟩
  exact⟨rfl,q.pre X1.out.2⟩
 clear h hm HC hO hF
 go_enter Tryz.func106,Tryz.ntmps106
 go_wp2_with fail
 rw[←hw1,←hT]
 refine(CR.out).mono ?_
 rintro e w2 ⟨rfl,hg⟩
 have G:Hid (PG W0 pb W sb (row F [[79,82]] s) w2):=hg
 clear hg
 go_wp2
 exact bodyPost_end (results_none (by rfl) _ _ _) rfl ⟨rfl,G.out⟩
theorem ands_of (hF:∀s,Less s (F s)) (HC:DoesP W0 pb 163 F m) (hO:HasO W0):DoesP W0 pb 138 (row F [[65,78,68]]) m:=by
 intro W s sb h hm
 obtain⟨w1,hw1⟩:∃w1,w1=W.alloc (.cells #[.string ⟨#[65,78,68]⟩] 9):=⟨_,rfl⟩
 obtain⟨T,hT⟩:∃T,T=W.heap.size:=⟨_,rfl⟩
 have X1:Hid (w1.heap[T]?=some (.cells #[.string ⟨#[65,78,68]⟩] 9 (0,0))∧Below W.heap.size W w1):=⟨by rw[hw1,hT];exact heap_alloc_new W _,by rw[hw1];exact bnew _ _⟩
 have CR:Hid (Calls Tryz.prog 137 #[.pointer (some ⟨pb,0,none⟩),.func (.func 163) #[.pointer (some ⟨pb,0,none⟩)] #[],.slice (some ⟨T,0,none⟩) 1 1] w1 fun e W'=>e=.returned (.tuple #[])∧PG W0 pb W sb (row F [[65,78,68]] s) W'):=by
  have h1:=h.call X1.out.2
  have hne:=h.ne (R:=T) (by rw[hT];exact Nat.le_refl _)
  refine(row_not (ts:=[[65,78,68]]) hF HC hO h1 hm (SR.made X1.out.1 (fun j x hx=>by
   have hj:j<1:=(List.getElem?_eq_some_iff.1 hx).1
   obtain rfl:j=0:=by omega
   cases hx
   rfl)) rfl (by decide) (fun g o e=>by cases e;exact hne)).mono ?_
  rintro e W' ⟨rfl,q⟩
  exact⟨rfl,q.pre X1.out.2⟩
 clear h hm HC hO hF
 go_enter Tryz.func138,Tryz.ntmps138
 go_wp2_with fail
 rw[←hw1,←hT]
 refine(CR.out).mono ?_
 rintro e w2 ⟨rfl,hg⟩
 have G:Hid (PG W0 pb W sb (row F [[65,78,68]] s) w2):=hg
 clear hg
 go_wp2
 exact bodyPost_end (results_none (by rfl) _ _ _) rfl ⟨rfl,G.out⟩
theorem sum_of (hF:∀s,Less s (F s)) (HC:DoesP W0 pb 196 F m) (hO:HasO W0):DoesP W0 pb 194 (row F [[43],[45]]) m:=by
 intro W s sb h hm
 obtain⟨w1,hw1⟩:∃w1,w1=W.alloc (.cells #[.string ⟨#[43]⟩,.string ⟨#[45]⟩] 9):=⟨_,rfl⟩
 obtain⟨T,hT⟩:∃T,T=W.heap.size:=⟨_,rfl⟩
 have X1:Hid (w1.heap[T]?=some (.cells #[.string ⟨#[43]⟩,.string ⟨#[45]⟩] 9 (0,0))∧Below W.heap.size W w1):=⟨by rw[hw1,hT];exact heap_alloc_new W _,by rw[hw1];exact bnew _ _⟩
 have CR:Hid (Calls Tryz.prog 137 #[.pointer (some ⟨pb,0,none⟩),.func (.func 196) #[.pointer (some ⟨pb,0,none⟩)] #[],.slice (some ⟨T,0,none⟩) 2 2] w1 fun e W'=>e=.returned (.tuple #[])∧PG W0 pb W sb (row F [[43],[45]] s) W'):=by
  have h1:=h.call X1.out.2
  have hne:=h.ne (R:=T) (by rw[hT];exact Nat.le_refl _)
  refine(row_product (ts:=[[43],[45]]) hF HC hO h1 hm (SR.made X1.out.1 (fun j x hx=>by
   have hj:j<2:=(List.getElem?_eq_some_iff.1 hx).1
   rcases(by omega:j=0∨j=1) with rfl | rfl
   ·cases hx;rfl
   ·cases hx;rfl)) rfl (by decide) (fun g o e=>by cases e;exact hne)).mono ?_
  rintro e W' ⟨rfl,q⟩
  exact⟨rfl,q.pre X1.out.2⟩
 clear h hm HC hO hF
 go_enter Tryz.func194,Tryz.ntmps194
 go_wp2_with fail
 rw[←hw1,←hT]
 refine(CR.out).mono ?_
 rintro e w2 ⟨rfl,hg⟩
 have G:Hid (PG W0 pb W sb (row F [[43],[45]] s) w2):=hg
 clear hg
 go_wp2
 exact bodyPost_end (results_none (by rfl) _ _ _) rfl ⟨rfl,G.out⟩
theorem product_of (hF:∀s,Less s (F s)) (HC:DoesP W0 pb 197 F m) (hO:HasO W0):DoesP W0 pb 196 (row F [[42]]) m:=by
 intro W s sb h hm
 obtain⟨w1,hw1⟩:∃w1,w1=W.alloc (.cells #[.string ⟨#[42]⟩] 9):=⟨_,rfl⟩
 obtain⟨T,hT⟩:∃T,T=W.heap.size:=⟨_,rfl⟩
 have X1:Hid (w1.heap[T]?=some (.cells #[.string ⟨#[42]⟩] 9 (0,0))∧Below W.heap.size W w1):=⟨by rw[hw1,hT];exact heap_alloc_new W _,by rw[hw1];exact bnew _ _⟩
 have CR:Hid (Calls Tryz.prog 137 #[.pointer (some ⟨pb,0,none⟩),.func (.func 197) #[.pointer (some ⟨pb,0,none⟩)] #[],.slice (some ⟨T,0,none⟩) 1 1] w1 fun e W'=>e=.returned (.tuple #[])∧PG W0 pb W sb (row F [[42]] s) W'):=by
  have h1:=h.call X1.out.2
  have hne:=h.ne (R:=T) (by rw[hT];exact Nat.le_refl _)
  refine(row_signed (ts:=[[42]]) hF HC hO h1 hm (SR.made X1.out.1 (fun j x hx=>by
   have hj:j<1:=(List.getElem?_eq_some_iff.1 hx).1
   obtain rfl:j=0:=by omega
   cases hx
   rfl)) rfl (by decide) (fun g o e=>by cases e;exact hne)).mono ?_
  rintro e W' ⟨rfl,q⟩
  exact⟨rfl,q.pre X1.out.2⟩
 clear h hm HC hO hF
 go_enter Tryz.func196,Tryz.ntmps196
 go_wp2_with fail
 rw[←hw1,←hT]
 refine(CR.out).mono ?_
 rintro e w2 ⟨rfl,hg⟩
 have G:Hid (PG W0 pb W sb (row F [[42]] s) w2):=hg
 clear hg
 go_wp2
 exact bodyPost_end (results_none (by rfl) _ _ _) rfl ⟨rfl,G.out⟩
theorem nest_not (HC:DoesP W0 pb 163 F m) (hA:∀s,(F s).around=s.around) (h:PS W0 W pb s sb) (hne:s.rest≠[]) (hm:s.rest.length≤m+1) :
  Calls Tryz.prog 185 #[.pointer (some ⟨pb,0,none⟩),.func (.func 163) #[.pointer (some ⟨pb,0,none⟩)] #[]] W fun e W'=>e=.returned (.tuple #[])∧PG W0 pb W sb (nest F s) W':=by
 have HP:Hid (PS W0 W pb s sb):=h
 have HK:Hid (DoesP W0 pb 163 F m):=HC
 obtain⟨ra,rc,sv,H,p0,p1,p2,p3,p4,p5,p6,pf⟩:=h.cells
 have hpl:=h.blt
 by_cases h16:s.around=16
 ·have q:((s.around:Int)==16)=true:=by rw[h16];rfl
  have CF:Hid (Calls Tryz.prog 77 #[.pointer (some ⟨pb,0,none⟩),.int .i64 10] W fun en W'=>en=.returned (.tuple #[])∧Hid (PG W0 pb W sb (fail 10 s) W')):=fail_c h 10
  have HE:Hid (nest F s=fail 10 s):=by show _=_;rw[nest,if_pos h16]
  clear h16 h hne hm HC hA H p0 p1 p2 p3 p4 p6 pf
  go_enter Tryz.func185,Tryz.ntmps185
  go_wp2_with (go_at_call 77;refine(CF.out).mono ?_;rintro en w2 ⟨rfl,G2⟩)
  exact bodyPost_ret (v:=.tuple #[]) (results_none (by rfl) _ _ _) rfl ⟨rfl,by rw[HE.out];exact G2.out⟩
 ·have q:((s.around:Int)==16)=false:=by simp;omega
  have q':¬((s.around:Int)=16):=by omega
  obtain⟨ar,har⟩:∃ar,ar=s.around:=⟨_,rfl⟩
  have HAR:Hid (ar=s.around∧ar≤15):=⟨har,by have:=h.around;omega⟩
  have HN:Hid ((next s).rest.length≤m∧(next s).around=ar):=by
   have:=zaA hne
   refine⟨by omega,?_⟩
   rw[(zaH s).around,har]
  have HLM:Hid ((next s).steps.length+(next s).rest.length+1≤20000):=by
   have:=(zaA hne).2
   have:=h.lim
   show _≤_
   omega
  have HE:Hid (nest F s={ F { next s with around:=ar+1 } with around:=ar }):=by show _=_;rw[nest,if_neg h16,har]
  obtain⟨ar1,har1⟩:∃ar1,ar1=ar+1:=⟨_,rfl⟩
  have HAR1:Hid (ar1=ar+1):=har1
  rw[←har1] at HE
  have HV:Hid ((IntKind.i64.wrap ((ar:Int)+1)=(ar1:Int)∧wrap64 ((ar:Int)+1)=(ar1:Int))∧(IntKind.i64.wrap ((ar1:Int) - 1)=(ar:Int)∧wrap64 ((ar1:Int) - 1)=(ar:Int))):=⟨wrp (by omega) (by have:=HAR.out;omega),wrp (by omega) (by have:=HAR.out;omega)⟩
  have HAF:Hid (∀s,(F s).around=s.around):=hA
  have CN:Hid (Calls Tryz.prog 103 #[.pointer (some ⟨pb,0,none⟩)] W fun e W''=>e=.returned (tv (nextT s))∧Hid (PG W0 pb W sb (next s) W'')):=next_c h fun _=>hne
  rw[←har] at p5 q q'
  clear h16 h hne hm HC hA H p0 p1 p2 p3 p4 p6 pf har har1
  go_enter Tryz.func185,Tryz.ntmps185
  go_wp2_with fail
  refine(CN.out).mono ?_
  rintro e w2 ⟨rfl,G2⟩
  obtain⟨sb2,k1,k2⟩:=G2.out
  have HK1:Hid (PS W0 w2 pb (next s) sb2∧PCh pb W sb w2 sb2):=⟨k1,k2⟩
  obtain⟨ra2,rc2,sv2,H2,_,_,_,_,_,r5,_,rf⟩:=k1.cells
  have hpl2:=k1.blt
  rw[HN.out.2] at r5
  obtain⟨c1,c2⟩:=k1.set (i:=5) (v:=.int .i64 (ar1:Int)) (s':={ next s with around:=ar1 }) rfl rfl (by have:=HAR.out;have:=HAR1.out;show ar1≤16;omega) k1.nums (fun _ _ _=>rfl)
  have HC1:Hid (PS W0 (w2.setCell ⟨pb,5,none⟩ (.int .i64 (ar1:Int))) pb { next s with around:=ar1 } sb2∧PCh pb W sb (w2.setCell ⟨pb,5,none⟩ (.int .i64 (ar1:Int))) sb2):=⟨c1,k2.trans c2⟩
  clear k1 k2 c1 c2 H2 p5 q q' CN
  obtain⟨⟨v1,v2⟩,-⟩:=HV.out
  go_wp2_with fail
  clear v1 v2
  obtain⟨w3,hw3⟩:∃w3,w3=w2.setCell ⟨pb,5,none⟩ (.int .i64 (ar1:Int)):=⟨_,rfl⟩
  rw[←hw3] at HC1 ⊢
  clear hw3 r5 rf hpl2
  have CI:Hid (Calls Tryz.prog 163 #[.pointer (some ⟨pb,0,none⟩)] w3 fun e W''=>e=.returned (.tuple #[])∧Hid (PG W0 pb w3 sb2 (F { next s with around:=ar1 }) W'')):=HK.out w3 { next s with around:=ar1 } sb2 HC1.out.1 (HN.out.1)
  refine(CI.out).mono ?_
  rintro e w4 ⟨rfl,G4⟩
  obtain⟨sb4,k1,k2⟩:=G4.out
  obtain⟨ra4,rc4,sv4,H4,_,_,_,_,_,r5,_,rf⟩:=k1.cells
  have hpl4:=k1.blt
  have ha4:(F { next s with around:=ar1 }).around=ar1:=HAF.out _
  rw[ha4] at r5
  obtain⟨c1,c2⟩:=k1.set (i:=5) (v:=.int .i64 (ar:Int)) (s':={ F { next s with around:=ar1 } with around:=ar }) rfl rfl (by have:=HAR.out;show ar≤16;omega) k1.nums (fun _ _ _=>rfl)
  have HC2:Hid (PG W0 pb W sb (nest F s) (w4.setCell ⟨pb,5,none⟩ (.int .i64 (ar:Int)))):=by
   show PG _ _ _ _ _ _
   rw[HE.out]
   exact⟨sb4,c1,(HC1.out.2.trans k2).trans c2⟩
  clear k1 k2 c1 c2 H4 ha4
  obtain⟨-,v1,v2⟩:=HV.out
  go_wp2
  exact bodyPost_end (results_none (by rfl) _ _ _) rfl ⟨rfl,HC2.out⟩
theorem nest_signed (HC:DoesP W0 pb 197 F m) (hA:∀s,(F s).around=s.around) (h:PS W0 W pb s sb) (hne:s.rest≠[]) (hm:s.rest.length≤m+1) :
  Calls Tryz.prog 185 #[.pointer (some ⟨pb,0,none⟩),.func (.func 197) #[.pointer (some ⟨pb,0,none⟩)] #[]] W fun e W'=>e=.returned (.tuple #[])∧PG W0 pb W sb (nest F s) W':=by
 have HP:Hid (PS W0 W pb s sb):=h
 have HK:Hid (DoesP W0 pb 197 F m):=HC
 obtain⟨ra,rc,sv,H,p0,p1,p2,p3,p4,p5,p6,pf⟩:=h.cells
 have hpl:=h.blt
 by_cases h16:s.around=16
 ·have q:((s.around:Int)==16)=true:=by rw[h16];rfl
  have CF:Hid (Calls Tryz.prog 77 #[.pointer (some ⟨pb,0,none⟩),.int .i64 10] W fun en W'=>en=.returned (.tuple #[])∧Hid (PG W0 pb W sb (fail 10 s) W')):=fail_c h 10
  have HE:Hid (nest F s=fail 10 s):=by show _=_;rw[nest,if_pos h16]
  clear h16 h hne hm HC hA H p0 p1 p2 p3 p4 p6 pf
  go_enter Tryz.func185,Tryz.ntmps185
  go_wp2_with (go_at_call 77;refine(CF.out).mono ?_;rintro en w2 ⟨rfl,G2⟩)
  exact bodyPost_ret (v:=.tuple #[]) (results_none (by rfl) _ _ _) rfl ⟨rfl,by rw[HE.out];exact G2.out⟩
 ·have q:((s.around:Int)==16)=false:=by simp;omega
  have q':¬((s.around:Int)=16):=by omega
  obtain⟨ar,har⟩:∃ar,ar=s.around:=⟨_,rfl⟩
  have HAR:Hid (ar=s.around∧ar≤15):=⟨har,by have:=h.around;omega⟩
  have HN:Hid ((next s).rest.length≤m∧(next s).around=ar):=by
   have:=zaA hne
   refine⟨by omega,?_⟩
   rw[(zaH s).around,har]
  have HLM:Hid ((next s).steps.length+(next s).rest.length+1≤20000):=by
   have:=(zaA hne).2
   have:=h.lim
   show _≤_
   omega
  have HE:Hid (nest F s={ F { next s with around:=ar+1 } with around:=ar }):=by show _=_;rw[nest,if_neg h16,har]
  obtain⟨ar1,har1⟩:∃ar1,ar1=ar+1:=⟨_,rfl⟩
  have HAR1:Hid (ar1=ar+1):=har1
  rw[←har1] at HE
  have HV:Hid ((IntKind.i64.wrap ((ar:Int)+1)=(ar1:Int)∧wrap64 ((ar:Int)+1)=(ar1:Int))∧(IntKind.i64.wrap ((ar1:Int) - 1)=(ar:Int)∧wrap64 ((ar1:Int) - 1)=(ar:Int))):=⟨wrp (by omega) (by have:=HAR.out;omega),wrp (by omega) (by have:=HAR.out;omega)⟩
  have HAF:Hid (∀s,(F s).around=s.around):=hA
  have CN:Hid (Calls Tryz.prog 103 #[.pointer (some ⟨pb,0,none⟩)] W fun e W''=>e=.returned (tv (nextT s))∧Hid (PG W0 pb W sb (next s) W'')):=next_c h fun _=>hne
  rw[←har] at p5 q q'
  clear h16 h hne hm HC hA H p0 p1 p2 p3 p4 p6 pf har har1
  go_enter Tryz.func185,Tryz.ntmps185
  go_wp2_with fail
  refine(CN.out).mono ?_
  rintro e w2 ⟨rfl,G2⟩
  obtain⟨sb2,k1,k2⟩:=G2.out
  have HK1:Hid (PS W0 w2 pb (next s) sb2∧PCh pb W sb w2 sb2):=⟨k1,k2⟩
  obtain⟨ra2,rc2,sv2,H2,_,_,_,_,_,r5,_,rf⟩:=k1.cells
  have hpl2:=k1.blt
  rw[HN.out.2] at r5
  obtain⟨c1,c2⟩:=k1.set (i:=5) (v:=.int .i64 (ar1:Int)) (s':={ next s with around:=ar1 }) rfl rfl (by have:=HAR.out;have:=HAR1.out;show ar1≤16;omega) k1.nums (fun _ _ _=>rfl)
  have HC1:Hid (PS W0 (w2.setCell ⟨pb,5,none⟩ (.int .i64 (ar1:Int))) pb { next s with around:=ar1 } sb2∧PCh pb W sb (w2.setCell ⟨pb,5,none⟩ (.int .i64 (ar1:Int))) sb2):=⟨c1,k2.trans c2⟩
  clear k1 k2 c1 c2 H2 p5 q q' CN
  obtain⟨⟨v1,v2⟩,-⟩:=HV.out
  go_wp2_with fail
  clear v1 v2
  obtain⟨w3,hw3⟩:∃w3,w3=w2.setCell ⟨pb,5,none⟩ (.int .i64 (ar1:Int)):=⟨_,rfl⟩
  rw[←hw3] at HC1 ⊢
  clear hw3 r5 rf hpl2
  have CI:Hid (Calls Tryz.prog 197 #[.pointer (some ⟨pb,0,none⟩)] w3 fun e W''=>e=.returned (.tuple #[])∧Hid (PG W0 pb w3 sb2 (F { next s with around:=ar1 }) W'')):=HK.out w3 { next s with around:=ar1 } sb2 HC1.out.1 (HN.out.1)
  refine(CI.out).mono ?_
  rintro e w4 ⟨rfl,G4⟩
  obtain⟨sb4,k1,k2⟩:=G4.out
  obtain⟨ra4,rc4,sv4,H4,_,_,_,_,_,r5,_,rf⟩:=k1.cells
  have hpl4:=k1.blt
  have ha4:(F { next s with around:=ar1 }).around=ar1:=HAF.out _
  rw[ha4] at r5
  obtain⟨c1,c2⟩:=k1.set (i:=5) (v:=.int .i64 (ar:Int)) (s':={ F { next s with around:=ar1 } with around:=ar }) rfl rfl (by have:=HAR.out;show ar≤16;omega) k1.nums (fun _ _ _=>rfl)
  have HC2:Hid (PG W0 pb W sb (nest F s) (w4.setCell ⟨pb,5,none⟩ (.int .i64 (ar:Int)))):=by
   show PG _ _ _ _ _ _
   rw[HE.out]
   exact⟨sb4,c1,(HC1.out.2.trans k2).trans c2⟩
  clear k1 k2 c1 c2 H4 ha4
  obtain⟨-,v1,v2⟩:=HV.out
  go_wp2
  exact bodyPost_end (results_none (by rfl) _ _ _) rfl ⟨rfl,HC2.out⟩
def DoesQ (W0:World) (pb K:Nat) (F:S→S) (m:Nat):Prop:=∀(W:World) (s:S) (sb:Option Nat),PS W0 W pb s sb→s.steps.length+s.rest.length+1≤20000→s.rest.length≤m→Calls Tryz.prog K #[.pointer (some ⟨pb,0,none⟩)] W fun e W'=>e=.returned (.tuple #[])∧PG W0 pb W sb (F s) W'
theorem nest_list (HC:DoesQ W0 pb 201 F m) (hA:∀s,(F s).around=s.around) (h:PS W0 W pb s sb) (hne:s.rest≠[]) (hm:s.rest.length≤m+1) :
  Calls Tryz.prog 185 #[.pointer (some ⟨pb,0,none⟩),.func (.func 201) #[.pointer (some ⟨pb,0,none⟩)] #[]] W fun e W'=>e=.returned (.tuple #[])∧PG W0 pb W sb (nest F s) W':=by
 have HP:Hid (PS W0 W pb s sb):=h
 have HK:Hid (DoesQ W0 pb 201 F m):=HC
 obtain⟨ra,rc,sv,H,p0,p1,p2,p3,p4,p5,p6,pf⟩:=h.cells
 have hpl:=h.blt
 by_cases h16:s.around=16
 ·have q:((s.around:Int)==16)=true:=by rw[h16];rfl
  have CF:Hid (Calls Tryz.prog 77 #[.pointer (some ⟨pb,0,none⟩),.int .i64 10] W fun en W'=>en=.returned (.tuple #[])∧Hid (PG W0 pb W sb (fail 10 s) W')):=fail_c h 10
  have HE:Hid (nest F s=fail 10 s):=by show _=_;rw[nest,if_pos h16]
  clear h16 h hne hm HC hA H p0 p1 p2 p3 p4 p6 pf
  go_enter Tryz.func185,Tryz.ntmps185
  go_wp2_with (go_at_call 77;refine(CF.out).mono ?_;rintro en w2 ⟨rfl,G2⟩)
  exact bodyPost_ret (v:=.tuple #[]) (results_none (by rfl) _ _ _) rfl ⟨rfl,by rw[HE.out];exact G2.out⟩
 ·have q:((s.around:Int)==16)=false:=by simp;omega
  have q':¬((s.around:Int)=16):=by omega
  obtain⟨ar,har⟩:∃ar,ar=s.around:=⟨_,rfl⟩
  have HAR:Hid (ar=s.around∧ar≤15):=⟨har,by have:=h.around;omega⟩
  have HN:Hid ((next s).rest.length≤m∧(next s).around=ar):=by
   have:=zaA hne
   refine⟨by omega,?_⟩
   rw[(zaH s).around,har]
  have HLM:Hid ((next s).steps.length+(next s).rest.length+1≤20000):=by
   have:=(zaA hne).2
   have:=h.lim
   show _≤_
   omega
  have HE:Hid (nest F s={ F { next s with around:=ar+1 } with around:=ar }):=by show _=_;rw[nest,if_neg h16,har]
  obtain⟨ar1,har1⟩:∃ar1,ar1=ar+1:=⟨_,rfl⟩
  have HAR1:Hid (ar1=ar+1):=har1
  rw[←har1] at HE
  have HV:Hid ((IntKind.i64.wrap ((ar:Int)+1)=(ar1:Int)∧wrap64 ((ar:Int)+1)=(ar1:Int))∧(IntKind.i64.wrap ((ar1:Int) - 1)=(ar:Int)∧wrap64 ((ar1:Int) - 1)=(ar:Int))):=⟨wrp (by omega) (by have:=HAR.out;omega),wrp (by omega) (by have:=HAR.out;omega)⟩
  have HAF:Hid (∀s,(F s).around=s.around):=hA
  have CN:Hid (Calls Tryz.prog 103 #[.pointer (some ⟨pb,0,none⟩)] W fun e W''=>e=.returned (tv (nextT s))∧Hid (PG W0 pb W sb (next s) W'')):=next_c h fun _=>hne
  rw[←har] at p5 q q'
  clear h16 h hne hm HC hA H p0 p1 p2 p3 p4 p6 pf har har1
  go_enter Tryz.func185,Tryz.ntmps185
  go_wp2_with fail
  refine(CN.out).mono ?_
  rintro e w2 ⟨rfl,G2⟩
  obtain⟨sb2,k1,k2⟩:=G2.out
  have HK1:Hid (PS W0 w2 pb (next s) sb2∧PCh pb W sb w2 sb2):=⟨k1,k2⟩
  obtain⟨ra2,rc2,sv2,H2,_,_,_,_,_,r5,_,rf⟩:=k1.cells
  have hpl2:=k1.blt
  rw[HN.out.2] at r5
  obtain⟨c1,c2⟩:=k1.set (i:=5) (v:=.int .i64 (ar1:Int)) (s':={ next s with around:=ar1 }) rfl rfl (by have:=HAR.out;have:=HAR1.out;show ar1≤16;omega) k1.nums (fun _ _ _=>rfl)
  have HC1:Hid (PS W0 (w2.setCell ⟨pb,5,none⟩ (.int .i64 (ar1:Int))) pb { next s with around:=ar1 } sb2∧PCh pb W sb (w2.setCell ⟨pb,5,none⟩ (.int .i64 (ar1:Int))) sb2):=⟨c1,k2.trans c2⟩
  clear k1 k2 c1 c2 H2 p5 q q' CN
  obtain⟨⟨v1,v2⟩,-⟩:=HV.out
  go_wp2_with fail
  clear v1 v2
  obtain⟨w3,hw3⟩:∃w3,w3=w2.setCell ⟨pb,5,none⟩ (.int .i64 (ar1:Int)):=⟨_,rfl⟩
  rw[←hw3] at HC1 ⊢
  clear hw3 r5 rf hpl2
  have CI:Hid (Calls Tryz.prog 201 #[.pointer (some ⟨pb,0,none⟩)] w3 fun e W''=>e=.returned (.tuple #[])∧Hid (PG W0 pb w3 sb2 (F { next s with around:=ar1 }) W'')):=HK.out w3 { next s with around:=ar1 } sb2 HC1.out.1 HLM.out (HN.out.1)
  refine(CI.out).mono ?_
  rintro e w4 ⟨rfl,G4⟩
  obtain⟨sb4,k1,k2⟩:=G4.out
  obtain⟨ra4,rc4,sv4,H4,_,_,_,_,_,r5,_,rf⟩:=k1.cells
  have hpl4:=k1.blt
  have ha4:(F { next s with around:=ar1 }).around=ar1:=HAF.out _
  rw[ha4] at r5
  obtain⟨c1,c2⟩:=k1.set (i:=5) (v:=.int .i64 (ar:Int)) (s':={ F { next s with around:=ar1 } with around:=ar }) rfl rfl (by have:=HAR.out;show ar≤16;omega) k1.nums (fun _ _ _=>rfl)
  have HC2:Hid (PG W0 pb W sb (nest F s) (w4.setCell ⟨pb,5,none⟩ (.int .i64 (ar:Int)))):=by
   show PG _ _ _ _ _ _
   rw[HE.out]
   exact⟨sb4,c1,(HC1.out.2.trans k2).trans c2⟩
  clear k1 k2 c1 c2 H4 ha4
  obtain⟨-,v1,v2⟩:=HV.out
  go_wp2
  exact bodyPost_end (results_none (by rfl) _ _ _) rfl ⟨rfl,HC2.out⟩
theorem nest_fields (HC:DoesQ W0 pb 202 F m) (hA:∀s,(F s).around=s.around) (h:PS W0 W pb s sb) (hne:s.rest≠[]) (hm:s.rest.length≤m+1) :
  Calls Tryz.prog 185 #[.pointer (some ⟨pb,0,none⟩),.func (.func 202) #[.pointer (some ⟨pb,0,none⟩)] #[]] W fun e W'=>e=.returned (.tuple #[])∧PG W0 pb W sb (nest F s) W':=by
 have HP:Hid (PS W0 W pb s sb):=h
 have HK:Hid (DoesQ W0 pb 202 F m):=HC
 obtain⟨ra,rc,sv,H,p0,p1,p2,p3,p4,p5,p6,pf⟩:=h.cells
 have hpl:=h.blt
 by_cases h16:s.around=16
 ·have q:((s.around:Int)==16)=true:=by rw[h16];rfl
  have CF:Hid (Calls Tryz.prog 77 #[.pointer (some ⟨pb,0,none⟩),.int .i64 10] W fun en W'=>en=.returned (.tuple #[])∧Hid (PG W0 pb W sb (fail 10 s) W')):=fail_c h 10
  have HE:Hid (nest F s=fail 10 s):=by show _=_;rw[nest,if_pos h16]
  clear h16 h hne hm HC hA H p0 p1 p2 p3 p4 p6 pf
  go_enter Tryz.func185,Tryz.ntmps185
  go_wp2_with (go_at_call 77;refine(CF.out).mono ?_;rintro en w2 ⟨rfl,G2⟩)
  exact bodyPost_ret (v:=.tuple #[]) (results_none (by rfl) _ _ _) rfl ⟨rfl,by rw[HE.out];exact G2.out⟩
 ·have q:((s.around:Int)==16)=false:=by simp;omega
  have q':¬((s.around:Int)=16):=by omega
  obtain⟨ar,har⟩:∃ar,ar=s.around:=⟨_,rfl⟩
  have HAR:Hid (ar=s.around∧ar≤15):=⟨har,by have:=h.around;omega⟩
  have HN:Hid ((next s).rest.length≤m∧(next s).around=ar):=by
   have:=zaA hne
   refine⟨by omega,?_⟩
   rw[(zaH s).around,har]
  have HLM:Hid ((next s).steps.length+(next s).rest.length+1≤20000):=by
   have:=(zaA hne).2
   have:=h.lim
   show _≤_
   omega
  have HE:Hid (nest F s={ F { next s with around:=ar+1 } with around:=ar }):=by show _=_;rw[nest,if_neg h16,har]
  obtain⟨ar1,har1⟩:∃ar1,ar1=ar+1:=⟨_,rfl⟩
  have HAR1:Hid (ar1=ar+1):=har1
  rw[←har1] at HE
  have HV:Hid ((IntKind.i64.wrap ((ar:Int)+1)=(ar1:Int)∧wrap64 ((ar:Int)+1)=(ar1:Int))∧(IntKind.i64.wrap ((ar1:Int) - 1)=(ar:Int)∧wrap64 ((ar1:Int) - 1)=(ar:Int))):=⟨wrp (by omega) (by have:=HAR.out;omega),wrp (by omega) (by have:=HAR.out;omega)⟩
  have HAF:Hid (∀s,(F s).around=s.around):=hA
  have CN:Hid (Calls Tryz.prog 103 #[.pointer (some ⟨pb,0,none⟩)] W fun e W''=>e=.returned (tv (nextT s))∧Hid (PG W0 pb W sb (next s) W'')):=next_c h fun _=>hne
  rw[←har] at p5 q q'
  clear h16 h hne hm HC hA H p0 p1 p2 p3 p4 p6 pf har har1
  go_enter Tryz.func185,Tryz.ntmps185
  go_wp2_with fail
  refine(CN.out).mono ?_
  rintro e w2 ⟨rfl,G2⟩
  obtain⟨sb2,k1,k2⟩:=G2.out
  have HK1:Hid (PS W0 w2 pb (next s) sb2∧PCh pb W sb w2 sb2):=⟨k1,k2⟩
  obtain⟨ra2,rc2,sv2,H2,_,_,_,_,_,r5,_,rf⟩:=k1.cells
  have hpl2:=k1.blt
  rw[HN.out.2] at r5
  obtain⟨c1,c2⟩:=k1.set (i:=5) (v:=.int .i64 (ar1:Int)) (s':={ next s with around:=ar1 }) rfl rfl (by have:=HAR.out;have:=HAR1.out;show ar1≤16;omega) k1.nums (fun _ _ _=>rfl)
  have HC1:Hid (PS W0 (w2.setCell ⟨pb,5,none⟩ (.int .i64 (ar1:Int))) pb { next s with around:=ar1 } sb2∧PCh pb W sb (w2.setCell ⟨pb,5,none⟩ (.int .i64 (ar1:Int))) sb2):=⟨c1,k2.trans c2⟩
  clear k1 k2 c1 c2 H2 p5 q q' CN
  obtain⟨⟨v1,v2⟩,-⟩:=HV.out
  go_wp2_with fail
  clear v1 v2
  obtain⟨w3,hw3⟩:∃w3,w3=w2.setCell ⟨pb,5,none⟩ (.int .i64 (ar1:Int)):=⟨_,rfl⟩
  rw[←hw3] at HC1 ⊢
  clear hw3 r5 rf hpl2
  have CI:Hid (Calls Tryz.prog 202 #[.pointer (some ⟨pb,0,none⟩)] w3 fun e W''=>e=.returned (.tuple #[])∧Hid (PG W0 pb w3 sb2 (F { next s with around:=ar1 }) W'')):=HK.out w3 { next s with around:=ar1 } sb2 HC1.out.1 HLM.out (HN.out.1)
  refine(CI.out).mono ?_
  rintro e w4 ⟨rfl,G4⟩
  obtain⟨sb4,k1,k2⟩:=G4.out
  obtain⟨ra4,rc4,sv4,H4,_,_,_,_,_,r5,_,rf⟩:=k1.cells
  have hpl4:=k1.blt
  have ha4:(F { next s with around:=ar1 }).around=ar1:=HAF.out _
  rw[ha4] at r5
  obtain⟨c1,c2⟩:=k1.set (i:=5) (v:=.int .i64 (ar:Int)) (s':={ F { next s with around:=ar1 } with around:=ar }) rfl rfl (by have:=HAR.out;show ar≤16;omega) k1.nums (fun _ _ _=>rfl)
  have HC2:Hid (PG W0 pb W sb (nest F s) (w4.setCell ⟨pb,5,none⟩ (.int .i64 (ar:Int)))):=by
   show PG _ _ _ _ _ _
   rw[HE.out]
   exact⟨sb4,c1,(HC1.out.2.trans k2).trans c2⟩
  clear k1 k2 c1 c2 H4 ha4
  obtain⟨-,v1,v2⟩:=HV.out
  go_wp2
  exact bodyPost_end (results_none (by rfl) _ _ _) rfl ⟨rfl,HC2.out⟩
def DoesB (W0:World) (pb K bx:Nat) (F:S→S) (m:Nat):Prop:=∀(W:World) (s:S) (sb:Option Nat),PS W0 W pb s sb→W.heap[bx]?=some (.cells #[.pointer (some ⟨pb,0,none⟩)] 99 (0,0))→s.rest.length≤m→Calls Tryz.prog K #[.pointer (some ⟨bx,0,none⟩)] W fun e W'=>e=.returned (.tuple #[])∧PG W0 pb W sb (F s) W'
theorem nest_closed {bx:Nat} (hbx:W.heap[bx]?=some (.cells #[.pointer (some ⟨pb,0,none⟩)] 99 (0,0))∧bx≠pb∧sb≠some bx) (HC:DoesB W0 pb 200 bx F m) (hA:∀s,(F s).around=s.around) (h:PS W0 W pb s sb) (hne:s.rest≠[]) (hm:s.rest.length≤m+1) :
  Calls Tryz.prog 185 #[.pointer (some ⟨pb,0,none⟩),.func (.func 200) #[] #[.pointer (some ⟨bx,0,none⟩)]] W fun e W'=>e=.returned (.tuple #[])∧PG W0 pb W sb (nest F s) W':=by
 have HP:Hid (PS W0 W pb s sb):=h
 have HK:Hid (DoesB W0 pb 200 bx F m):=HC
 have HBX:Hid (W.heap[bx]?=some (.cells #[.pointer (some ⟨pb,0,none⟩)] 99 (0,0))∧bx≠pb∧sb≠some bx):=hbx
 clear hbx
 obtain⟨ra,rc,sv,H,p0,p1,p2,p3,p4,p5,p6,pf⟩:=h.cells
 have hpl:=h.blt
 by_cases h16:s.around=16
 ·have q:((s.around:Int)==16)=true:=by rw[h16];rfl
  have CF:Hid (Calls Tryz.prog 77 #[.pointer (some ⟨pb,0,none⟩),.int .i64 10] W fun en W'=>en=.returned (.tuple #[])∧Hid (PG W0 pb W sb (fail 10 s) W')):=fail_c h 10
  have HE:Hid (nest F s=fail 10 s):=by show _=_;rw[nest,if_pos h16]
  clear h16 h hne hm HC hA H p0 p1 p2 p3 p4 p6 pf
  go_enter Tryz.func185,Tryz.ntmps185
  go_wp2_with (go_at_call 77;refine(CF.out).mono ?_;rintro en w2 ⟨rfl,G2⟩)
  exact bodyPost_ret (v:=.tuple #[]) (results_none (by rfl) _ _ _) rfl ⟨rfl,by rw[HE.out];exact G2.out⟩
 ·have q:((s.around:Int)==16)=false:=by simp;omega
  have q':¬((s.around:Int)=16):=by omega
  obtain⟨ar,har⟩:∃ar,ar=s.around:=⟨_,rfl⟩
  have HAR:Hid (ar=s.around∧ar≤15):=⟨har,by have:=h.around;omega⟩
  have HN:Hid ((next s).rest.length≤m∧(next s).around=ar):=by
   have:=zaA hne
   refine⟨by omega,?_⟩
   rw[(zaH s).around,har]
  have HLM:Hid ((next s).steps.length+(next s).rest.length+1≤20000):=by
   have:=(zaA hne).2
   have:=h.lim
   show _≤_
   omega
  have HE:Hid (nest F s={ F { next s with around:=ar+1 } with around:=ar }):=by show _=_;rw[nest,if_neg h16,har]
  obtain⟨ar1,har1⟩:∃ar1,ar1=ar+1:=⟨_,rfl⟩
  have HAR1:Hid (ar1=ar+1):=har1
  rw[←har1] at HE
  have HV:Hid ((IntKind.i64.wrap ((ar:Int)+1)=(ar1:Int)∧wrap64 ((ar:Int)+1)=(ar1:Int))∧(IntKind.i64.wrap ((ar1:Int) - 1)=(ar:Int)∧wrap64 ((ar1:Int) - 1)=(ar:Int))):=⟨wrp (by omega) (by have:=HAR.out;omega),wrp (by omega) (by have:=HAR.out;omega)⟩
  have HAF:Hid (∀s,(F s).around=s.around):=hA
  have CN:Hid (Calls Tryz.prog 103 #[.pointer (some ⟨pb,0,none⟩)] W fun e W''=>e=.returned (tv (nextT s))∧Hid (PG W0 pb W sb (next s) W'')):=next_c h fun _=>hne
  rw[←har] at p5 q q'
  clear h16 h hne hm HC hA H p0 p1 p2 p3 p4 p6 pf har har1
  go_enter Tryz.func185,Tryz.ntmps185
  go_wp2_with fail
  refine(CN.out).mono ?_
  rintro e w2 ⟨rfl,G2⟩
  obtain⟨sb2,k1,k2⟩:=G2.out
  have HK1:Hid (PS W0 w2 pb (next s) sb2∧PCh pb W sb w2 sb2):=⟨k1,k2⟩
  obtain⟨ra2,rc2,sv2,H2,_,_,_,_,_,r5,_,rf⟩:=k1.cells
  have hpl2:=k1.blt
  rw[HN.out.2] at r5
  obtain⟨c1,c2⟩:=k1.set (i:=5) (v:=.int .i64 (ar1:Int)) (s':={ next s with around:=ar1 }) rfl rfl (by have:=HAR.out;have:=HAR1.out;show ar1≤16;omega) k1.nums (fun _ _ _=>rfl)
  have HC1:Hid (PS W0 (w2.setCell ⟨pb,5,none⟩ (.int .i64 (ar1:Int))) pb { next s with around:=ar1 } sb2∧PCh pb W sb (w2.setCell ⟨pb,5,none⟩ (.int .i64 (ar1:Int))) sb2):=⟨c1,k2.trans c2⟩
  clear k1 k2 c1 c2 H2 p5 q q' CN
  obtain⟨⟨v1,v2⟩,-⟩:=HV.out
  go_wp2_with fail
  clear v1 v2
  obtain⟨w3,hw3⟩:∃w3,w3=w2.setCell ⟨pb,5,none⟩ (.int .i64 (ar1:Int)):=⟨_,rfl⟩
  rw[←hw3] at HC1 ⊢
  clear hw3 r5 rf hpl2
  have HB3:Hid (w3.heap[bx]?=some (.cells #[.pointer (some ⟨pb,0,none⟩)] 99 (0,0))):=(HC1.out.2.kept.block bx (row_lt HBX.out.1) fun q=>q.elim HBX.out.2.1 HBX.out.2.2).trans HBX.out.1
  have CI:Hid (Calls Tryz.prog 200 #[.pointer (some ⟨bx,0,none⟩)] w3 fun e W''=>e=.returned (.tuple #[])∧Hid (PG W0 pb w3 sb2 (F { next s with around:=ar1 }) W'')):=HK.out w3 { next s with around:=ar1 } sb2 HC1.out.1 HB3.out (HN.out.1)
  refine(CI.out).mono ?_
  rintro e w4 ⟨rfl,G4⟩
  obtain⟨sb4,k1,k2⟩:=G4.out
  obtain⟨ra4,rc4,sv4,H4,_,_,_,_,_,r5,_,rf⟩:=k1.cells
  have hpl4:=k1.blt
  have ha4:(F { next s with around:=ar1 }).around=ar1:=HAF.out _
  rw[ha4] at r5
  obtain⟨c1,c2⟩:=k1.set (i:=5) (v:=.int .i64 (ar:Int)) (s':={ F { next s with around:=ar1 } with around:=ar }) rfl rfl (by have:=HAR.out;show ar≤16;omega) k1.nums (fun _ _ _=>rfl)
  have HC2:Hid (PG W0 pb W sb (nest F s) (w4.setCell ⟨pb,5,none⟩ (.int .i64 (ar:Int)))):=by
   show PG _ _ _ _ _ _
   rw[HE.out]
   exact⟨sb4,c1,(HC1.out.2.trans k2).trans c2⟩
  clear k1 k2 c1 c2 H4 ha4
  obtain⟨-,v1,v2⟩:=HV.out
  go_wp2
  exact bodyPost_end (results_none (by rfl) _ _ _) rfl ⟨rfl,HC2.out⟩
end
end Ps
end Go.Proofs.YtfhkaffakniioaaGreatDoor
