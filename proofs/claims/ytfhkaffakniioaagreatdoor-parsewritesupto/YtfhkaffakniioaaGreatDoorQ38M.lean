/- Several texts, joined. -/
import Derived.Test.YtfhkaffakniioaaGreatDoorPrKM
import Derived.Test.YtfhkaffakniioaaGreatDoorPrVM
import Derived.Test.YtfhkaffakniioaaGreatDoorQ24M
import Derived.Test.YtfhkaffakniioaaGreatDoorQ14M
set_option maxHeartbeats 2000000
namespace Go.Proofs.YtfhkaffakniioaaGreatDoor
open Go.RowKit
namespace Lx
theorem kind_small (x:UInt8) (r:Bs):(frst (x :: r)).kind≤5:=by
 rw[frst]
 split
 ·rw[word]
  split
  ·exact(by decide:2≤5)
  ·split
   ·exact Nat.zero_le _
   ·exact(by decide:1≤5)
 ·split
  ·rw[numb]
   split
   ·exact(by decide:3≤5)
   ·exact Nat.zero_le _
  ·split
   ·rw[text]
    split
    ·rw[tok]
     split
     ·exact Nat.zero_le _
     ·split
      ·exact Nat.zero_le _
      ·exact(by decide:4≤5)
    ·exact Nat.zero_le _
   ·split
    ·exact Nat.le_refl _
    ·exact Nat.zero_le _
theorem fits_lex {l:Bs} (h:(lex l).err=0):l.length≤16384∧(lex l).toks.length≤16384∧∀t∈(lex l).toks,Ps.fits t∧t.kind≤5:=by
 obtain⟨h1,h2⟩:=lex_toks h
 refine⟨h1,Nat.le_trans (toks_len h2) h1,fun t ht=>?_⟩
 obtain⟨j,hj⟩:=List.getElem?_of_mem ht
 obtain⟨_,a2,_,⟨x,r,he,e1,e2,e3,_⟩,_⟩:=toks_at h2 j t hj
 have hb:=(back he).1
 have hk:=kind_small x r
 have hn:=n_bounds x r
 rw[←e1] at hk
 rw[←e2] at hb
 rw[←e3] at hn
 exact⟨⟨by omega,hn,by omega,by omega⟩,hk⟩
end Lx
namespace Ps
theorem flat_at {α:Type} (f:α→List Value) (k:Nat) (hk:∀x,(f x).length=k):∀(l:List α) (j:Nat) (x:α),l[j]?=some x→∀i,i<k→(l.flatMap f)[j*k+i]?=(f x)[i]?
 | [],j,x,h=>by simp at h
 | y :: r,0,x,h=>fun i hi=>by
  have e:y=x:=by simpa using h
  subst e
  rw[List.flatMap_cons,Nat.zero_mul,Nat.zero_add,List.getElem?_append_left (by rw[hk];exact hi)]
 | y :: r,j+1,x,h=>fun i hi=>by
  rw[List.flatMap_cons,List.getElem?_append_right (by rw[hk,Nat.succ_mul];omega),hk,show(j+1)*k+i - k=j*k+i by rw[Nat.succ_mul];omega]
  exact flat_at f k hk r j x (by simpa using h) i hi
theorem scs_at {l:List Sp} {j:Nat} {p:Sp} (h:l[j]?=some p):∀i,i<3→(scs l)[j*3+i]?=(sc p).toList[i]?:=flat_at (fun p=>(sc p).toList) 3 (fun _=>rfl) l j p h
theorem ics_at {L:List (It × Value)} {j:Nat} {x:It × Value} (h:L[j]?=some x):∀i,i<2→(ics L)[j*2+i]?=[Value.string (Lx.bs x.1.name),x.2][i]?:=flat_at (fun x:It × Value=>[Value.string (Lx.bs x.1.name),x.2]) 2 (fun _=>rfl) L j x h
theorem own_at {W:World} {B n size:Nat} {t:TypeId} {v:Value} {L:List Value} (h:W.ownsRow B t size v n L):∃a c,v=.slice a n c∧n≤c∧c≤maxLen∧∀(j:Nat) (u:Value),L[j]?=some u→∃g,a=some ⟨g,0,none⟩∧B≤g∧W.cell? ⟨g,j,none⟩=some u:=by
 have hL:=h.1
 rcases h.2 with ⟨e,h0⟩ | ⟨g,cap,cur,e,hb,hrow,h1,h2,_,htk⟩
 ·refine⟨none,0,by rw[e,h0],by omega,by decide,fun j u hu=>?_⟩
  have:=(List.getElem?_eq_some_iff.1 hu).1
  rw[hL,h0,Nat.zero_mul] at this
  omega
 ·refine⟨_,cap,e,h1,h2,fun j u hu=>⟨g,rfl,hb,?_⟩⟩
  rw[cell_of_row _ _ _ _ _ _ hrow]
  have hj:j<n*size:=by have:=(List.getElem?_eq_some_iff.1 hu).1;omega
  rw[←htk,List.getElem?_take_of_lt (by omega),Array.getElem?_toList] at hu
  exact hu
theorem RowE.sts {W0 W:World} {a:Option Addr} {n c:Nat} {l:List Sp} (h:RowE W0 W (.slice a n c) l):Sts W a l∧n=l.length∧n≤c∧c≤maxLen:=by
 obtain⟨a',c',e,h1,h2,h3⟩:=own_at h
 cases e
 refine⟨fun j p hp=>?_,rfl,h1,h2⟩
 have g0:=h3 (j*3+0) (.int .u8 (p.kind:Int)) (by rw[scs_at hp 0 (by decide)];rfl)
 have g1:=h3 (j*3+1) (.string (Lx.bs p.text)) (by rw[scs_at hp 1 (by decide)];rfl)
 have g2:=h3 (j*3+2) (.int .i64 p.n) (by rw[scs_at hp 2 (by decide)];rfl)
 obtain⟨g,rfl,_,k0⟩:=g0
 obtain⟨g',e1,_,k1⟩:=g1
 cases e1
 obtain⟨g',e2,_,k2⟩:=g2
 cases e2
 exact⟨g,0,rfl,by rw[Nat.zero_add];exact k0,by rw[Nat.zero_add];exact k1,by rw[Nat.zero_add];exact k2⟩
theorem Its.itm {W0 W:World} {X:Nat} {a:Option Addr} {n c:Nat} {l:List It} (h:Its W0 W X (.slice a n c) l):Itm W a l∧n=l.length∧n≤c∧c≤maxLen:=by
 obtain⟨L,e,h0,hE⟩:=h
 obtain⟨a',c',e',h1,h2,h3⟩:=own_at h0
 cases e'
 refine⟨fun j i hi=>?_,by rw[←e,List.length_map],h1,h2⟩
 rw[←e,List.getElem?_map] at hi
 cases hx:L[j]? with
 | none=>rw[hx] at hi;cases hi
 | some x =>
  rw[hx] at hi
  cases hi
  have g0:=h3 (j*2+0) (.string (Lx.bs x.1.name)) (by rw[ics_at hx 0 (by decide)];rfl)
  have g1:=h3 (j*2+1) x.2 (by rw[ics_at hx 1 (by decide)];rfl)
  obtain⟨g,rfl,_,k0⟩:=g0
  obtain⟨g',e1,_,k1⟩:=g1
  cases e1
  have hr:=hE x (List.mem_of_getElem? hx)
  obtain⟨ea,ec,hv⟩:=hr.form
  rw[hv] at hr k1
  exact⟨g,0,ea,ec,rfl,by rw[Nat.zero_add];exact k0,by rw[Nat.zero_add];exact k1,hr.sts.1⟩
section
variable {W0:World} {pb:Nat} {W:World} {s:S} {sb:Option Nat}
theorem end_c (h:PS W0 W pb s sb):Calls Tryz.prog 41 #[.pointer (some ⟨pb,0,none⟩)] W fun e W'=>e=.returned (.tuple #[])∧Hid (PB W0 W pb (endS s) W'):=by
 have HP:=hidp h
 have C13:=hidp (fail_pb (PB.refl h) 13)
 have C3:=hidp (fail_pb (PB.refl h) 3)
 obtain⟨ra,rc,sv,H,p0,p1,p2,p3,p4,p5,p6,pf⟩:=h.cells
 obtain⟨n,hn⟩:∃n,n=s.rest.length:=⟨_,rfl⟩
 rw[←hn] at p0
 clear H p1 p3 p4 p5 p6 pf h
 by_cases h0:0<n
 ·have q0:(0:Int)<(n:Int):=by omega
  have HE:Hid (endS s=fail 13 s):=by show _=_;rw[endS,if_pos (by omega)]
  clear hn h0
  go_enter Tryz.func41,Tryz.ntmps41
  go_wp2_with fail
  refine(C13.out).mono ?_
  rintro e w1 ⟨rfl,G1⟩
  go_wp2
  first
   | exact bodyPost_end (results_none (by rfl) _ _ _) rfl ⟨rfl,by rw[HE.out];exact G1⟩
   | exact bodyPost_ret (v:=.tuple #[]) (results_none (by rfl) _ _ _) rfl ⟨rfl,by rw[HE.out];exact G1⟩
 ·have q0:¬(0:Int)<(n:Int):=by omega
  cases ho:s.over with
  | true =>
   rw[ho] at p2
   have HE:Hid (endS s=fail 3 s):=by show _=_;rw[endS,if_neg (by omega),if_pos ho]
   clear hn h0 ho
   go_enter Tryz.func41,Tryz.ntmps41
   go_wp2_with fail
   refine(C3.out).mono ?_
   rintro e w1 ⟨rfl,G1⟩
   go_wp2
   first
    | exact bodyPost_end (results_none (by rfl) _ _ _) rfl ⟨rfl,by rw[HE.out];exact G1⟩
    | exact bodyPost_ret (v:=.tuple #[]) (results_none (by rfl) _ _ _) rfl ⟨rfl,by rw[HE.out];exact G1⟩
  | false =>
   rw[ho] at p2
   have HE:Hid (endS s=s):=by show _=_;rw[endS,if_neg (by omega),if_neg (by rw[ho];decide)]
   clear hn h0 ho
   go_enter Tryz.func41,Tryz.ntmps41
   go_wp2
   first
    | exact bodyPost_end (results_none (by rfl) _ _ _) rfl ⟨rfl,by rw[HE.out];exact PB.refl HP.out⟩
    | exact bodyPost_ret (v:=.tuple #[]) (results_none (by rfl) _ _ _) rfl ⟨rfl,by rw[HE.out];exact PB.refl HP.out⟩
end
def stv (x:St) (ia:Option Addr) (ic:Nat) (ea:Option Addr) (ec:Nat):Array Value:=#[.int .u8 (x.kind:Int),.string (Lx.bs x.table),.string (Lx.bs x.field),.slice ia x.items.length ic,.slice ea x.expr.length ec,.bool x.history,.bool x.desc]
def Gave (x:St) (why pos:Nat) (w:World) (e:Ending) (w':World):Prop:=∃ia ic ea ec,e=.returned (.tuple #[.agg (stv x ia ic ea ec),.int .i64 (why:Int),.int .i64 (pos:Int)])∧Hid (Below w.heap.size w w'∧StM w' ia ea x∧FitX x∧x.items.length≤ic∧x.expr.length≤ec)
theorem infoStmt:(Tryz.prog.info? 26).map (·.size)=some 7:=by kernel_rfl
theorem PS.begin {w1:World} {t:Bs} {lv:Value} {B pb:Nat} {w2:World} (he:(Lx.lex t).err=0) (ho:w1.ownsRow B 92 4 lv (Lx.lex t).toks.length (Lx.tcs (Lx.lex t).toks)) (hp:pb=w1.heap.size) {ra:Option Addr} {n rc:Nat} (hv:lv=.slice ra n rc)
  (hw:w2=w1.alloc (.cells #[.slice ra n rc,.int .i64 (t.length:Int),.bool false,.int .i64 0,.int .i64 0,.int .i64 0,.slice none 0 0] 67)):PS w1 w2 pb (start t (Lx.lex t).toks) none:=by
 obtain⟨k1,k2,k3⟩:=Lx.fits_lex he
 obtain⟨a',c',e,h1,h2,h3⟩:=own_at ho
 rw[hv] at e
 cases e
 have hb:Below w1.heap.size w1 w2:=by rw[hw];exact bnew _ _
 refine⟨Nat.le_of_eq hp.symm,hb,⟨ra,rc,.slice none 0 0,by rw[hw,hp];exact heap_alloc_new w1 _,fun j u hu=>?_,⟨h1,h2⟩,⟨rfl,.inl ⟨rfl,rfl⟩⟩,rfl,by simp⟩,by show 0+_≤_;simp only[start];omega,fun u hu=>(k3 u hu).1,Nat.zero_le _,by show t.length≤20000;omega,Nat.zero_le _⟩
 have g0:=h3 (j*4+0) _ (Lx.tcs_at _ j u hu 0 (.int .u8 (u.kind:Int)) rfl)
 have g1:=h3 (j*4+1) _ (Lx.tcs_at _ j u hu 1 (.string (Lx.bs u.text)) rfl)
 have g2:=h3 (j*4+2) _ (Lx.tcs_at _ j u hu 2 (.int .i64 u.n) rfl)
 have g3:=h3 (j*4+3) _ (Lx.tcs_at _ j u hu 3 (.int .i64 (u.at':Int)) rfl)
 obtain⟨g,rfl,_,c0⟩:=g0
 obtain⟨g',e1,_,c1⟩:=g1
 cases e1
 obtain⟨g',e1,_,c2⟩:=g2
 cases e1
 obtain⟨g',e1,_,c3⟩:=g3
 cases e1
 have hl:=block_lt_of_cell c0
 have k:∀r v,w1.cell? ⟨g,r,none⟩=some v→w2.cell? ⟨g,r,none⟩=some v:=fun r v hc=>(hb.cell (p:=⟨g,r,none⟩) hl).trans hc
 exact⟨g,0,rfl,hl,by rw[Nat.zero_add];exact k _ _ c0,by rw[Nat.zero_add];exact k _ _ c1,by rw[Nat.zero_add];exact k _ _ c2,by rw[Nat.zero_add];exact k _ _ c3⟩
theorem tl_start {t:Bs} (he:(Lx.lex t).err=0):TL (start t (Lx.lex t).toks):=by
 obtain⟨k1,k2,k3⟩:=Lx.fits_lex he
 exact⟨by show(Lx.lex t).toks.length≤_;omega,fun u hu=>⟨(k3 u hu).1.2.2.1,(k3 u hu).1.2.1⟩,fun p hp=>by cases hp⟩
theorem PB.kb {W0 W W1 W2:World} {pb:Nat} {s:S} (h:PB W0 W pb s W1) (hb:W2.heap.size≤pb) (h2:W2.heap.size≤W.heap.size):Below W2.heap.size W W1:=by
 obtain⟨_,_,k⟩:=h
 exact k.below (fun g e=>by omega) h2
theorem StV.fit {W0 W:World} {x:St} {ia ea:Option Addr} {ic ec:Nat} (h:StV W0 W (.agg (stv x ia ic ea ec)) x) (hx:XL x):StM W ia ea x∧FitX x∧x.items.length≤ic∧x.expr.length≤ec:=by
 obtain⟨ia',ic',ea',ec',e,i,r⟩:=h
 have e2:stv x ia ic ea ec=stv x ia' ic' ea' ec':=by injection e
 have e3:(#[Value.slice ia x.items.length ic,Value.slice ea x.expr.length ec]:Array Value)=#[Value.slice ia' x.items.length ic',Value.slice ea' x.expr.length ec']:=by
  have a3:=congrArg (fun z:Array Value=>z[3]?) e2
  have a4:=congrArg (fun z:Array Value=>z[4]?) e2
  have b3:Value.slice ia x.items.length ic=Value.slice ia' x.items.length ic':=by simpa [stv] using a3
  have b4:Value.slice ea x.expr.length ec=Value.slice ea' x.expr.length ec':=by simpa [stv] using a4
  rw[b3,b4]
 simp at e3
 obtain⟨⟨rfl,rfl⟩,rfl,rfl⟩:=e3
 obtain⟨i1,_,i3,i4⟩:=i.itm
 obtain⟨r1,_,r3,r4⟩:=r.sts
 have m9:maxLen=9223372036854775807:=by decide
 rw[m9] at i4 r4
 refine⟨⟨i1,r1⟩,⟨⟨by omega,fun y hy=>?_⟩,by omega,fun p hp=>?_⟩,i3,r3⟩
 ·obtain⟨L,e,h0,hE⟩:=i
  rw[←e] at hy
  obtain⟨z,hz,rfl⟩:=List.mem_map.1 hy
  have hr:=hE z hz
  obtain⟨za,zc,hzv⟩:=hr.form
  rw[hzv] at hr
  obtain⟨_,_,q3,q4⟩:=hr.sts
  rw[m9] at q4
  refine⟨by omega,fun p hp=>?_⟩
  have:=hx.items z.1 (by rw[←e];exact List.mem_map_of_mem hz) p hp
  exact⟨by omega,this.2⟩
 ·have:=hx.expr p hp
  exact⟨by omega,this.2⟩
end Ps
end Go.Proofs.YtfhkaffakniioaaGreatDoor
namespace Go.Proofs.YtfhkaffakniioaaGreatDoor
namespace Lx
theorem word_small {x:UInt8} {r:Bs} (he:(frst (x :: r)).err=0) (hk:(frst (x :: r)).kind=1):(frst (x :: r)).text.length≤64:=by
 rw[frst] at he hk ⊢
 split at he
 ·rename_i h1
  rw[if_pos h1] at hk ⊢
  rw[word] at he hk ⊢
  split at he
  ·rename_i h2
   rw[if_pos h2] at hk
   first | exact absurd (show(2:Nat)=1 from hk) (by decide) | exact absurd (show(0:Nat)=1 from hk) (by decide) | exact absurd (show(3:Nat)=1 from hk) (by decide) | exact absurd (show(4:Nat)=1 from hk) (by decide) | exact absurd (show(5:Nat)=1 from hk) (by decide)
  ·rename_i h2
   rw[if_neg h2] at hk ⊢
   split at he
   ·exact absurd he (by decide)
   ·rename_i h3
    rw[if_neg h3]
    show(List.take _ _).length≤64
    rw[List.length_take]
    omega
 ·rename_i h1
  rw[if_neg h1] at hk ⊢
  split at he
  ·rename_i h2
   rw[if_pos h2] at hk
   rw[numb] at hk
   split at hk<;>first | exact absurd (show(2:Nat)=1 from hk) (by decide) | exact absurd (show(0:Nat)=1 from hk) (by decide) | exact absurd (show(3:Nat)=1 from hk) (by decide) | exact absurd (show(4:Nat)=1 from hk) (by decide) | exact absurd (show(5:Nat)=1 from hk) (by decide)
  ·rename_i h2
   rw[if_neg h2] at hk ⊢
   split at he
   ·rename_i h3
    rw[if_pos h3] at hk
    rw[text] at hk
    split at hk
    ·rw[tok] at hk
     split at hk
     ·first | exact absurd (show(2:Nat)=1 from hk) (by decide) | exact absurd (show(0:Nat)=1 from hk) (by decide) | exact absurd (show(3:Nat)=1 from hk) (by decide) | exact absurd (show(4:Nat)=1 from hk) (by decide) | exact absurd (show(5:Nat)=1 from hk) (by decide)
     ·split at hk<;>first | exact absurd (show(2:Nat)=1 from hk) (by decide) | exact absurd (show(0:Nat)=1 from hk) (by decide) | exact absurd (show(3:Nat)=1 from hk) (by decide) | exact absurd (show(4:Nat)=1 from hk) (by decide) | exact absurd (show(5:Nat)=1 from hk) (by decide)
    ·first | exact absurd (show(2:Nat)=1 from hk) (by decide) | exact absurd (show(0:Nat)=1 from hk) (by decide) | exact absurd (show(3:Nat)=1 from hk) (by decide) | exact absurd (show(4:Nat)=1 from hk) (by decide) | exact absurd (show(5:Nat)=1 from hk) (by decide)
   ·rename_i h3
    rw[if_neg h3] at hk ⊢
    split at he
    ·rename_i h4
     rw[if_pos h4] at hk
     first | exact absurd (show(2:Nat)=1 from hk) (by decide) | exact absurd (show(0:Nat)=1 from hk) (by decide) | exact absurd (show(3:Nat)=1 from hk) (by decide) | exact absurd (show(4:Nat)=1 from hk) (by decide) | exact absurd (show(5:Nat)=1 from hk) (by decide)
    ·exact absurd he (by decide)
theorem wr_other {k:Nat} (t:Bs) (n:Int) (h3:k≠3) (h4:k≠4):wr k t n=t:=by rw[wr,if_neg h3,if_neg h4]
end Lx
namespace Ps
theorem nm_len {t:Bs} (h:isNm t=true):t.length≤64:=by
 rw[isNm,Lx.shw] at h
 split at h
 ·cases h
 ·split at h
  ·rename_i h2
   rw[Lx.wr_other t 0 (by decide) (by decide)] at h2
   have he:(Lx.lex t).err=0:=by rw[h2]
   obtain⟨_,ht⟩:=Lx.lex_toks he
   rw[h2] at ht
   obtain⟨_,_,_,⟨x,r,e0,e1,e2,_,_⟩,_⟩:=Lx.toks_at ht 0 ⟨1,t,0,0⟩ rfl
   have:=Lx.word_small e0 (by rw[←e1])
   rw[←e2] at this
   exact this
  ·cases h
theorem zdB:∀(l done:List Bs),areNs done l=true→∀x∈l,isNm x=true
 | [],_,_,x,hx=>by cases hx
 | y :: r,done,h,x,hx=>by
  rw[areNs,Bool.and_eq_true,Bool.and_eq_true] at h
  rcases List.mem_cons.1 hx with e | e
  ·rw[e];exact h.1.1
  ·exact zdB r _ h.2 x e
def opTx (k:Nat):Bs:=if 12≤k∧k≤22 then otx.getD (k - 12) [] else []
def zaL (ns ps:List Bs):List Bs:=List.zipWith (fun n p=>n++[58,32]++p) ns ps
def stepTx (p:Sp) (ps:List Bs):Bs :=
 if p.kind=1 then [78,85,76,76] else if p.kind=2 then [84,82,85,69] else if p.kind=3 then [70,65,76,83,69]
 else if p.kind=4 then Lib.itoa p.n
 else if p.kind=5 then (Lx.shw 4 p.text 0).getD []
 else if p.kind=6 then p.text
 else if p.kind=7 then [91]++join [44,32] ps++[93]
 else if p.kind=8 then [123]++join [44,32] (zaL (cut 44 p.text) ps)++[125]
 else if p.kind=9 then [40,45]++ps.getD 0 []++[41]
 else if p.kind=10 then [40,78,79,84,32]++ps.getD 0 []++[41]
 else if p.kind=11 then [40]++ps.getD 0 []++[32,73,83,32,78,85,76,76,41]
 else [40]++ps.getD 0 []++[32]++opTx p.kind++[32]++ps.getD 1 []++[41]
def stackL:List Sp→List Bs→List Bs
 | [],st=>st
 | p :: r,st=>stackL r (st.take (st.length - zaI p)++[stepTx p (st.drop (st.length - zaI p))])
def shownE (l:List Sp):Bs:=(stackL l []).getD 0 []
def tot:List Bs→Nat
 | []=>0
 | x :: r=>x.length+tot r
theorem tot_app:∀a b:List Bs,tot (a++b)=tot a+tot b
 | [],b=>by simp[tot]
 | x :: r,b=>by rw[List.cons_append,tot,tot_app r b,tot,Nat.add_assoc]
theorem tot_mem:∀{l:List Bs} {x:Bs},x∈l→x.length≤tot l
 | y :: r,x,h=>by
  rcases List.mem_cons.1 h with e | e
  ·rw[e,tot];exact Nat.le_add_right _ _
  ·have:=tot_mem e
   rw[tot];omega
theorem tot_getD (l:List Bs) (j:Nat):(l.getD j []).length≤tot l:=by
 rw[List.getD_eq_getElem?_getD]
 cases h:l[j]? with
 | none=>exact Nat.zero_le _
 | some x=>exact tot_mem (List.mem_of_getElem? h)
theorem tot_two (l:List Bs):(l.getD 0 []).length+(l.getD 1 []).length≤tot l:=by
 match l with
 | []=>exact Nat.zero_le _
 | [x]=>exact Nat.le_refl _
 | x :: y :: r =>
  show x.length+y.length≤x.length+(y.length+tot r)
  omega
theorem zbK (sep:Bs):∀l:List Bs,(join sep l).length≤tot l+sep.length*l.length
 | []=>Nat.zero_le _
 | [x]=>by simp[join,tot]
 | x :: y :: r=>by
  have:=zbK sep (y :: r)
  rw[join]
  ·simp only[List.length_append,List.length_cons,tot] at this ⊢
   have e:sep.length*(r.length+1+1)=sep.length*(r.length+1)+sep.length:=Nat.mul_succ _ _
   omega
  ·simp
theorem tot_field:∀(ns ps:List Bs),(∀x∈ns,x.length≤64)→tot (zaL ns ps)≤tot ps+66*ps.length
 | [],ps,_=>by simp[zaL,tot]
 | n :: ns,[],_=>by simp[zaL,tot]
 | n :: ns,p :: ps,h=>by
  have h1:=h n (List.mem_cons_self ..)
  have h2:=tot_field ns ps (fun x hx=>h x (List.mem_cons_of_mem _ hx))
  have e:zaL (n :: ns) (p :: ps)=(n++[58,32]++p) :: zaL ns ps:=rfl
  have e3:tot (p :: ps)=p.length+tot ps:=rfl
  have e4:(p :: ps).length=ps.length+1:=rfl
  have e5:(n++[58,32]++p).length=n.length+2+p.length:=by rw[List.length_append,List.length_append];rfl
  rw[e,tot,e3,e4,e5]
  omega
theorem opTx_len (k:Nat):(opTx k).length≤3:=by
 unfold opTx
 split
 ·rename_i h
  have:∀j,j<11→(otx.getD j []).length≤3:=by decide
  exact this _ (by omega)
 ·exact Nat.zero_le _
theorem struct_names {p:Sp} (hr:zaE p=true) (h8:p.kind=8):haveNs p.text p.n.toNat=true∧p.n.toNat≤64∧0≤p.n:=by
 rw[zaE,if_neg (by omega),if_neg (by omega),if_neg (by omega),if_neg (by omega),if_pos h8,Bool.and_eq_true,Bool.and_eq_true,decide_eq_true_iff,decide_eq_true_iff] at hr
 exact⟨hr.2,by omega,hr.1.1⟩
theorem struct_cut {p:Sp} (hr:zaE p=true) (h8:p.kind=8):zaI p≤(cut 44 p.text).length∧((∀x∈cut 44 p.text,x.length≤64))∧p.text.count 44≤64:=by
 obtain⟨h1,h2,h3⟩:=struct_names hr h8
 have ht:zaI p=p.n.toNat:=by rw[zaI,if_pos (.inr h8)]
 rw[haveNs] at h1
 split at h1
 ·rename_i h0
  rw[decide_eq_true_iff] at h1
  rw[h1,ht,h0]
  exact⟨Nat.zero_le _,fun x hx=>by rw[cut,List.mem_singleton] at hx;rw[hx];exact Nat.zero_le _,by simp⟩
 ·rw[Bool.and_eq_true,decide_eq_true_iff] at h1
  exact⟨by rw[zbQ,ht];omega,fun x hx=>nm_len (zdB _ _ h1.2 x hx),by omega⟩
theorem zbX {p:Sp} (hr:zaE p=true):zaI p≤64:=by
 rw[zaI]
 split
 ·rename_i h
  rcases h with h | h
  ·rw[zaE,if_neg (by omega),if_neg (by omega),if_neg (by omega),if_pos h,Bool.and_eq_true,Bool.and_eq_true,decide_eq_true_iff,decide_eq_true_iff] at hr
   omega
  ·exact(struct_names hr h).2.1
 ·split
  ·decide
  ·split<;>decide
theorem path_text {p:Sp} (hr:zaE p=true) (h:p.kind=6):p.text.length≤1024:=by
 rw[zaE,if_neg (by omega),if_neg (by omega),if_pos h,Bool.and_eq_true,isPt,Bool.and_eq_true,decide_eq_true_iff,decide_eq_true_iff] at hr
 exact hr.2.1
theorem text_len {t:Bs}:((Lx.shw 4 t 0).getD []).length≤4096:=by
 rw[Lx.shw]
 split
 ·exact Nat.zero_le _
 ·split
  ·exact Lx.wr_len (by omega) (by decide)
  ·exact Nat.zero_le _
theorem step_cost {p:Sp} {ps:List Bs} (hr:zaE p=true) (hp:ps.length≤64) (hn:-9223372036854775808≤p.n∧p.n≤9223372036854775807):(stepTx p ps).length≤tot ps+4500:=by
 have h0:=tot_getD ps 0
 have h01:=tot_two ps
 have ho:=opTx_len p.kind
 rw[stepTx]
 by_cases h1:p.kind=1
 ·rw[if_pos h1];exact Nat.le_trans (show 4≤4500 by decide) (Nat.le_add_left _ _)
 rw[if_neg h1]
 by_cases h2:p.kind=2
 ·rw[if_pos h2];exact Nat.le_trans (show 4≤4500 by decide) (Nat.le_add_left _ _)
 rw[if_neg h2]
 by_cases h3:p.kind=3
 ·rw[if_pos h3];exact Nat.le_trans (show 5≤4500 by decide) (Nat.le_add_left _ _)
 rw[if_neg h3]
 by_cases h4:p.kind=4
 ·rw[if_pos h4];have:=Lib.itoa_length_le p.n hn.1 hn.2;omega
 rw[if_neg h4]
 by_cases h5:p.kind=5
 ·rw[if_pos h5];have:=@text_len p.text;omega
 rw[if_neg h5]
 by_cases h6:p.kind=6
 ·rw[if_pos h6];have:=path_text hr h6;omega
 rw[if_neg h6]
 by_cases h7:p.kind=7
 ·rw[if_pos h7]
  have:=zbK [44,32] ps
  have e:[(44:UInt8),32].length=2:=rfl
  have e2:([91]++join [44,32] ps++[93]).length=1+(join [44,32] ps).length+1:=by rw[List.length_append,List.length_append];rfl
  rw[e] at this
  rw[e2]
  omega
 rw[if_neg h7]
 by_cases h8:p.kind=8
 ·rw[if_pos h8]
  have k1:=struct_cut hr h8
  have k2:=tot_field (cut 44 p.text) ps k1.2.1
  have k3:=zbK [44,32] (zaL (cut 44 p.text) ps)
  have k4:(zaL (cut 44 p.text) ps).length≤ps.length:=by rw[zaL,List.length_zipWith];exact Nat.min_le_right _ _
  have e:[(44:UInt8),32].length=2:=rfl
  have e2:([123]++join [44,32] (zaL (cut 44 p.text) ps)++[125]).length=1+(join [44,32] (zaL (cut 44 p.text) ps)).length+1:=by rw[List.length_append,List.length_append];rfl
  rw[e] at k3
  rw[e2]
  omega
 rw[if_neg h8]
 by_cases h9:p.kind=9
 ·rw[if_pos h9,List.length_append,List.length_append,show[(40:UInt8),45].length=2 from rfl,show[(41:UInt8)].length=1 from rfl];omega
 rw[if_neg h9]
 by_cases h10:p.kind=10
 ·rw[if_pos h10,List.length_append,List.length_append,show[(40:UInt8),78,79,84,32].length=5 from rfl,show[(41:UInt8)].length=1 from rfl];omega
 rw[if_neg h10]
 by_cases h11:p.kind=11
 ·rw[if_pos h11,List.length_append,List.length_append,show[(40:UInt8)].length=1 from rfl,show[(32:UInt8),73,83,32,78,85,76,76,41].length=9 from rfl];omega
 rw[if_neg h11,List.length_append,List.length_append,List.length_append,List.length_append,List.length_append,List.length_append,show[(40:UInt8)].length=1 from rfl,show[(32:UInt8)].length=1 from rfl,show[(41:UInt8)].length=1 from rfl]
 omega
theorem stack_step {l:List Sp} {j:Nat} {p:Sp} (hp:l[j]?=some p) (st:List Bs):stackL (l.drop j) st=stackL (l.drop (j+1)) (st.take (st.length - zaI p)++[stepTx p (st.drop (st.length - zaI p))]):=by
 have hj:=(List.getElem?_eq_some_iff.1 hp).1
 have e1:l.drop j=p :: l.drop (j+1):=by
  rw[List.drop_eq_getElem_cons hj]
  congr 1
  exact(List.getElem?_eq_some_iff.1 hp).2
 rw[e1,stackL]
def zaF (set:Bool) (l:List It):List Bs:=l.map fun i=>if set then i.name++[32,61,32]++shownE i.expr else shownE i.expr++[32,65,83,32]++i.name
def condTx (l:List Sp):List Bs:=if l=[] then [] else [[87,72,69,82,69],shownE l]
def zbD (x:St):List Bs:=if x.field=[] then [] else if x.desc then [[79,82,68,69,82,32,66,89],x.field,[68,69,83,67]] else [[79,82,68,69,82,32,66,89],x.field]
def fromTx (x:St):Bs:=if x.history then [72,73,83,84,79,82,89,40]++x.table++[41] else x.table
def whatTx (l:List It):Bs:=if l=[] then [42] else join [44,32] (zaF false l)
def zaB (x:St):List Bs :=
 if x.kind=1 then [[67,82,69,65,84,69,32,84,65,66,76,69],x.table]
 else if x.kind=2 then [[67,82,69,65,84,69,32,73,78,68,69,88,32,79,78],x.table,[40]++x.field++[41]]
 else if x.kind=3 then [[73,78,83,69,82,84,32,73,78,84,79],x.table,shownE x.expr]
 else if x.kind=4 then [[85,80,68,65,84,69],x.table,[83,69,84],join [44,32] (zaF true x.items)]++condTx x.expr
 else if x.kind=5 then [[68,69,76,69,84,69,32,70,82,79,77],x.table]++condTx x.expr
 else [[83,69,76,69,67,84],whatTx x.items,[70,82,79,77],fromTx x]++condTx x.expr++zbD x
def printX (x:St):Bs:=if rightX x then join [32] (zaB x) else []
end Ps
end Go.Proofs.YtfhkaffakniioaaGreatDoor
