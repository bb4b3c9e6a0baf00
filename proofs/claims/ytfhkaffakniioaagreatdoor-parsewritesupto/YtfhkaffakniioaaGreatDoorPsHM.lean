/- Several texts, joined. -/
import Derived.Test.YtfhkaffakniioaaGreatDoorQ13M
set_option maxHeartbeats 4000000
set_option maxRecDepth 100000
namespace Go.Proofs.YtfhkaffakniioaaGreatDoor
open Go.RowKit
namespace Ps
def rlen (W:World) (pb:Nat):Nat:=match W.cell? ⟨pb,0,none⟩ with
 | some (.slice _ n _)=>n
 | _=>0
theorem PS.rlen {W0 W:World} {pb:Nat} {s:S} {sb:Option Nat} (h:PS W0 W pb s sb):rlen W pb=s.rest.length:=by
 obtain⟨ra,rc,sv,H,p0,_⟩:=h.cells
 unfold Ps.rlen
 rw[p0]
def DoesP (W0:World) (pb K:Nat) (F:S→S) (m:Nat):Prop:=∀(W:World) (s:S) (sb:Option Nat),PS W0 W pb s sb→s.rest.length≤m→Calls Tryz.prog K #[.pointer (some ⟨pb,0,none⟩)] W fun e W'=>e=.returned (.tuple #[])∧PG W0 pb W sb (F s) W'
theorem PG.trans {W0 W W1 W2:World} {pb:Nat} {s:S} {sb sb1:Option Nat} (h:PCh pb W sb W1 sb1) (k:PG W0 pb W1 sb1 s W2):PG W0 pb W sb s W2:=by
 obtain⟨sb',k1,k2⟩:=k
 exact⟨sb',k1,h.trans k2⟩
theorem SR.pg {W0 W W':World} {pb:Nat} {s:S} {sb:Option Nat} {a:Option Addr} {l:List Bs} (h:SR W a l) (hg:PG W0 pb W sb s W') (ha:∀g o,a=some ⟨g,o,none⟩→g≠pb∧sb≠some g):SR W' a l:=fun j x hx=>by
 obtain⟨g,o,e,hc⟩:=h j x hx
 exact⟨g,o,e,(World.cell?_of_block (a:=⟨g,o+j,none⟩) (hg.block (block_lt_of_cell hc) (ha g o e).1 (ha g o e).2)).trans hc⟩
theorem rowL_no {F:S→S} {ts:List Bs} {s:S} (h:is ts s=false):∀f,rowL F ts f s=s
 | 0=>rfl
 | f+1=>by rw[rowL,h];rfl
attribute [local go_sem] zaR
theorem PS.hasO {W0 W:World} {pb:Nat} {s:S} {sb:Option Nat} (h:PS W0 W pb s sb) (hO:HasO W0):HasO W:=hO.stays h.below
section
variable {W0:World} {pb:Nat} {W:World} {s:S} {sb:Option Nat} {ts:List Bs} {a:Option Addr} {n c:Nat} {F:S→S} {m:Nat}
theorem row_ands (hF:∀s,Less s (F s)) (HC:DoesP W0 pb 138 F m) (hO:HasO W0) (h:PS W0 W pb s sb) (hm:s.rest.length≤m) (hr:SR W a ts) (hn:n=ts.length) (hl:n≤1000) (ha:∀g o,a=some ⟨g,o,none⟩→g≠pb∧sb≠some g) :
  Calls Tryz.prog 137 #[.pointer (some ⟨pb,0,none⟩),.func (.func 138) #[.pointer (some ⟨pb,0,none⟩)] #[],.slice a n c] W fun e W'=>e=.returned (.tuple #[])∧PG W0 pb W sb (row F ts s) W':=by
 have HF:Hid (∀s,Less s (F s)):=hF
 have HK:Hid (DoesP W0 pb 138 F m):=HC
 have HO:Hid (HasO W0):=hO
 have HM:Hid (∀s',Less s s'→s'.rest.length≤m):=fun s' h'=>Nat.le_trans h'.rest hm
 have HR:Hid (∀s' W',PG W0 pb W sb s' W'→SR W' a ts):=fun s' W' h'=>hr.pg h' ha
 have HN:Hid (n=ts.length∧n≤1000):=⟨hn,hl⟩
 have CP1:Hid (Calls Tryz.prog 138 #[.pointer (some ⟨pb,0,none⟩)] W fun e W'=>e=.returned (.tuple #[])∧PG W0 pb W sb (F s) W'):=HC W s sb h hm
 clear hF HC hO h hm hr hn hl ha
 go_enter Tryz.func137,Tryz.ntmps137
 go_wp2_with fail
 refine(CP1.out).mono ?_
 rintro e w1 ⟨rfl,hg1⟩
 have G1:Hid (PG W0 pb W sb (F s) w1):=hg1
 clear hg1 CP1
 go_wp2_with fail
 go_loopw [6] (fun v wr=>∃(f:Nat) (s':S),s'.rest.length≤f∧rowL F ts f s'=row F ts s∧Less s s'∧PG W0 pb W sb s' wr) (fun _ W=>rlen W pb)
 case atStart=>exact⟨_,F s,Nat.le_refl _,rfl,HF.out s,G1.out⟩
 case round =>
  clear G1
  obtain⟨f,s',hf,hrow,hles,hg⟩:=hrel
  obtain⟨sb',h1,h2⟩:=hg
  have HL:Hid (s'.rest.length≤f∧rowL F ts f s'=row F ts s∧Less s s'):=⟨hf,hrow,hles⟩
  have HP:Hid (PS W0 wr pb s' sb'∧PCh pb W sb wr sb'):=⟨h1,h2⟩
  have CI:Hid (Calls Tryz.prog 102 #[.pointer (some ⟨pb,0,none⟩),.slice a n c] wr fun e W'=>e=.returned (.bool (is ts s'))∧Below wr.heap.size wr W'):=is_c h1 (HR.out s' wr ⟨sb',h1,h2⟩) HN.out.1 HN.out.2
  clear hf hrow hles h1 h2
  cases hi:is ts s' with
  | false =>
   rw[hi] at CI
   have HE:Hid (row F ts s=s'):=by show _=_;rw[←HL.out.2.1];exact rowL_no hi f
   clear hi
   go_wp2_with (go_at_call 102;refine(CI.out).mono ?_;rintro en w2 ⟨rfl,hb2⟩;have B2:Hid (Below wr.heap.size wr w2):=hb2;clear hb2)
   exact bodyPost_end (results_none (by rfl) _ _ _) rfl ⟨rfl,by rw[HE.out];exact PG.trans HP.out.2 ⟨sb',HP.out.1.call B2.out,PCh.of_below B2.out⟩⟩
  | true =>
   rw[hi] at CI
   obtain⟨f0,hf0⟩:∃f0,f=f0+1:=⟨f - 1,by
    have:=List.length_pos_iff.2 (is_ne hi)
    have:=HL.out.1
    omega⟩
   obtain⟨t,ht⟩:∃t,t=nextT s':=⟨_,rfl⟩
   obtain⟨kd,hkd⟩:∃kd,kd=kindOf t.text:=⟨_,rfl⟩
   have HS:Hid ((next s').rest.length+1≤s'.rest.length∧(next s').steps.length+(next s').rest.length+1≤s'.steps.length+s'.rest.length):=zaA (is_ne hi)
   have HE:Hid (rowL F ts f0 (add ⟨kd,[],0⟩ (F (next s')))=row F ts s):=by
    show _=_
    rw[←HL.out.2.1,hf0,rowL,if_pos hi,hkd,ht]
   have HF0:Hid (f=f0+1):=hf0
   have CN:Hid (∀W',Below wr.heap.size wr W'→Calls Tryz.prog 103 #[.pointer (some ⟨pb,0,none⟩)] W' fun e W''=>e=.returned (.agg #[.int .u8 (t.kind:Int),.string (Lx.bs t.text),.int .i64 t.n,.int .i64 (t.at':Int)])∧Hid (PG W0 pb wr sb' (next s') W'')):=fun W' hb=>by
    refine(next_c (HP.out.1.call hb) fun _=>is_ne hi).mono ?_
    rintro e W'' ⟨rfl,q⟩
    exact⟨by rw[ht];rfl,q.pre hb⟩
   have CK:Hid (∀W',PG W0 pb wr sb' (next s') W'→Calls Tryz.prog 161 #[.string (Lx.bs t.text)] W' fun e W''=>e=.returned (.int .u8 (kd:Int))∧Hid (PG W0 pb wr sb' (next s') W'')):=fun W' hg=>by
    obtain⟨sb1,k1,k2⟩:=hg
    refine(zdN t.text W' (k1.hasO HO.out)).mono ?_
    rintro e W'' ⟨rfl,hb⟩
    exact⟨by rw[hkd],PG.call ⟨sb1,k1,k2⟩ hb⟩
   have CP:Hid (∀W',PG W0 pb wr sb' (next s') W'→Calls Tryz.prog 138 #[.pointer (some ⟨pb,0,none⟩)] W' fun e W''=>e=.returned (.tuple #[])∧Hid (PG W0 pb wr sb' (F (next s')) W'')):=fun W' hg=>by
    obtain⟨sb1,k1,k2⟩:=hg
    refine(HK.out W' (next s') sb1 k1 (HM.out _ (HL.out.2.2.trans (zaH _)))).mono ?_
    rintro e W'' ⟨rfl,q⟩
    exact⟨rfl,PG.trans k2 q⟩
   have CA:Hid (∀W',PG W0 pb wr sb' (F (next s')) W'→Calls Tryz.prog 162 #[.pointer (some ⟨pb,0,none⟩),.agg #[.int .u8 (kd:Int),.string ⟨#[]⟩,.int .i64 0]] W' fun e W''=>e=.returned (.tuple #[])∧Hid (PG W0 pb wr sb' (add ⟨kd,[],0⟩ (F (next s'))) W'')):=fun W' hg=>by
    obtain⟨sb1,k1,k2⟩:=hg
    refine(add_c k1 ⟨kd,[],0⟩ (by have:=HS.out.2;have:=(HF.out (next s')).both;have:=HP.out.1.lim;omega)).mono ?_
    rintro e W'' ⟨rfl,q⟩
    exact⟨rfl,PG.trans k2 q⟩
   clear hi hf0 ht hkd
   go_wp2_with (first
    |(go_at_call 102;refine(CI.out).mono ?_;rintro en w2 ⟨rfl,hb2⟩;have B2:Hid (Below wr.heap.size wr w2):=hb2;clear hb2)
    |(go_at_call 103;refine(CN.out w2 B2.out).mono ?_;rintro en w3 ⟨rfl,G3⟩)
    |(go_at_call 161;refine(CK.out w3 G3.out).mono ?_;rintro en w4 ⟨rfl,G4⟩)
    |(go_at_call 138;refine(CP.out w4 G4.out).mono ?_;rintro en w5 ⟨rfl,G5⟩)
    |(go_at_call 162;refine(CA.out w5 G5.out).mono ?_;rintro en w6 ⟨rfl,G6⟩))
   have N:Hid ((add ⟨kd,[],0⟩ (F (next s'))).rest.length≤f0∧Less s (add ⟨kd,[],0⟩ (F (next s')))∧PG W0 pb W sb (add ⟨kd,[],0⟩ (F (next s'))) w6):=by
    have h1:=HS.out
    have h2:=HF.out (next s')
    have h3:=h2.rest
    refine⟨?_,HL.out.2.2.trans (zbP ((zaH s').trans h2) (by have:=h2.both;omega)),PG.trans HP.out.2 G6.out⟩
    show(F (next s')).rest.length≤f0
    have:=HL.out.1
    have:=HF0.out
    omega
   go_roundw
   case rel=>first | exact⟨f0,_,N.out.1,HE.out,N.out.2.1,N.out.2.2⟩ | ((repeat apply Exists.intro);exact⟨⟨f0,_,N.out.1,HE.out,N.out.2.1,N.out.2.2⟩,rfl⟩)
   case measure =>
    obtain⟨sb6,k1,_⟩:=N.out.2.2
    rw[k1.rlen,HP.out.1.rlen]
    show(F (next s')).rest.length<_
    have h1:=HS.out.1
    have h3:=(HF.out (next s')).rest
    omega
theorem row_not (hF:∀s,Less s (F s)) (HC:DoesP W0 pb 163 F m) (hO:HasO W0) (h:PS W0 W pb s sb) (hm:s.rest.length≤m) (hr:SR W a ts) (hn:n=ts.length) (hl:n≤1000) (ha:∀g o,a=some ⟨g,o,none⟩→g≠pb∧sb≠some g) :
  Calls Tryz.prog 137 #[.pointer (some ⟨pb,0,none⟩),.func (.func 163) #[.pointer (some ⟨pb,0,none⟩)] #[],.slice a n c] W fun e W'=>e=.returned (.tuple #[])∧PG W0 pb W sb (row F ts s) W':=by
 have HF:Hid (∀s,Less s (F s)):=hF
 have HK:Hid (DoesP W0 pb 163 F m):=HC
 have HO:Hid (HasO W0):=hO
 have HM:Hid (∀s',Less s s'→s'.rest.length≤m):=fun s' h'=>Nat.le_trans h'.rest hm
 have HR:Hid (∀s' W',PG W0 pb W sb s' W'→SR W' a ts):=fun s' W' h'=>hr.pg h' ha
 have HN:Hid (n=ts.length∧n≤1000):=⟨hn,hl⟩
 have CP1:Hid (Calls Tryz.prog 163 #[.pointer (some ⟨pb,0,none⟩)] W fun e W'=>e=.returned (.tuple #[])∧PG W0 pb W sb (F s) W'):=HC W s sb h hm
 clear hF HC hO h hm hr hn hl ha
 go_enter Tryz.func137,Tryz.ntmps137
 go_wp2_with fail
 refine(CP1.out).mono ?_
 rintro e w1 ⟨rfl,hg1⟩
 have G1:Hid (PG W0 pb W sb (F s) w1):=hg1
 clear hg1 CP1
 go_wp2_with fail
 go_loopw [6] (fun v wr=>∃(f:Nat) (s':S),s'.rest.length≤f∧rowL F ts f s'=row F ts s∧Less s s'∧PG W0 pb W sb s' wr) (fun _ W=>rlen W pb)
 case atStart=>exact⟨_,F s,Nat.le_refl _,rfl,HF.out s,G1.out⟩
 case round =>
  clear G1
  obtain⟨f,s',hf,hrow,hles,hg⟩:=hrel
  obtain⟨sb',h1,h2⟩:=hg
  have HL:Hid (s'.rest.length≤f∧rowL F ts f s'=row F ts s∧Less s s'):=⟨hf,hrow,hles⟩
  have HP:Hid (PS W0 wr pb s' sb'∧PCh pb W sb wr sb'):=⟨h1,h2⟩
  have CI:Hid (Calls Tryz.prog 102 #[.pointer (some ⟨pb,0,none⟩),.slice a n c] wr fun e W'=>e=.returned (.bool (is ts s'))∧Below wr.heap.size wr W'):=is_c h1 (HR.out s' wr ⟨sb',h1,h2⟩) HN.out.1 HN.out.2
  clear hf hrow hles h1 h2
  cases hi:is ts s' with
  | false =>
   rw[hi] at CI
   have HE:Hid (row F ts s=s'):=by show _=_;rw[←HL.out.2.1];exact rowL_no hi f
   clear hi
   go_wp2_with (go_at_call 102;refine(CI.out).mono ?_;rintro en w2 ⟨rfl,hb2⟩;have B2:Hid (Below wr.heap.size wr w2):=hb2;clear hb2)
   exact bodyPost_end (results_none (by rfl) _ _ _) rfl ⟨rfl,by rw[HE.out];exact PG.trans HP.out.2 ⟨sb',HP.out.1.call B2.out,PCh.of_below B2.out⟩⟩
  | true =>
   rw[hi] at CI
   obtain⟨f0,hf0⟩:∃f0,f=f0+1:=⟨f - 1,by
    have:=List.length_pos_iff.2 (is_ne hi)
    have:=HL.out.1
    omega⟩
   obtain⟨t,ht⟩:∃t,t=nextT s':=⟨_,rfl⟩
   obtain⟨kd,hkd⟩:∃kd,kd=kindOf t.text:=⟨_,rfl⟩
   have HS:Hid ((next s').rest.length+1≤s'.rest.length∧(next s').steps.length+(next s').rest.length+1≤s'.steps.length+s'.rest.length):=zaA (is_ne hi)
   have HE:Hid (rowL F ts f0 (add ⟨kd,[],0⟩ (F (next s')))=row F ts s):=by
    show _=_
    rw[←HL.out.2.1,hf0,rowL,if_pos hi,hkd,ht]
   have HF0:Hid (f=f0+1):=hf0
   have CN:Hid (∀W',Below wr.heap.size wr W'→Calls Tryz.prog 103 #[.pointer (some ⟨pb,0,none⟩)] W' fun e W''=>e=.returned (.agg #[.int .u8 (t.kind:Int),.string (Lx.bs t.text),.int .i64 t.n,.int .i64 (t.at':Int)])∧Hid (PG W0 pb wr sb' (next s') W'')):=fun W' hb=>by
    refine(next_c (HP.out.1.call hb) fun _=>is_ne hi).mono ?_
    rintro e W'' ⟨rfl,q⟩
    exact⟨by rw[ht];rfl,q.pre hb⟩
   have CK:Hid (∀W',PG W0 pb wr sb' (next s') W'→Calls Tryz.prog 161 #[.string (Lx.bs t.text)] W' fun e W''=>e=.returned (.int .u8 (kd:Int))∧Hid (PG W0 pb wr sb' (next s') W'')):=fun W' hg=>by
    obtain⟨sb1,k1,k2⟩:=hg
    refine(zdN t.text W' (k1.hasO HO.out)).mono ?_
    rintro e W'' ⟨rfl,hb⟩
    exact⟨by rw[hkd],PG.call ⟨sb1,k1,k2⟩ hb⟩
   have CP:Hid (∀W',PG W0 pb wr sb' (next s') W'→Calls Tryz.prog 163 #[.pointer (some ⟨pb,0,none⟩)] W' fun e W''=>e=.returned (.tuple #[])∧Hid (PG W0 pb wr sb' (F (next s')) W'')):=fun W' hg=>by
    obtain⟨sb1,k1,k2⟩:=hg
    refine(HK.out W' (next s') sb1 k1 (HM.out _ (HL.out.2.2.trans (zaH _)))).mono ?_
    rintro e W'' ⟨rfl,q⟩
    exact⟨rfl,PG.trans k2 q⟩
   have CA:Hid (∀W',PG W0 pb wr sb' (F (next s')) W'→Calls Tryz.prog 162 #[.pointer (some ⟨pb,0,none⟩),.agg #[.int .u8 (kd:Int),.string ⟨#[]⟩,.int .i64 0]] W' fun e W''=>e=.returned (.tuple #[])∧Hid (PG W0 pb wr sb' (add ⟨kd,[],0⟩ (F (next s'))) W'')):=fun W' hg=>by
    obtain⟨sb1,k1,k2⟩:=hg
    refine(add_c k1 ⟨kd,[],0⟩ (by have:=HS.out.2;have:=(HF.out (next s')).both;have:=HP.out.1.lim;omega)).mono ?_
    rintro e W'' ⟨rfl,q⟩
    exact⟨rfl,PG.trans k2 q⟩
   clear hi hf0 ht hkd
   go_wp2_with (first
    |(go_at_call 102;refine(CI.out).mono ?_;rintro en w2 ⟨rfl,hb2⟩;have B2:Hid (Below wr.heap.size wr w2):=hb2;clear hb2)
    |(go_at_call 103;refine(CN.out w2 B2.out).mono ?_;rintro en w3 ⟨rfl,G3⟩)
    |(go_at_call 161;refine(CK.out w3 G3.out).mono ?_;rintro en w4 ⟨rfl,G4⟩)
    |(go_at_call 163;refine(CP.out w4 G4.out).mono ?_;rintro en w5 ⟨rfl,G5⟩)
    |(go_at_call 162;refine(CA.out w5 G5.out).mono ?_;rintro en w6 ⟨rfl,G6⟩))
   have N:Hid ((add ⟨kd,[],0⟩ (F (next s'))).rest.length≤f0∧Less s (add ⟨kd,[],0⟩ (F (next s')))∧PG W0 pb W sb (add ⟨kd,[],0⟩ (F (next s'))) w6):=by
    have h1:=HS.out
    have h2:=HF.out (next s')
    have h3:=h2.rest
    refine⟨?_,HL.out.2.2.trans (zbP ((zaH s').trans h2) (by have:=h2.both;omega)),PG.trans HP.out.2 G6.out⟩
    show(F (next s')).rest.length≤f0
    have:=HL.out.1
    have:=HF0.out
    omega
   go_roundw
   case rel=>first | exact⟨f0,_,N.out.1,HE.out,N.out.2.1,N.out.2.2⟩ | ((repeat apply Exists.intro);exact⟨⟨f0,_,N.out.1,HE.out,N.out.2.1,N.out.2.2⟩,rfl⟩)
   case measure =>
    obtain⟨sb6,k1,_⟩:=N.out.2.2
    rw[k1.rlen,HP.out.1.rlen]
    show(F (next s')).rest.length<_
    have h1:=HS.out.1
    have h3:=(HF.out (next s')).rest
    omega
theorem row_product (hF:∀s,Less s (F s)) (HC:DoesP W0 pb 196 F m) (hO:HasO W0) (h:PS W0 W pb s sb) (hm:s.rest.length≤m) (hr:SR W a ts) (hn:n=ts.length) (hl:n≤1000) (ha:∀g o,a=some ⟨g,o,none⟩→g≠pb∧sb≠some g) :
  Calls Tryz.prog 137 #[.pointer (some ⟨pb,0,none⟩),.func (.func 196) #[.pointer (some ⟨pb,0,none⟩)] #[],.slice a n c] W fun e W'=>e=.returned (.tuple #[])∧PG W0 pb W sb (row F ts s) W':=by
 have HF:Hid (∀s,Less s (F s)):=hF
 have HK:Hid (DoesP W0 pb 196 F m):=HC
 have HO:Hid (HasO W0):=hO
 have HM:Hid (∀s',Less s s'→s'.rest.length≤m):=fun s' h'=>Nat.le_trans h'.rest hm
 have HR:Hid (∀s' W',PG W0 pb W sb s' W'→SR W' a ts):=fun s' W' h'=>hr.pg h' ha
 have HN:Hid (n=ts.length∧n≤1000):=⟨hn,hl⟩
 have CP1:Hid (Calls Tryz.prog 196 #[.pointer (some ⟨pb,0,none⟩)] W fun e W'=>e=.returned (.tuple #[])∧PG W0 pb W sb (F s) W'):=HC W s sb h hm
 clear hF HC hO h hm hr hn hl ha
 go_enter Tryz.func137,Tryz.ntmps137
 go_wp2_with fail
 refine(CP1.out).mono ?_
 rintro e w1 ⟨rfl,hg1⟩
 have G1:Hid (PG W0 pb W sb (F s) w1):=hg1
 clear hg1 CP1
 go_wp2_with fail
 go_loopw [6] (fun v wr=>∃(f:Nat) (s':S),s'.rest.length≤f∧rowL F ts f s'=row F ts s∧Less s s'∧PG W0 pb W sb s' wr) (fun _ W=>rlen W pb)
 case atStart=>exact⟨_,F s,Nat.le_refl _,rfl,HF.out s,G1.out⟩
 case round =>
  clear G1
  obtain⟨f,s',hf,hrow,hles,hg⟩:=hrel
  obtain⟨sb',h1,h2⟩:=hg
  have HL:Hid (s'.rest.length≤f∧rowL F ts f s'=row F ts s∧Less s s'):=⟨hf,hrow,hles⟩
  have HP:Hid (PS W0 wr pb s' sb'∧PCh pb W sb wr sb'):=⟨h1,h2⟩
  have CI:Hid (Calls Tryz.prog 102 #[.pointer (some ⟨pb,0,none⟩),.slice a n c] wr fun e W'=>e=.returned (.bool (is ts s'))∧Below wr.heap.size wr W'):=is_c h1 (HR.out s' wr ⟨sb',h1,h2⟩) HN.out.1 HN.out.2
  clear hf hrow hles h1 h2
  cases hi:is ts s' with
  | false =>
   rw[hi] at CI
   have HE:Hid (row F ts s=s'):=by show _=_;rw[←HL.out.2.1];exact rowL_no hi f
   clear hi
   go_wp2_with (go_at_call 102;refine(CI.out).mono ?_;rintro en w2 ⟨rfl,hb2⟩;have B2:Hid (Below wr.heap.size wr w2):=hb2;clear hb2)
   exact bodyPost_end (results_none (by rfl) _ _ _) rfl ⟨rfl,by rw[HE.out];exact PG.trans HP.out.2 ⟨sb',HP.out.1.call B2.out,PCh.of_below B2.out⟩⟩
  | true =>
   rw[hi] at CI
   obtain⟨f0,hf0⟩:∃f0,f=f0+1:=⟨f - 1,by
    have:=List.length_pos_iff.2 (is_ne hi)
    have:=HL.out.1
    omega⟩
   obtain⟨t,ht⟩:∃t,t=nextT s':=⟨_,rfl⟩
   obtain⟨kd,hkd⟩:∃kd,kd=kindOf t.text:=⟨_,rfl⟩
   have HS:Hid ((next s').rest.length+1≤s'.rest.length∧(next s').steps.length+(next s').rest.length+1≤s'.steps.length+s'.rest.length):=zaA (is_ne hi)
   have HE:Hid (rowL F ts f0 (add ⟨kd,[],0⟩ (F (next s')))=row F ts s):=by
    show _=_
    rw[←HL.out.2.1,hf0,rowL,if_pos hi,hkd,ht]
   have HF0:Hid (f=f0+1):=hf0
   have CN:Hid (∀W',Below wr.heap.size wr W'→Calls Tryz.prog 103 #[.pointer (some ⟨pb,0,none⟩)] W' fun e W''=>e=.returned (.agg #[.int .u8 (t.kind:Int),.string (Lx.bs t.text),.int .i64 t.n,.int .i64 (t.at':Int)])∧Hid (PG W0 pb wr sb' (next s') W'')):=fun W' hb=>by
    refine(next_c (HP.out.1.call hb) fun _=>is_ne hi).mono ?_
    rintro e W'' ⟨rfl,q⟩
    exact⟨by rw[ht];rfl,q.pre hb⟩
   have CK:Hid (∀W',PG W0 pb wr sb' (next s') W'→Calls Tryz.prog 161 #[.string (Lx.bs t.text)] W' fun e W''=>e=.returned (.int .u8 (kd:Int))∧Hid (PG W0 pb wr sb' (next s') W'')):=fun W' hg=>by
    obtain⟨sb1,k1,k2⟩:=hg
    refine(zdN t.text W' (k1.hasO HO.out)).mono ?_
    rintro e W'' ⟨rfl,hb⟩
    exact⟨by rw[hkd],PG.call ⟨sb1,k1,k2⟩ hb⟩
   have CP:Hid (∀W',PG W0 pb wr sb' (next s') W'→Calls Tryz.prog 196 #[.pointer (some ⟨pb,0,none⟩)] W' fun e W''=>e=.returned (.tuple #[])∧Hid (PG W0 pb wr sb' (F (next s')) W'')):=fun W' hg=>by
    obtain⟨sb1,k1,k2⟩:=hg
    refine(HK.out W' (next s') sb1 k1 (HM.out _ (HL.out.2.2.trans (zaH _)))).mono ?_
    rintro e W'' ⟨rfl,q⟩
    exact⟨rfl,PG.trans k2 q⟩
   have CA:Hid (∀W',PG W0 pb wr sb' (F (next s')) W'→Calls Tryz.prog 162 #[.pointer (some ⟨pb,0,none⟩),.agg #[.int .u8 (kd:Int),.string ⟨#[]⟩,.int .i64 0]] W' fun e W''=>e=.returned (.tuple #[])∧Hid (PG W0 pb wr sb' (add ⟨kd,[],0⟩ (F (next s'))) W'')):=fun W' hg=>by
    obtain⟨sb1,k1,k2⟩:=hg
    refine(add_c k1 ⟨kd,[],0⟩ (by have:=HS.out.2;have:=(HF.out (next s')).both;have:=HP.out.1.lim;omega)).mono ?_
    rintro e W'' ⟨rfl,q⟩
    exact⟨rfl,PG.trans k2 q⟩
   clear hi hf0 ht hkd
   go_wp2_with (first
    |(go_at_call 102;refine(CI.out).mono ?_;rintro en w2 ⟨rfl,hb2⟩;have B2:Hid (Below wr.heap.size wr w2):=hb2;clear hb2)
    |(go_at_call 103;refine(CN.out w2 B2.out).mono ?_;rintro en w3 ⟨rfl,G3⟩)
    |(go_at_call 161;refine(CK.out w3 G3.out).mono ?_;rintro en w4 ⟨rfl,G4⟩)
    |(go_at_call 196;refine(CP.out w4 G4.out).mono ?_;rintro en w5 ⟨rfl,G5⟩)
    |(go_at_call 162;refine(CA.out w5 G5.out).mono ?_;rintro en w6 ⟨rfl,G6⟩))
   have N:Hid ((add ⟨kd,[],0⟩ (F (next s'))).rest.length≤f0∧Less s (add ⟨kd,[],0⟩ (F (next s')))∧PG W0 pb W sb (add ⟨kd,[],0⟩ (F (next s'))) w6):=by
    have h1:=HS.out
    have h2:=HF.out (next s')
    have h3:=h2.rest
    refine⟨?_,HL.out.2.2.trans (zbP ((zaH s').trans h2) (by have:=h2.both;omega)),PG.trans HP.out.2 G6.out⟩
    show(F (next s')).rest.length≤f0
    have:=HL.out.1
    have:=HF0.out
    omega
   go_roundw
   case rel=>first | exact⟨f0,_,N.out.1,HE.out,N.out.2.1,N.out.2.2⟩ | ((repeat apply Exists.intro);exact⟨⟨f0,_,N.out.1,HE.out,N.out.2.1,N.out.2.2⟩,rfl⟩)
   case measure =>
    obtain⟨sb6,k1,_⟩:=N.out.2.2
    rw[k1.rlen,HP.out.1.rlen]
    show(F (next s')).rest.length<_
    have h1:=HS.out.1
    have h3:=(HF.out (next s')).rest
    omega
theorem row_signed (hF:∀s,Less s (F s)) (HC:DoesP W0 pb 197 F m) (hO:HasO W0) (h:PS W0 W pb s sb) (hm:s.rest.length≤m) (hr:SR W a ts) (hn:n=ts.length) (hl:n≤1000) (ha:∀g o,a=some ⟨g,o,none⟩→g≠pb∧sb≠some g) :
  Calls Tryz.prog 137 #[.pointer (some ⟨pb,0,none⟩),.func (.func 197) #[.pointer (some ⟨pb,0,none⟩)] #[],.slice a n c] W fun e W'=>e=.returned (.tuple #[])∧PG W0 pb W sb (row F ts s) W':=by
 have HF:Hid (∀s,Less s (F s)):=hF
 have HK:Hid (DoesP W0 pb 197 F m):=HC
 have HO:Hid (HasO W0):=hO
 have HM:Hid (∀s',Less s s'→s'.rest.length≤m):=fun s' h'=>Nat.le_trans h'.rest hm
 have HR:Hid (∀s' W',PG W0 pb W sb s' W'→SR W' a ts):=fun s' W' h'=>hr.pg h' ha
 have HN:Hid (n=ts.length∧n≤1000):=⟨hn,hl⟩
 have CP1:Hid (Calls Tryz.prog 197 #[.pointer (some ⟨pb,0,none⟩)] W fun e W'=>e=.returned (.tuple #[])∧PG W0 pb W sb (F s) W'):=HC W s sb h hm
 clear hF HC hO h hm hr hn hl ha
 go_enter Tryz.func137,Tryz.ntmps137
 go_wp2_with fail
 refine(CP1.out).mono ?_
 rintro e w1 ⟨rfl,hg1⟩
 have G1:Hid (PG W0 pb W sb (F s) w1):=hg1
 clear hg1 CP1
 go_wp2_with fail
 go_loopw [6] (fun v wr=>∃(f:Nat) (s':S),s'.rest.length≤f∧rowL F ts f s'=row F ts s∧Less s s'∧PG W0 pb W sb s' wr) (fun _ W=>rlen W pb)
 case atStart=>exact⟨_,F s,Nat.le_refl _,rfl,HF.out s,G1.out⟩
 case round =>
  clear G1
  obtain⟨f,s',hf,hrow,hles,hg⟩:=hrel
  obtain⟨sb',h1,h2⟩:=hg
  have HL:Hid (s'.rest.length≤f∧rowL F ts f s'=row F ts s∧Less s s'):=⟨hf,hrow,hles⟩
  have HP:Hid (PS W0 wr pb s' sb'∧PCh pb W sb wr sb'):=⟨h1,h2⟩
  have CI:Hid (Calls Tryz.prog 102 #[.pointer (some ⟨pb,0,none⟩),.slice a n c] wr fun e W'=>e=.returned (.bool (is ts s'))∧Below wr.heap.size wr W'):=is_c h1 (HR.out s' wr ⟨sb',h1,h2⟩) HN.out.1 HN.out.2
  clear hf hrow hles h1 h2
  cases hi:is ts s' with
  | false =>
   rw[hi] at CI
   have HE:Hid (row F ts s=s'):=by show _=_;rw[←HL.out.2.1];exact rowL_no hi f
   clear hi
   go_wp2_with (go_at_call 102;refine(CI.out).mono ?_;rintro en w2 ⟨rfl,hb2⟩;have B2:Hid (Below wr.heap.size wr w2):=hb2;clear hb2)
   exact bodyPost_end (results_none (by rfl) _ _ _) rfl ⟨rfl,by rw[HE.out];exact PG.trans HP.out.2 ⟨sb',HP.out.1.call B2.out,PCh.of_below B2.out⟩⟩
  | true =>
   rw[hi] at CI
   obtain⟨f0,hf0⟩:∃f0,f=f0+1:=⟨f - 1,by
    have:=List.length_pos_iff.2 (is_ne hi)
    have:=HL.out.1
    omega⟩
   obtain⟨t,ht⟩:∃t,t=nextT s':=⟨_,rfl⟩
   obtain⟨kd,hkd⟩:∃kd,kd=kindOf t.text:=⟨_,rfl⟩
   have HS:Hid ((next s').rest.length+1≤s'.rest.length∧(next s').steps.length+(next s').rest.length+1≤s'.steps.length+s'.rest.length):=zaA (is_ne hi)
   have HE:Hid (rowL F ts f0 (add ⟨kd,[],0⟩ (F (next s')))=row F ts s):=by
    show _=_
    rw[←HL.out.2.1,hf0,rowL,if_pos hi,hkd,ht]
   have HF0:Hid (f=f0+1):=hf0
   have CN:Hid (∀W',Below wr.heap.size wr W'→Calls Tryz.prog 103 #[.pointer (some ⟨pb,0,none⟩)] W' fun e W''=>e=.returned (.agg #[.int .u8 (t.kind:Int),.string (Lx.bs t.text),.int .i64 t.n,.int .i64 (t.at':Int)])∧Hid (PG W0 pb wr sb' (next s') W'')):=fun W' hb=>by
    refine(next_c (HP.out.1.call hb) fun _=>is_ne hi).mono ?_
    rintro e W'' ⟨rfl,q⟩
    exact⟨by rw[ht];rfl,q.pre hb⟩
   have CK:Hid (∀W',PG W0 pb wr sb' (next s') W'→Calls Tryz.prog 161 #[.string (Lx.bs t.text)] W' fun e W''=>e=.returned (.int .u8 (kd:Int))∧Hid (PG W0 pb wr sb' (next s') W'')):=fun W' hg=>by
    obtain⟨sb1,k1,k2⟩:=hg
    refine(zdN t.text W' (k1.hasO HO.out)).mono ?_
    rintro e W'' ⟨rfl,hb⟩
    exact⟨by rw[hkd],PG.call ⟨sb1,k1,k2⟩ hb⟩
   have CP:Hid (∀W',PG W0 pb wr sb' (next s') W'→Calls Tryz.prog 197 #[.pointer (some ⟨pb,0,none⟩)] W' fun e W''=>e=.returned (.tuple #[])∧Hid (PG W0 pb wr sb' (F (next s')) W'')):=fun W' hg=>by
    obtain⟨sb1,k1,k2⟩:=hg
    refine(HK.out W' (next s') sb1 k1 (HM.out _ (HL.out.2.2.trans (zaH _)))).mono ?_
    rintro e W'' ⟨rfl,q⟩
    exact⟨rfl,PG.trans k2 q⟩
   have CA:Hid (∀W',PG W0 pb wr sb' (F (next s')) W'→Calls Tryz.prog 162 #[.pointer (some ⟨pb,0,none⟩),.agg #[.int .u8 (kd:Int),.string ⟨#[]⟩,.int .i64 0]] W' fun e W''=>e=.returned (.tuple #[])∧Hid (PG W0 pb wr sb' (add ⟨kd,[],0⟩ (F (next s'))) W'')):=fun W' hg=>by
    obtain⟨sb1,k1,k2⟩:=hg
    refine(add_c k1 ⟨kd,[],0⟩ (by have:=HS.out.2;have:=(HF.out (next s')).both;have:=HP.out.1.lim;omega)).mono ?_
    rintro e W'' ⟨rfl,q⟩
    exact⟨rfl,PG.trans k2 q⟩
   clear hi hf0 ht hkd
   go_wp2_with (first
    |(go_at_call 102;refine(CI.out).mono ?_;rintro en w2 ⟨rfl,hb2⟩;have B2:Hid (Below wr.heap.size wr w2):=hb2;clear hb2)
    |(go_at_call 103;refine(CN.out w2 B2.out).mono ?_;rintro en w3 ⟨rfl,G3⟩)
    |(go_at_call 161;refine(CK.out w3 G3.out).mono ?_;rintro en w4 ⟨rfl,G4⟩)
    |(go_at_call 197;refine(CP.out w4 G4.out).mono ?_;rintro en w5 ⟨rfl,G5⟩)
    |(go_at_call 162;refine(CA.out w5 G5.out).mono ?_;rintro en w6 ⟨rfl,G6⟩))
   have N:Hid ((add ⟨kd,[],0⟩ (F (next s'))).rest.length≤f0∧Less s (add ⟨kd,[],0⟩ (F (next s')))∧PG W0 pb W sb (add ⟨kd,[],0⟩ (F (next s'))) w6):=by
    have h1:=HS.out
    have h2:=HF.out (next s')
    have h3:=h2.rest
    refine⟨?_,HL.out.2.2.trans (zbP ((zaH s').trans h2) (by have:=h2.both;omega)),PG.trans HP.out.2 G6.out⟩
    show(F (next s')).rest.length≤f0
    have:=HL.out.1
    have:=HF0.out
    omega
   go_roundw
   case rel=>first | exact⟨f0,_,N.out.1,HE.out,N.out.2.1,N.out.2.2⟩ | ((repeat apply Exists.intro);exact⟨⟨f0,_,N.out.1,HE.out,N.out.2.1,N.out.2.2⟩,rfl⟩)
   case measure =>
    obtain⟨sb6,k1,_⟩:=N.out.2.2
    rw[k1.rlen,HP.out.1.rlen]
    show(F (next s')).rest.length<_
    have h1:=HS.out.1
    have h3:=(HF.out (next s')).rest
    omega
end
end Ps
end Go.Proofs.YtfhkaffakniioaaGreatDoor
