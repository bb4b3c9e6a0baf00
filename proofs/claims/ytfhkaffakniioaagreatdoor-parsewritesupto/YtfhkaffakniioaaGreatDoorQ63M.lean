/- Several texts, joined. -/
import Derived.Test.YtfhkaffakniioaaGreatDoorQ18M
set_option maxHeartbeats 8000000
set_option maxRecDepth 100000
namespace Go.Proofs.YtfhkaffakniioaaGreatDoor
open Go.RowKit
namespace Ps
structure PChX (pb X:Nat) (W:World) (sb:Option Nat) (W':World) (sb':Option Nat):Prop where
 kept:Kp (fun g=>g=pb∨sb=some g∨X≤g) W W'
 new:sb'=sb∨∃g,sb'=some g∧X≤g
 stp:Stp pb W sb W' sb'
theorem PChX.trans {pb X:Nat} {W W1 W2:World} {sb sb1 sb2:Option Nat} (h:PChX pb X W sb W1 sb1) (k:PChX pb X W1 sb1 W2 sb2):PChX pb X W sb W2 sb2:=by
 refine⟨h.kept.trans k.kept fun g hg q=>?_,?_,h.stp.trans h.kept.size k.stp⟩
 ·rcases q with q | q | q
  ·exact .inl q
  ·rcases h.new with e | ⟨g',e,hg'⟩
   ·exact .inr (.inl (e ▸ q))
   ·rw[e] at q
    cases q
    exact .inr (.inr hg')
  ·exact .inr (.inr q)
 ·rcases k.new with e | ⟨g,e,hg⟩
  ·rw[e];exact h.new
  ·exact .inr ⟨g,e,hg⟩
theorem PChX.of {pb X:Nat} {W W':World} {sb sb':Option Nat} (h:PCh pb W sb W' sb') (hX:X≤W.heap.size):PChX pb X W sb W' sb' :=
 ⟨⟨h.kept.os,h.kept.tape,h.kept.output,h.kept.size,fun k hk q=>h.kept.block k hk fun e=>e.elim (fun e=>q (.inl e)) fun e=>q (.inr (.inl e))⟩,h.new.imp id fun⟨g,e,hg⟩=>⟨g,e,Nat.le_trans hX hg⟩,h.stp⟩
theorem PChX.to {pb X:Nat} {W W':World} {sb sb':Option Nat} (h:PChX pb X W sb W' sb') (hX:W.heap.size≤X):PCh pb W sb W' sb' :=
 ⟨⟨h.kept.os,h.kept.tape,h.kept.output,h.kept.size,fun k hk q=>h.kept.block k hk fun e=>e.elim (fun e=>q (.inl e)) fun e=>e.elim (fun e=>q (.inr e)) fun e=>by omega⟩,h.new.imp id fun⟨g,e,hg⟩=>⟨g,e,Nat.le_trans hX hg⟩,h.stp⟩
def PGX (W0:World) (pb X:Nat) (W:World) (sb:Option Nat) (s':S) (W':World):Prop:=∃sb',PS W0 W' pb s' sb'∧PChX pb X W sb W' sb'
theorem PGX.of {W0 W W':World} {pb X:Nat} {s':S} {sb:Option Nat} (h:PG W0 pb W sb s' W') (hX:X≤W.heap.size):PGX W0 pb X W sb s' W':=by
 obtain⟨sb',k1,k2⟩:=h
 exact⟨sb',k1,PChX.of k2 hX⟩
theorem PGX.trans {W0 W W1 W2:World} {pb X:Nat} {s:S} {sb sb1:Option Nat} (h:PChX pb X W sb W1 sb1) (k:PGX W0 pb X W1 sb1 s W2):PGX W0 pb X W sb s W2:=by
 obtain⟨sb',k1,k2⟩:=k
 exact⟨sb',k1,h.trans k2⟩
def PartOK {E:Type} (W0:World) (pb X K:Nat) (args:Array Value) (PE:Nat→E→World→Prop) (part:S→E→S × E) (m:Nat):Prop:=∀(W:World) (s:S) (sb:Option Nat) (e:E) (k:Nat),k≤20000→X≤W.heap.size→PS W0 W pb s sb→PE k e W→s.rest.length≤m→Calls Tryz.prog K args W fun en W'=>en=.returned (.tuple #[])∧PGX W0 pb X W sb (part s e).1 W'∧PE (k+1) (part s e).2 W'
structure QI {E:Type} (W0:World) (pb X:Nat) (W:World) (sb:Option Nat) (PE:Nat→E→World→Prop) (part:S→E→S × E) (s:S) (R:S × E × Nat) (b:Bool) (k:Nat) (s':S) (e':E) (f:Nat) (wr:World):Prop where
 go:b=true→s'.rest.length+1≤f∧partsL part f k s' e'=R
 stop:b=false→R=(s',e',k)
 less:Less s s'
 pg:PGX W0 pb X W sb s' wr
 pe:PE k e' wr
 few:k+s'.rest.length≤s.rest.length+1
 bd:b=true→k+s'.rest.length≤s.rest.length
section
variable {E:Type} {W0:World} {pb X:Nat} {W:World} {s:S} {sb:Option Nat} {e:E} {PE:Nat→E→World→Prop} {part:S→E→S × E} {m:Nat}
theorem parts_list (hF:∀s e,Less s (part s e).1) (HC:PartOK W0 pb X 106 #[.pointer (some ⟨pb,0,none⟩)] PE part m) (hE:∀(k:Nat) (e:E) (W W':World) (s s':S) (sb:Option Nat),PS W0 W pb s sb→PG W0 pb W sb s' W'→PE k e W→PE k e W') (h:PS W0 W pb s sb) (he:PE 0 e W) (hX:X≤W.heap.size) (hm:s.rest.length≤m) :
  Calls Tryz.prog 107 #[.pointer (some ⟨pb,0,none⟩),.func (.func 106) #[.pointer (some ⟨pb,0,none⟩)] #[]] W fun en W'=>en=.returned (.int .i64 ((parts part s e).2.2:Int))∧PGX W0 pb X W sb (parts part s e).1 W'∧PE (parts part s e).2.2 (parts part s e).2.1 W'∧(parts part s e).2.2≤s.rest.length+1:=by
 have HF:Hid (∀s e,Less s (part s e).1):=hF
 have HK:Hid (PartOK W0 pb X 106 #[.pointer (some ⟨pb,0,none⟩)] PE part m):=HC
 have HE:Hid (∀(k:Nat) (e:E) (W W':World) (s s':S) (sb:Option Nat),PS W0 W pb s sb→PG W0 pb W sb s' W'→PE k e W→PE k e W'):=hE
 have HM:Hid (s.rest.length≤m∧X≤W.heap.size∧s.rest.length≤20000):=⟨hm,hX,by have:=h.lim;omega⟩
 obtain⟨R,hR⟩:∃R,R=parts part s e:=⟨_,rfl⟩
 have I0:Hid (QI W0 pb X W sb PE part s R true 0 s e (s.rest.length+1) W):=⟨fun _=>⟨Nat.le_refl _,by rw[hR];rfl⟩,fun q=>(by cases q),Less.refl s,PGX.of (PG.refl h) hX,he,by omega,fun _=>by omega⟩
 rw[←hR]
 clear hF HC hE h he hX hm hR
 go_enter Tryz.func107,Tryz.ntmps107
 go_wp2
 go_loopw [5,6] (fun v u wr=>∃(b:Bool) (k:Nat) (s':S) (e':E) (f:Nat),v=.int .i64 (k:Int)∧u=.bool b∧QI W0 pb X W sb PE part s R b k s' e' f wr) (fun _ u W=>2*rlen W pb+(match u with | .bool true=>1 | _=>0))
 case atStart=>exact⟨true,0,s,e,_,rfl,rfl,I0.out⟩
 case round =>
  clear I0
  obtain⟨b,k,s',e',f,rfl,rfl,hI⟩:=hrel
  have I:=hidp hI
  cases b with
  | false =>
   have HR:Hid (R=(s',e',k)):=hI.stop rfl
   clear hI
   go_wp2
   go_ret
   exact⟨by rw[HR.out];rfl,by rw[HR.out];exact I.out.pg,by rw[HR.out];exact I.out.pe,by rw[HR.out];have:=I.out.few;show k≤_;omega⟩
  | true =>
   obtain⟨sb',k1,k2⟩:=hI.pg
   have HP:Hid (PS W0 wr pb s' sb'∧PChX pb X W sb wr sb'):=⟨k1,k2⟩
   obtain⟨hf,hrow⟩:=hI.go rfl
   obtain⟨f0,hf0⟩:∃f0,f=f0+1:=⟨f - 1,by omega⟩
   have HF0:Hid (s'.rest.length≤f0∧R=(if is [[44]] (part (open1 k s') e').1 then partsL part f0 (k+1) (next (part (open1 k s') e').1) (part (open1 k s') e').2 else ((part (open1 k s') e').1,(part (open1 k s') e').2,k+1))):=⟨by omega,by rw[←hrow,hf0,partsL]⟩
   obtain⟨ra,rc,sv,H,p0,p1,p2,p3,p4,p5,p6,pf⟩:=k1.cells
   have hpl:=k1.blt
   obtain⟨k9,hk9⟩:∃k9,k9=k+1:=⟨_,rfl⟩
   have HK9:Hid (k9=k+1):=hk9
   have HV:Hid (IntKind.i64.wrap ((k:Int)+1)=(k9:Int)∧wrap64 ((k:Int)+1)=(k9:Int)):=wrp (by omega) (by have:=hI.few;have:=HM.out;omega)
   obtain⟨ov,hov⟩:∃ov,ov=(s'.over || k==64):=⟨_,rfl⟩
   obtain⟨b1,b2⟩:=k1.set (i:=2) (v:=.bool ov) (s':=open1 k s') rfl rfl k1.around k1.nums (fun _ _ _=>by rw[hov];rfl)
   have HP2:Hid (PS W0 (wr.setCell ⟨pb,2,none⟩ (.bool ov)) pb (open1 k s') sb'∧PChX pb X W sb (wr.setCell ⟨pb,2,none⟩ (.bool ov)) sb'∧PE k e' (wr.setCell ⟨pb,2,none⟩ (.bool ov))∧X≤(wr.setCell ⟨pb,2,none⟩ (.bool ov)).heap.size):=by
    have hx:X≤wr.heap.size:=Nat.le_trans HM.out.2.1 k2.kept.size
    exact⟨b1,k2.trans (PChX.of b2 hx),HE.out k e' wr _ s' (open1 k s') sb' k1 ⟨sb',b1,b2⟩ hI.pe,by simpa using hx⟩
   obtain⟨so,hso⟩:∃so,so=s'.over:=⟨_,rfl⟩
   rw[←hso] at p2 hov
   obtain⟨nb0,hnb⟩:∃nb0,nb0=(k==64):=⟨_,rfl⟩
   have qn:((k:Int)==64)=nb0:=by
    rw[hnb]
    by_cases q:k=64
    ·rw[q];rfl
    ·have e1:((k:Int)==64)=false:=by simp;omega
     have e2:(k==64)=false:=by simp;omega
     rw[e1,e2]
   rw[←hnb] at hov
   clear hI k1 k2 hf hrow hf0 H p0 p1 p3 p4 p5 p6 b1 b2 hso hnb hk9
   have W2:Hid (∃w2,w2=wr.setCell ⟨pb,2,none⟩ (.bool ov)):=⟨_,rfl⟩
   have HOV:Hid (ov=(so || nb0)):=hov
   clear hov
   cases so
   all_goals
    go_upto_region 6 with fail
   ·obtain rfl:ov=nb0:=HOV.out
    obtain⟨w2,hw2⟩:∃w2,w2=wr.setCell ⟨pb,2,none⟩ (.bool ov):=⟨_,rfl⟩
    rw[←hw2] at HP2 ⊢
    clear hw2 p2 pf hpl qn W2
    obtain⟨z,hz⟩:∃z,z=(part (open1 k s') e').1:=⟨_,rfl⟩
    obtain⟨ee,hee⟩:∃ee,ee=(part (open1 k s') e').2:=⟨_,rfl⟩
    have HZ:Hid (Less s' z):=by show Less _ _;rw[hz];exact(zbO k s').trans (HF.out (open1 k s') e')
    have CP:Hid (Calls Tryz.prog 106 #[.pointer (some ⟨pb,0,none⟩)] w2 fun en W'=>en=.returned (.tuple #[])∧Hid (PGX W0 pb X w2 sb' z W'∧PE k9 ee W')):=by
     rw[hz,hee,HK9.out]
     exact HK.out w2 (open1 k s') sb' e' k (by have:=I.out.bd rfl;have:=HM.out;omega) HP2.out.2.2.2 HP2.out.1 HP2.out.2.2.1 (Nat.le_trans (I.out.less.rest) HM.out.1)
    rw[←hz,←hee] at HF0
    clear hz hee
    go_wp2_with fail
    refine(CP.out).mono ?_
    rintro en w3 ⟨rfl,G3⟩
    clear CP
    obtain⟨sb3,k1,k2⟩:=G3.out.1
    have HP3:Hid (PS W0 w3 pb z sb3∧PChX pb X W sb w3 sb3):=⟨k1,HP2.out.2.1.trans k2⟩
    have hx3:X≤w3.heap.size:=Nat.le_trans HP2.out.2.2.2 k2.kept.size
    have CM:Hid (Calls Tryz.prog 109 #[.pointer (some ⟨pb,0,none⟩),.slice (some ⟨w3.heap.size,0,none⟩) 1 1] (w3.alloc (.cells #[.string ⟨#[44]⟩] 9)) fun e W''=>e=.returned (.bool (is [[44]] z))∧Hid (PG W0 pb w3 sb3 (may [[44]] z) W'')):=zbN k1 (ts:=[[44]]) rfl rfl (by decide)
    have HX3:Hid (X≤w3.heap.size):=hx3
    clear k1 k2 hx3
    obtain⟨v1,v2⟩:=HV.out
    go_wp2_with fail
    clear v1 v2
    refine(CM.out).mono ?_
    rintro en w4 ⟨rfl,G4⟩
    have PE4:Hid (PE k9 ee w4):=HE.out k9 ee w3 w4 z _ sb3 HP3.out.1 G4.out G3.out.2
    have PG4:Hid (PGX W0 pb X W sb (may [[44]] z) w4):=PGX.trans HP3.out.2 (PGX.of G4.out HX3.out)
    have RL:Hid (rlen wr pb=s'.rest.length∧rlen w4 pb=(may [[44]] z).rest.length):=by
     obtain⟨sb4,k4,_⟩:=PG4.out
     exact⟨HP.out.1.rlen,k4.rlen⟩
    cases hi:is [[44]] z with
    | true =>
     have HS:=hidp (zaA (is_ne hi)).1
     have N:Hid (QI W0 pb X W sb PE part s R true k9 (next z) ee f0 w4):=by
      have e1:=HF0.out.2
      rw[if_pos hi] at e1
      have e2:=PG4.out
      rw[may,if_pos hi] at e2
      have h1:=HS.out
      have h2:=HZ.out.rest
      have h3:=I.out.bd rfl
      have h4:=HF0.out.1
      have h5:=HK9.out
      exact⟨fun _=>⟨by omega,by rw[e1,HK9.out]⟩,fun q=>(by cases q),(I.out.less.trans HZ.out).trans (zaH z),e2,PE4.out,by omega,fun _=>by omega⟩
     have MS:Hid ((may [[44]] z).rest.length+1≤s'.rest.length):=by
      show _≤_
      rw[may,if_pos hi]
      have:=HS.out
      have:=HZ.out.rest
      omega
     clear hi
     go_wp2
     go_roundw
     case rel=>first | exact⟨true,k9,next z,ee,f0,rfl,rfl,N.out⟩ | ((repeat apply Exists.intro);exact⟨⟨true,k9,next z,ee,f0,rfl,rfl,N.out⟩,rfl⟩)
     case measure =>
      rw[RL.out.1,RL.out.2]
      have:=MS.out
      show 2*_+1<2*_+1
      omega
    | false =>
     have N:Hid (QI W0 pb X W sb PE part s R false k9 z ee f0 w4):=by
      have e1:=HF0.out.2
      rw[hi] at e1
      have e2:=PG4.out
      rw[may,hi] at e2
      have h2:=HZ.out.rest
      have h3:=I.out.bd rfl
      have h5:=HK9.out
      exact⟨fun q=>(by cases q),fun _=>(by rw[e1,HK9.out];rfl),I.out.less.trans HZ.out,e2,PE4.out,by omega,fun q=>(by cases q)⟩
     have MS:Hid ((may [[44]] z).rest.length≤s'.rest.length):=by
      show _≤_
      rw[may,hi]
      exact HZ.out.rest
     clear hi
     go_wp2
     go_roundw
     case rel=>first | exact⟨false,k9,z,ee,f0,rfl,rfl,N.out⟩ | ((repeat apply Exists.intro);exact⟨⟨false,k9,z,ee,f0,rfl,rfl,N.out⟩,rfl⟩)
     case measure =>
      rw[RL.out.1,RL.out.2]
      have:=MS.out
      show 2*_+0<2*_+1
      omega
   ·obtain rfl:ov=true:=HOV.out
    obtain⟨w2,hw2⟩:∃w2,w2=wr.setCell ⟨pb,2,none⟩ (.bool true):=⟨_,rfl⟩
    rw[←hw2] at HP2 ⊢
    clear hw2 p2 pf hpl qn W2
    obtain⟨z,hz⟩:∃z,z=(part (open1 k s') e').1:=⟨_,rfl⟩
    obtain⟨ee,hee⟩:∃ee,ee=(part (open1 k s') e').2:=⟨_,rfl⟩
    have HZ:Hid (Less s' z):=by show Less _ _;rw[hz];exact(zbO k s').trans (HF.out (open1 k s') e')
    have CP:Hid (Calls Tryz.prog 106 #[.pointer (some ⟨pb,0,none⟩)] w2 fun en W'=>en=.returned (.tuple #[])∧Hid (PGX W0 pb X w2 sb' z W'∧PE k9 ee W')):=by
     rw[hz,hee,HK9.out]
     exact HK.out w2 (open1 k s') sb' e' k (by have:=I.out.bd rfl;have:=HM.out;omega) HP2.out.2.2.2 HP2.out.1 HP2.out.2.2.1 (Nat.le_trans (I.out.less.rest) HM.out.1)
    rw[←hz,←hee] at HF0
    clear hz hee
    go_wp2_with fail
    refine(CP.out).mono ?_
    rintro en w3 ⟨rfl,G3⟩
    clear CP
    obtain⟨sb3,k1,k2⟩:=G3.out.1
    have HP3:Hid (PS W0 w3 pb z sb3∧PChX pb X W sb w3 sb3):=⟨k1,HP2.out.2.1.trans k2⟩
    have hx3:X≤w3.heap.size:=Nat.le_trans HP2.out.2.2.2 k2.kept.size
    have CM:Hid (Calls Tryz.prog 109 #[.pointer (some ⟨pb,0,none⟩),.slice (some ⟨w3.heap.size,0,none⟩) 1 1] (w3.alloc (.cells #[.string ⟨#[44]⟩] 9)) fun e W''=>e=.returned (.bool (is [[44]] z))∧Hid (PG W0 pb w3 sb3 (may [[44]] z) W'')):=zbN k1 (ts:=[[44]]) rfl rfl (by decide)
    have HX3:Hid (X≤w3.heap.size):=hx3
    clear k1 k2 hx3
    obtain⟨v1,v2⟩:=HV.out
    go_wp2_with fail
    clear v1 v2
    refine(CM.out).mono ?_
    rintro en w4 ⟨rfl,G4⟩
    have PE4:Hid (PE k9 ee w4):=HE.out k9 ee w3 w4 z _ sb3 HP3.out.1 G4.out G3.out.2
    have PG4:Hid (PGX W0 pb X W sb (may [[44]] z) w4):=PGX.trans HP3.out.2 (PGX.of G4.out HX3.out)
    have RL:Hid (rlen wr pb=s'.rest.length∧rlen w4 pb=(may [[44]] z).rest.length):=by
     obtain⟨sb4,k4,_⟩:=PG4.out
     exact⟨HP.out.1.rlen,k4.rlen⟩
    cases hi:is [[44]] z with
    | true =>
     have HS:=hidp (zaA (is_ne hi)).1
     have N:Hid (QI W0 pb X W sb PE part s R true k9 (next z) ee f0 w4):=by
      have e1:=HF0.out.2
      rw[if_pos hi] at e1
      have e2:=PG4.out
      rw[may,if_pos hi] at e2
      have h1:=HS.out
      have h2:=HZ.out.rest
      have h3:=I.out.bd rfl
      have h4:=HF0.out.1
      have h5:=HK9.out
      exact⟨fun _=>⟨by omega,by rw[e1,HK9.out]⟩,fun q=>(by cases q),(I.out.less.trans HZ.out).trans (zaH z),e2,PE4.out,by omega,fun _=>by omega⟩
     have MS:Hid ((may [[44]] z).rest.length+1≤s'.rest.length):=by
      show _≤_
      rw[may,if_pos hi]
      have:=HS.out
      have:=HZ.out.rest
      omega
     clear hi
     go_wp2
     go_roundw
     case rel=>first | exact⟨true,k9,next z,ee,f0,rfl,rfl,N.out⟩ | ((repeat apply Exists.intro);exact⟨⟨true,k9,next z,ee,f0,rfl,rfl,N.out⟩,rfl⟩)
     case measure =>
      rw[RL.out.1,RL.out.2]
      have:=MS.out
      show 2*_+1<2*_+1
      omega
    | false =>
     have N:Hid (QI W0 pb X W sb PE part s R false k9 z ee f0 w4):=by
      have e1:=HF0.out.2
      rw[hi] at e1
      have e2:=PG4.out
      rw[may,hi] at e2
      have h2:=HZ.out.rest
      have h3:=I.out.bd rfl
      have h5:=HK9.out
      exact⟨fun q=>(by cases q),fun _=>(by rw[e1,HK9.out];rfl),I.out.less.trans HZ.out,e2,PE4.out,by omega,fun q=>(by cases q)⟩
     have MS:Hid ((may [[44]] z).rest.length≤s'.rest.length):=by
      show _≤_
      rw[may,hi]
      exact HZ.out.rest
     clear hi
     go_wp2
     go_roundw
     case rel=>first | exact⟨false,k9,z,ee,f0,rfl,rfl,N.out⟩ | ((repeat apply Exists.intro);exact⟨⟨false,k9,z,ee,f0,rfl,rfl,N.out⟩,rfl⟩)
     case measure =>
      rw[RL.out.1,RL.out.2]
      have:=MS.out
      show 2*_+0<2*_+1
      omega
theorem till_list (cl:Bs) (hF:∀s e,Less s (part s e).1) (HC:PartOK W0 pb X 106 #[.pointer (some ⟨pb,0,none⟩)] PE part m) (hE:∀(k:Nat) (e:E) (W W':World) (s s':S) (sb:Option Nat),PS W0 W pb s sb→PG W0 pb W sb s' W'→PE k e W→PE k e W') (h:PS W0 W pb s sb) (he:PE 0 e W) (hX:X≤W.heap.size) (hm:s.rest.length≤m) :
  Calls Tryz.prog 203 #[.pointer (some ⟨pb,0,none⟩),.string (Lx.bs cl),.func (.func 106) #[.pointer (some ⟨pb,0,none⟩)] #[]] W fun en W'=>en=.returned (.int .i64 ((zaG cl part s e).2.2:Int))∧PGX W0 pb X W sb (zaG cl part s e).1 W'∧PE (zaG cl part s e).2.2 (zaG cl part s e).2.1 W'∧(zaG cl part s e).2.2≤s.rest.length+1:=by
 have CM:Hid (Calls Tryz.prog 109 #[.pointer (some ⟨pb,0,none⟩),.slice (some ⟨W.heap.size,0,none⟩) 1 1] (W.alloc (.cells #[.string (Lx.bs cl)] 9)) fun e W''=>e=.returned (.bool (is [cl] s))∧Hid (PG W0 pb W sb (may [cl] s) W'')):=zbN h (ts:=[cl]) rfl rfl (by simp)
 have HX:Hid (X≤W.heap.size):=hX
 cases hi:is [cl] s with
 | true =>
  rw[hi,may,if_pos hi] at CM
  have HR:Hid (zaG cl part s e=(next s,e,0)):=by show _=_;rw[zaG,if_pos hi]
  have HE1:Hid (∀W',PG W0 pb W sb (next s) W'→PE 0 e W'):=fun W' hg=>hE 0 e W W' s _ sb h hg he
  clear hi hF HC hE h he hX hm
  go_enter Tryz.func203,Tryz.ntmps203
  go_wp2_with fail
  refine(CM.out).mono ?_
  rintro en w2 ⟨rfl,G2⟩
  go_wp2
  go_ret
  exact⟨by rw[HR.out];rfl,by rw[HR.out];exact PGX.of G2.out HX.out,by rw[HR.out];exact HE1.out w2 G2.out,by rw[HR.out];exact Nat.zero_le _⟩
 | false =>
  rw[hi,may,hi] at CM
  obtain⟨R,hR⟩:∃R,R=parts part s e:=⟨_,rfl⟩
  have HR:Hid (zaG cl part s e=(must [cl] R.1,R.2.1,R.2.2)):=by show _=_;rw[zaG,hi,hR];rfl
  have HE:Hid (∀(k:Nat) (e:E) (W W':World) (s s':S) (sb:Option Nat),PS W0 W pb s sb→PG W0 pb W sb s' W'→PE k e W→PE k e W'):=hE
  have CP:Hid (∀W',PG W0 pb W sb s W'→Calls Tryz.prog 107 #[.pointer (some ⟨pb,0,none⟩),.func (.func 106) #[.pointer (some ⟨pb,0,none⟩)] #[]] W' fun en W''=>en=.returned (.int .i64 (R.2.2:Int))∧Hid (PGX W0 pb X W sb R.1 W''∧PE R.2.2 R.2.1 W''∧R.2.2≤s.rest.length+1)):=fun W' hg=>by
   have hg':=hg
   obtain⟨sb1,k1,k2⟩:=hg
   rw[hR]
   refine(parts_list hF HC hE k1 (hE 0 e W W' s s sb h hg' he) (Nat.le_trans hX hg'.size) hm).mono ?_
   rintro en W'' ⟨rfl,q1,q2,q3⟩
   exact⟨rfl,PGX.trans (PChX.of k2 hX) q1,q2,q3⟩
  have CU:Hid (∀(W':World),PGX W0 pb X W sb R.1 W'→PE R.2.2 R.2.1 W'→Calls Tryz.prog 70 #[.pointer (some ⟨pb,0,none⟩),.slice (some ⟨W'.heap.size,0,none⟩) 1 1] (W'.alloc (.cells #[.string (Lx.bs cl)] 9)) fun en W''=>(∃b,en=.returned (.string b))∧Hid (PGX W0 pb X W sb (must [cl] R.1) W''∧PE R.2.2 R.2.1 W'')):=fun W' hg he'=>by
   obtain⟨sb1,k1,k2⟩:=hg
   refine(zcG k1 (ts:=[cl]) rfl rfl (by simp)).mono ?_
   rintro en W'' ⟨rfl,q⟩
   exact⟨⟨_,rfl⟩,PGX.trans k2 (PGX.of q.out (Nat.le_trans HX.out k2.kept.size)),HE.out _ _ W' W'' _ _ sb1 k1 q.out he'⟩
  clear hi hF HC hE h he hX hm hR
  go_enter Tryz.func203,Tryz.ntmps203
  go_wp2_with fail
  refine(CM.out).mono ?_
  rintro en w2 ⟨rfl,G2⟩
  go_wp2_with fail
  refine(CP.out w2 G2.out).mono ?_
  rintro en w3 ⟨rfl,G3⟩
  go_wp2_with fail
  refine(CU.out w3 G3.out.1 G3.out.2.1).mono ?_
  rintro en w4 ⟨⟨b,rfl⟩,G4⟩
  go_wp2
  go_ret
  exact⟨by rw[HR.out];rfl,by rw[HR.out];exact G4.out.1,by rw[HR.out];exact G4.out.2,by rw[HR.out];exact G3.out.2.2⟩
theorem parts_fields {nb bx:Nat} (hF:∀s e,Less s (part s e).1) (HC:PartOK W0 pb X 204 #[.pointer (some ⟨nb,0,none⟩),.pointer (some ⟨bx,0,none⟩)] PE part m) (hE:∀(k:Nat) (e:E) (W W':World) (s s':S) (sb:Option Nat),PS W0 W pb s sb→PG W0 pb W sb s' W'→PE k e W→PE k e W') (h:PS W0 W pb s sb) (he:PE 0 e W) (hX:X≤W.heap.size) (hm:s.rest.length≤m) :
  Calls Tryz.prog 107 #[.pointer (some ⟨pb,0,none⟩),.func (.func 204) #[] #[.pointer (some ⟨nb,0,none⟩),.pointer (some ⟨bx,0,none⟩)]] W fun en W'=>en=.returned (.int .i64 ((parts part s e).2.2:Int))∧PGX W0 pb X W sb (parts part s e).1 W'∧PE (parts part s e).2.2 (parts part s e).2.1 W'∧(parts part s e).2.2≤s.rest.length+1:=by
 have HF:Hid (∀s e,Less s (part s e).1):=hF
 have HK:Hid (PartOK W0 pb X 204 #[.pointer (some ⟨nb,0,none⟩),.pointer (some ⟨bx,0,none⟩)] PE part m):=HC
 have HE:Hid (∀(k:Nat) (e:E) (W W':World) (s s':S) (sb:Option Nat),PS W0 W pb s sb→PG W0 pb W sb s' W'→PE k e W→PE k e W'):=hE
 have HM:Hid (s.rest.length≤m∧X≤W.heap.size∧s.rest.length≤20000):=⟨hm,hX,by have:=h.lim;omega⟩
 obtain⟨R,hR⟩:∃R,R=parts part s e:=⟨_,rfl⟩
 have I0:Hid (QI W0 pb X W sb PE part s R true 0 s e (s.rest.length+1) W):=⟨fun _=>⟨Nat.le_refl _,by rw[hR];rfl⟩,fun q=>(by cases q),Less.refl s,PGX.of (PG.refl h) hX,he,by omega,fun _=>by omega⟩
 rw[←hR]
 clear hF HC hE h he hX hm hR
 go_enter Tryz.func107,Tryz.ntmps107
 go_wp2
 go_loopw [5,6] (fun v u wr=>∃(b:Bool) (k:Nat) (s':S) (e':E) (f:Nat),v=.int .i64 (k:Int)∧u=.bool b∧QI W0 pb X W sb PE part s R b k s' e' f wr) (fun _ u W=>2*rlen W pb+(match u with | .bool true=>1 | _=>0))
 case atStart=>exact⟨true,0,s,e,_,rfl,rfl,I0.out⟩
 case round =>
  clear I0
  obtain⟨b,k,s',e',f,rfl,rfl,hI⟩:=hrel
  have I:=hidp hI
  cases b with
  | false =>
   have HR:Hid (R=(s',e',k)):=hI.stop rfl
   clear hI
   go_wp2
   go_ret
   exact⟨by rw[HR.out];rfl,by rw[HR.out];exact I.out.pg,by rw[HR.out];exact I.out.pe,by rw[HR.out];have:=I.out.few;show k≤_;omega⟩
  | true =>
   obtain⟨sb',k1,k2⟩:=hI.pg
   have HP:Hid (PS W0 wr pb s' sb'∧PChX pb X W sb wr sb'):=⟨k1,k2⟩
   obtain⟨hf,hrow⟩:=hI.go rfl
   obtain⟨f0,hf0⟩:∃f0,f=f0+1:=⟨f - 1,by omega⟩
   have HF0:Hid (s'.rest.length≤f0∧R=(if is [[44]] (part (open1 k s') e').1 then partsL part f0 (k+1) (next (part (open1 k s') e').1) (part (open1 k s') e').2 else ((part (open1 k s') e').1,(part (open1 k s') e').2,k+1))):=⟨by omega,by rw[←hrow,hf0,partsL]⟩
   obtain⟨ra,rc,sv,H,p0,p1,p2,p3,p4,p5,p6,pf⟩:=k1.cells
   have hpl:=k1.blt
   obtain⟨k9,hk9⟩:∃k9,k9=k+1:=⟨_,rfl⟩
   have HK9:Hid (k9=k+1):=hk9
   have HV:Hid (IntKind.i64.wrap ((k:Int)+1)=(k9:Int)∧wrap64 ((k:Int)+1)=(k9:Int)):=wrp (by omega) (by have:=hI.few;have:=HM.out;omega)
   obtain⟨ov,hov⟩:∃ov,ov=(s'.over || k==64):=⟨_,rfl⟩
   obtain⟨b1,b2⟩:=k1.set (i:=2) (v:=.bool ov) (s':=open1 k s') rfl rfl k1.around k1.nums (fun _ _ _=>by rw[hov];rfl)
   have HP2:Hid (PS W0 (wr.setCell ⟨pb,2,none⟩ (.bool ov)) pb (open1 k s') sb'∧PChX pb X W sb (wr.setCell ⟨pb,2,none⟩ (.bool ov)) sb'∧PE k e' (wr.setCell ⟨pb,2,none⟩ (.bool ov))∧X≤(wr.setCell ⟨pb,2,none⟩ (.bool ov)).heap.size):=by
    have hx:X≤wr.heap.size:=Nat.le_trans HM.out.2.1 k2.kept.size
    exact⟨b1,k2.trans (PChX.of b2 hx),HE.out k e' wr _ s' (open1 k s') sb' k1 ⟨sb',b1,b2⟩ hI.pe,by simpa using hx⟩
   obtain⟨so,hso⟩:∃so,so=s'.over:=⟨_,rfl⟩
   rw[←hso] at p2 hov
   obtain⟨nb0,hnb⟩:∃nb0,nb0=(k==64):=⟨_,rfl⟩
   have qn:((k:Int)==64)=nb0:=by
    rw[hnb]
    by_cases q:k=64
    ·rw[q];rfl
    ·have e1:((k:Int)==64)=false:=by simp;omega
     have e2:(k==64)=false:=by simp;omega
     rw[e1,e2]
   rw[←hnb] at hov
   clear hI k1 k2 hf hrow hf0 H p0 p1 p3 p4 p5 p6 b1 b2 hso hnb hk9
   have W2:Hid (∃w2,w2=wr.setCell ⟨pb,2,none⟩ (.bool ov)):=⟨_,rfl⟩
   have HOV:Hid (ov=(so || nb0)):=hov
   clear hov
   cases so
   all_goals
    go_upto_region 6 with fail
   ·obtain rfl:ov=nb0:=HOV.out
    obtain⟨w2,hw2⟩:∃w2,w2=wr.setCell ⟨pb,2,none⟩ (.bool ov):=⟨_,rfl⟩
    rw[←hw2] at HP2 ⊢
    clear hw2 p2 pf hpl qn W2
    obtain⟨z,hz⟩:∃z,z=(part (open1 k s') e').1:=⟨_,rfl⟩
    obtain⟨ee,hee⟩:∃ee,ee=(part (open1 k s') e').2:=⟨_,rfl⟩
    have HZ:Hid (Less s' z):=by show Less _ _;rw[hz];exact(zbO k s').trans (HF.out (open1 k s') e')
    have CP:Hid (Calls Tryz.prog 204 #[.pointer (some ⟨nb,0,none⟩),.pointer (some ⟨bx,0,none⟩)] w2 fun en W'=>en=.returned (.tuple #[])∧Hid (PGX W0 pb X w2 sb' z W'∧PE k9 ee W')):=by
     rw[hz,hee,HK9.out]
     exact HK.out w2 (open1 k s') sb' e' k (by have:=I.out.bd rfl;have:=HM.out;omega) HP2.out.2.2.2 HP2.out.1 HP2.out.2.2.1 (Nat.le_trans (I.out.less.rest) HM.out.1)
    rw[←hz,←hee] at HF0
    clear hz hee
    go_wp2_with fail
    refine(CP.out).mono ?_
    rintro en w3 ⟨rfl,G3⟩
    clear CP
    obtain⟨sb3,k1,k2⟩:=G3.out.1
    have HP3:Hid (PS W0 w3 pb z sb3∧PChX pb X W sb w3 sb3):=⟨k1,HP2.out.2.1.trans k2⟩
    have hx3:X≤w3.heap.size:=Nat.le_trans HP2.out.2.2.2 k2.kept.size
    have CM:Hid (Calls Tryz.prog 109 #[.pointer (some ⟨pb,0,none⟩),.slice (some ⟨w3.heap.size,0,none⟩) 1 1] (w3.alloc (.cells #[.string ⟨#[44]⟩] 9)) fun e W''=>e=.returned (.bool (is [[44]] z))∧Hid (PG W0 pb w3 sb3 (may [[44]] z) W'')):=zbN k1 (ts:=[[44]]) rfl rfl (by decide)
    have HX3:Hid (X≤w3.heap.size):=hx3
    clear k1 k2 hx3
    obtain⟨v1,v2⟩:=HV.out
    go_wp2_with fail
    clear v1 v2
    refine(CM.out).mono ?_
    rintro en w4 ⟨rfl,G4⟩
    have PE4:Hid (PE k9 ee w4):=HE.out k9 ee w3 w4 z _ sb3 HP3.out.1 G4.out G3.out.2
    have PG4:Hid (PGX W0 pb X W sb (may [[44]] z) w4):=PGX.trans HP3.out.2 (PGX.of G4.out HX3.out)
    have RL:Hid (rlen wr pb=s'.rest.length∧rlen w4 pb=(may [[44]] z).rest.length):=by
     obtain⟨sb4,k4,_⟩:=PG4.out
     exact⟨HP.out.1.rlen,k4.rlen⟩
    cases hi:is [[44]] z with
    | true =>
     have HS:=hidp (zaA (is_ne hi)).1
     have N:Hid (QI W0 pb X W sb PE part s R true k9 (next z) ee f0 w4):=by
      have e1:=HF0.out.2
      rw[if_pos hi] at e1
      have e2:=PG4.out
      rw[may,if_pos hi] at e2
      have h1:=HS.out
      have h2:=HZ.out.rest
      have h3:=I.out.bd rfl
      have h4:=HF0.out.1
      have h5:=HK9.out
      exact⟨fun _=>⟨by omega,by rw[e1,HK9.out]⟩,fun q=>(by cases q),(I.out.less.trans HZ.out).trans (zaH z),e2,PE4.out,by omega,fun _=>by omega⟩
     have MS:Hid ((may [[44]] z).rest.length+1≤s'.rest.length):=by
      show _≤_
      rw[may,if_pos hi]
      have:=HS.out
      have:=HZ.out.rest
      omega
     clear hi
     go_wp2
     go_roundw
     case rel=>first | exact⟨true,k9,next z,ee,f0,rfl,rfl,N.out⟩ | ((repeat apply Exists.intro);exact⟨⟨true,k9,next z,ee,f0,rfl,rfl,N.out⟩,rfl⟩)
     case measure =>
      rw[RL.out.1,RL.out.2]
      have:=MS.out
      show 2*_+1<2*_+1
      omega
    | false =>
     have N:Hid (QI W0 pb X W sb PE part s R false k9 z ee f0 w4):=by
      have e1:=HF0.out.2
      rw[hi] at e1
      have e2:=PG4.out
      rw[may,hi] at e2
      have h2:=HZ.out.rest
      have h3:=I.out.bd rfl
      have h5:=HK9.out
      exact⟨fun q=>(by cases q),fun _=>(by rw[e1,HK9.out];rfl),I.out.less.trans HZ.out,e2,PE4.out,by omega,fun q=>(by cases q)⟩
     have MS:Hid ((may [[44]] z).rest.length≤s'.rest.length):=by
      show _≤_
      rw[may,hi]
      exact HZ.out.rest
     clear hi
     go_wp2
     go_roundw
     case rel=>first | exact⟨false,k9,z,ee,f0,rfl,rfl,N.out⟩ | ((repeat apply Exists.intro);exact⟨⟨false,k9,z,ee,f0,rfl,rfl,N.out⟩,rfl⟩)
     case measure =>
      rw[RL.out.1,RL.out.2]
      have:=MS.out
      show 2*_+0<2*_+1
      omega
   ·obtain rfl:ov=true:=HOV.out
    obtain⟨w2,hw2⟩:∃w2,w2=wr.setCell ⟨pb,2,none⟩ (.bool true):=⟨_,rfl⟩
    rw[←hw2] at HP2 ⊢
    clear hw2 p2 pf hpl qn W2
    obtain⟨z,hz⟩:∃z,z=(part (open1 k s') e').1:=⟨_,rfl⟩
    obtain⟨ee,hee⟩:∃ee,ee=(part (open1 k s') e').2:=⟨_,rfl⟩
    have HZ:Hid (Less s' z):=by show Less _ _;rw[hz];exact(zbO k s').trans (HF.out (open1 k s') e')
    have CP:Hid (Calls Tryz.prog 204 #[.pointer (some ⟨nb,0,none⟩),.pointer (some ⟨bx,0,none⟩)] w2 fun en W'=>en=.returned (.tuple #[])∧Hid (PGX W0 pb X w2 sb' z W'∧PE k9 ee W')):=by
     rw[hz,hee,HK9.out]
     exact HK.out w2 (open1 k s') sb' e' k (by have:=I.out.bd rfl;have:=HM.out;omega) HP2.out.2.2.2 HP2.out.1 HP2.out.2.2.1 (Nat.le_trans (I.out.less.rest) HM.out.1)
    rw[←hz,←hee] at HF0
    clear hz hee
    go_wp2_with fail
    refine(CP.out).mono ?_
    rintro en w3 ⟨rfl,G3⟩
    clear CP
    obtain⟨sb3,k1,k2⟩:=G3.out.1
    have HP3:Hid (PS W0 w3 pb z sb3∧PChX pb X W sb w3 sb3):=⟨k1,HP2.out.2.1.trans k2⟩
    have hx3:X≤w3.heap.size:=Nat.le_trans HP2.out.2.2.2 k2.kept.size
    have CM:Hid (Calls Tryz.prog 109 #[.pointer (some ⟨pb,0,none⟩),.slice (some ⟨w3.heap.size,0,none⟩) 1 1] (w3.alloc (.cells #[.string ⟨#[44]⟩] 9)) fun e W''=>e=.returned (.bool (is [[44]] z))∧Hid (PG W0 pb w3 sb3 (may [[44]] z) W'')):=zbN k1 (ts:=[[44]]) rfl rfl (by decide)
    have HX3:Hid (X≤w3.heap.size):=hx3
    clear k1 k2 hx3
    obtain⟨v1,v2⟩:=HV.out
    go_wp2_with fail
    clear v1 v2
    refine(CM.out).mono ?_
    rintro en w4 ⟨rfl,G4⟩
    have PE4:Hid (PE k9 ee w4):=HE.out k9 ee w3 w4 z _ sb3 HP3.out.1 G4.out G3.out.2
    have PG4:Hid (PGX W0 pb X W sb (may [[44]] z) w4):=PGX.trans HP3.out.2 (PGX.of G4.out HX3.out)
    have RL:Hid (rlen wr pb=s'.rest.length∧rlen w4 pb=(may [[44]] z).rest.length):=by
     obtain⟨sb4,k4,_⟩:=PG4.out
     exact⟨HP.out.1.rlen,k4.rlen⟩
    cases hi:is [[44]] z with
    | true =>
     have HS:=hidp (zaA (is_ne hi)).1
     have N:Hid (QI W0 pb X W sb PE part s R true k9 (next z) ee f0 w4):=by
      have e1:=HF0.out.2
      rw[if_pos hi] at e1
      have e2:=PG4.out
      rw[may,if_pos hi] at e2
      have h1:=HS.out
      have h2:=HZ.out.rest
      have h3:=I.out.bd rfl
      have h4:=HF0.out.1
      have h5:=HK9.out
      exact⟨fun _=>⟨by omega,by rw[e1,HK9.out]⟩,fun q=>(by cases q),(I.out.less.trans HZ.out).trans (zaH z),e2,PE4.out,by omega,fun _=>by omega⟩
     have MS:Hid ((may [[44]] z).rest.length+1≤s'.rest.length):=by
      show _≤_
      rw[may,if_pos hi]
      have:=HS.out
      have:=HZ.out.rest
      omega
     clear hi
     go_wp2
     go_roundw
     case rel=>first | exact⟨true,k9,next z,ee,f0,rfl,rfl,N.out⟩ | ((repeat apply Exists.intro);exact⟨⟨true,k9,next z,ee,f0,rfl,rfl,N.out⟩,rfl⟩)
     case measure =>
      rw[RL.out.1,RL.out.2]
      have:=MS.out
      show 2*_+1<2*_+1
      omega
    | false =>
     have N:Hid (QI W0 pb X W sb PE part s R false k9 z ee f0 w4):=by
      have e1:=HF0.out.2
      rw[hi] at e1
      have e2:=PG4.out
      rw[may,hi] at e2
      have h2:=HZ.out.rest
      have h3:=I.out.bd rfl
      have h5:=HK9.out
      exact⟨fun q=>(by cases q),fun _=>(by rw[e1,HK9.out];rfl),I.out.less.trans HZ.out,e2,PE4.out,by omega,fun q=>(by cases q)⟩
     have MS:Hid ((may [[44]] z).rest.length≤s'.rest.length):=by
      show _≤_
      rw[may,hi]
      exact HZ.out.rest
     clear hi
     go_wp2
     go_roundw
     case rel=>first | exact⟨false,k9,z,ee,f0,rfl,rfl,N.out⟩ | ((repeat apply Exists.intro);exact⟨⟨false,k9,z,ee,f0,rfl,rfl,N.out⟩,rfl⟩)
     case measure =>
      rw[RL.out.1,RL.out.2]
      have:=MS.out
      show 2*_+0<2*_+1
      omega
theorem till_fields {nb bx:Nat} (cl:Bs) (hF:∀s e,Less s (part s e).1) (HC:PartOK W0 pb X 204 #[.pointer (some ⟨nb,0,none⟩),.pointer (some ⟨bx,0,none⟩)] PE part m) (hE:∀(k:Nat) (e:E) (W W':World) (s s':S) (sb:Option Nat),PS W0 W pb s sb→PG W0 pb W sb s' W'→PE k e W→PE k e W') (h:PS W0 W pb s sb) (he:PE 0 e W) (hX:X≤W.heap.size) (hm:s.rest.length≤m) :
  Calls Tryz.prog 203 #[.pointer (some ⟨pb,0,none⟩),.string (Lx.bs cl),.func (.func 204) #[] #[.pointer (some ⟨nb,0,none⟩),.pointer (some ⟨bx,0,none⟩)]] W fun en W'=>en=.returned (.int .i64 ((zaG cl part s e).2.2:Int))∧PGX W0 pb X W sb (zaG cl part s e).1 W'∧PE (zaG cl part s e).2.2 (zaG cl part s e).2.1 W'∧(zaG cl part s e).2.2≤s.rest.length+1:=by
 have CM:Hid (Calls Tryz.prog 109 #[.pointer (some ⟨pb,0,none⟩),.slice (some ⟨W.heap.size,0,none⟩) 1 1] (W.alloc (.cells #[.string (Lx.bs cl)] 9)) fun e W''=>e=.returned (.bool (is [cl] s))∧Hid (PG W0 pb W sb (may [cl] s) W'')):=zbN h (ts:=[cl]) rfl rfl (by simp)
 have HX:Hid (X≤W.heap.size):=hX
 cases hi:is [cl] s with
 | true =>
  rw[hi,may,if_pos hi] at CM
  have HR:Hid (zaG cl part s e=(next s,e,0)):=by show _=_;rw[zaG,if_pos hi]
  have HE1:Hid (∀W',PG W0 pb W sb (next s) W'→PE 0 e W'):=fun W' hg=>hE 0 e W W' s _ sb h hg he
  clear hi hF HC hE h he hX hm
  go_enter Tryz.func203,Tryz.ntmps203
  go_wp2_with fail
  refine(CM.out).mono ?_
  rintro en w2 ⟨rfl,G2⟩
  go_wp2
  go_ret
  exact⟨by rw[HR.out];rfl,by rw[HR.out];exact PGX.of G2.out HX.out,by rw[HR.out];exact HE1.out w2 G2.out,by rw[HR.out];exact Nat.zero_le _⟩
 | false =>
  rw[hi,may,hi] at CM
  obtain⟨R,hR⟩:∃R,R=parts part s e:=⟨_,rfl⟩
  have HR:Hid (zaG cl part s e=(must [cl] R.1,R.2.1,R.2.2)):=by show _=_;rw[zaG,hi,hR];rfl
  have HE:Hid (∀(k:Nat) (e:E) (W W':World) (s s':S) (sb:Option Nat),PS W0 W pb s sb→PG W0 pb W sb s' W'→PE k e W→PE k e W'):=hE
  have CP:Hid (∀W',PG W0 pb W sb s W'→Calls Tryz.prog 107 #[.pointer (some ⟨pb,0,none⟩),.func (.func 204) #[] #[.pointer (some ⟨nb,0,none⟩),.pointer (some ⟨bx,0,none⟩)]] W' fun en W''=>en=.returned (.int .i64 (R.2.2:Int))∧Hid (PGX W0 pb X W sb R.1 W''∧PE R.2.2 R.2.1 W''∧R.2.2≤s.rest.length+1)):=fun W' hg=>by
   have hg':=hg
   obtain⟨sb1,k1,k2⟩:=hg
   rw[hR]
   refine(parts_fields hF HC hE k1 (hE 0 e W W' s s sb h hg' he) (Nat.le_trans hX hg'.size) hm).mono ?_
   rintro en W'' ⟨rfl,q1,q2,q3⟩
   exact⟨rfl,PGX.trans (PChX.of k2 hX) q1,q2,q3⟩
  have CU:Hid (∀(W':World),PGX W0 pb X W sb R.1 W'→PE R.2.2 R.2.1 W'→Calls Tryz.prog 70 #[.pointer (some ⟨pb,0,none⟩),.slice (some ⟨W'.heap.size,0,none⟩) 1 1] (W'.alloc (.cells #[.string (Lx.bs cl)] 9)) fun en W''=>(∃b,en=.returned (.string b))∧Hid (PGX W0 pb X W sb (must [cl] R.1) W''∧PE R.2.2 R.2.1 W'')):=fun W' hg he'=>by
   obtain⟨sb1,k1,k2⟩:=hg
   refine(zcG k1 (ts:=[cl]) rfl rfl (by simp)).mono ?_
   rintro en W'' ⟨rfl,q⟩
   exact⟨⟨_,rfl⟩,PGX.trans k2 (PGX.of q.out (Nat.le_trans HX.out k2.kept.size)),HE.out _ _ W' W'' _ _ sb1 k1 q.out he'⟩
  clear hi hF HC hE h he hX hm hR
  go_enter Tryz.func203,Tryz.ntmps203
  go_wp2_with fail
  refine(CM.out).mono ?_
  rintro en w2 ⟨rfl,G2⟩
  go_wp2_with fail
  refine(CP.out w2 G2.out).mono ?_
  rintro en w3 ⟨rfl,G3⟩
  go_wp2_with fail
  refine(CU.out w3 G3.out.1 G3.out.2.1).mono ?_
  rintro en w4 ⟨⟨b,rfl⟩,G4⟩
  go_wp2
  go_ret
  exact⟨by rw[HR.out];rfl,by rw[HR.out];exact G4.out.1,by rw[HR.out];exact G4.out.2,by rw[HR.out];exact G3.out.2.2⟩
end
attribute [local go_sem] zaR
theorem kp_set (w:World) (g i:Nat) (v:Value):Kp (fun k=>k=g) w (w.setCell ⟨g,i,none⟩ v):=⟨rfl,rfl,rfl,by simp,fun _ _ hk=>heap_setCell_other _ _ _ _ hk⟩
structure PF (pb nb bx X k:Nat) (l:List Bs) (W:World):Prop where
 len:l.length=k
 txt:∀x∈l,x.length≤20000
 cl:∃sv,W.heap[nb]?=some (.cells #[sv] 50 (0,0))∧OwnT W X sv l
 bo:W.heap[bx]?=some (.cells #[.pointer (some ⟨pb,0,none⟩)] 99 (0,0))
 le:X≤nb∧X≤bx
section
variable {W0:World} {pb nb bx X k:Nat} {W W' w1 w4 w5:World} {s s':S} {sb:Option Nat} {l:List Bs}
theorem PF.pg (h:PF pb nb bx X k l W) (hp:PS W0 W pb s sb) (hg:PG W0 pb W sb s' W'):PF pb nb bx X k l W':=by
 obtain⟨sv,h1,h2⟩:=h.cl
 obtain⟨n1,n2⟩:=hp.other h1 (by decide) (by decide)
 obtain⟨n3,n4⟩:=hp.other h.bo (by decide) (by decide)
 exact⟨h.len,h.txt,⟨sv,(hg.block (row_lt h1) n1 n2).trans h1,h2.pg hp hg⟩,(hg.block (row_lt h.bo) n3 n4).trans h.bo,h.le⟩
theorem PF.kept:∀(k:Nat) (e:List Bs) (W W':World) (s s':S) (sb:Option Nat),PS W0 W pb s sb→PG W0 pb W sb s' W'→PF pb nb bx X k e W→PF pb nb bx X k e W':=fun _ _ _ _ _ _ _ hp hg h=>h.pg hp hg
theorem PF.next (h:PF pb nb bx X k l W) (hX:X≤W.heap.size) (hp:PS W0 W pb s sb) (hg:PG W0 pb W sb s' w1) {sv:Value} (hs:W.heap[nb]?=some (.cells #[sv] 50 (0,0))) (ho:OwnT W X sv l) (hb:Below w1.heap.size w1 w4) (hgr:w4.grownBy w5 sv.ownBlock) {x:Bs} (hx:x.length≤20000) {gg cap:Nat}
  (hn:w5.ownsRow X 9 1 (.slice (some ⟨gg,0,none⟩) (k+1) cap) (k+1) ((l.map fun x=>Value.string (Lx.bs x))++[.string (Lx.bs x)])) (hW0:W0.heap.size≤X) :
  (w5.heap[nb]?=some (.cells #[sv] 50 (0,0))∧w5.heap[bx]?=some (.cells #[.pointer (some ⟨pb,0,none⟩)] 99 (0,0)))∧PGX W0 pb X W sb s' (w5.setCell ⟨nb,0,none⟩ (.slice (some ⟨gg,0,none⟩) (k+1) cap))∧PF pb nb bx X (k+1) (l++[x]) (w5.setCell ⟨nb,0,none⟩ (.slice (some ⟨gg,0,none⟩) (k+1) cap)):=by
 obtain⟨n1,n2⟩:=hp.other hs (by decide) (by decide)
 obtain⟨n3,n4⟩:=hp.other h.bo (by decide) (by decide)
 have b1:w1.heap[nb]?=some (.cells #[sv] 50 (0,0)):=(hg.block (row_lt hs) n1 n2).trans hs
 have c1:w1.heap[bx]?=some (.cells #[.pointer (some ⟨pb,0,none⟩)] 99 (0,0)):=(hg.block (row_lt h.bo) n3 n4).trans h.bo
 have o1:=ho.pg hp hg
 obtain⟨sb1,k1,k2⟩:=hg
 have b4:=(hb.block nb (row_lt b1)).trans b1
 have c4:=(hb.block bx (row_lt c1)).trans c1
 have o4:=o1.call hb
 have p4:=k1.call hb
 have q4:=k2.trans (PCh.of_below hb)
 have ne1:∀{g:Nat} {v:Value} {t:TypeId},w4.heap[g]?=some (.cells #[v] t (0,0))→t≠9→sv.ownBlock≠some g:=fun {g v t} hg' ht e=>by
  obtain⟨_,C,hC⟩:=o4.ty e
  rw[hg'] at hC
  cases hC
  exact ht rfl
 have b5:w5.heap[nb]?=some (.cells #[sv] 50 (0,0)):=(hgr.block nb (row_lt b4) fun e=>ne1 b4 (by decide) e.symm).trans b4
 have c5:w5.heap[bx]?=some (.cells #[.pointer (some ⟨pb,0,none⟩)] 99 (0,0)):=(hgr.block bx (row_lt c4) fun e=>ne1 c4 (by decide) e.symm).trans c4
 have kk:Kp (fun g=>sv.ownBlock=some g∨g=nb) w4 (w5.setCell ⟨nb,0,none⟩ (.slice (some ⟨gg,0,none⟩) (k+1) cap)):=by
  have k45:=zdA hgr
  have k5:=kp_set w5 nb 0 (.slice (some ⟨gg,0,none⟩) (k+1) cap)
  exact⟨k5.os.trans k45.os,k5.tape.trans k45.tape,k5.output.trans k45.output,Nat.le_trans k45.size k5.size,fun g hg' q=>(k5.block g (Nat.lt_of_lt_of_le hg' k45.size) fun e=>q (.inr e)).trans (k45.block g hg' fun e=>q (.inl e))⟩
 have hlt:nb<W.heap.size:=row_lt hs
 have hl5:(#[sv]:Array Value).setIfInBounds 0 (.slice (some ⟨gg,0,none⟩) (k+1) cap)=#[.slice (some ⟨gg,0,none⟩) (k+1) cap]:=rfl
 have hne:some nb≠(Value.slice (some ⟨gg,0,none⟩) (k+1) cap).ownBlock:=fun e=>by
  have hn':OwnT w5 X (.slice (some ⟨gg,0,none⟩) (k+1) cap) (l++[x]):=by
   show w5.ownsRow X 9 1 _ (l++[x]).length _
   rw[List.length_append,List.map_append,h.len]
   exact hn
  obtain⟨_,C,hC⟩:=hn'.ty e.symm
  rw[b5] at hC
  cases hC
 refine⟨⟨b5,c5⟩,⟨sb1,p4.keep kk fun g hg' q=>?_,?_⟩,?_⟩
 ·rcases q with q | q
  ·obtain⟨q1,C,hC⟩:=o4.ty q
   obtain⟨m1,m2⟩:=p4.other hC (by decide) (by decide)
   exact⟨Nat.le_trans hW0 q1,m1,m2⟩
  ·subst q
   obtain⟨m1,m2⟩:=p4.other b4 (by decide) (by decide)
   exact⟨Nat.le_trans hW0 h.le.1,m1,m2⟩
 ·have e1:=PChX.of q4 hX
  refine⟨⟨kk.os.trans e1.kept.os,kk.tape.trans e1.kept.tape,kk.output.trans e1.kept.output,Nat.le_trans e1.kept.size kk.size,fun g hg' q=>(kk.block g (Nat.lt_of_lt_of_le hg' e1.kept.size) fun z=>?_).trans (e1.kept.block g hg' q)⟩,e1.new,e1.stp.trans e1.kept.size (Stp.same (fun hl=>slen_of (kk.block pb hl fun z=>?_)) fun g e hl=>kk.block g hl fun z=>?_)⟩
  ·rcases z with z | z
   ·exact q (.inr (.inr (o4.ty z).1))
   ·exact q (.inr (.inr (z ▸ h.le.1)))
  ·rcases z with z | z
   ·obtain⟨_,C,hC⟩:=o4.ty z
    exact(p4.other hC (by decide) (by decide)).1 rfl
   ·exact(p4.other b4 (by decide) (by decide)).1 z.symm
  ·rcases z with z | z
   ·obtain⟨_,C,hC⟩:=o4.ty z
    exact(p4.other hC (by decide) (by decide)).2 e
   ·exact(p4.other b4 (by decide) (by decide)).2 (z ▸ e)
 ·have hnn:¬bx=nb:=fun e=>by
   rw[e,b5] at c5
   cases c5
  refine⟨by rw[List.length_append,h.len];rfl,fun y hy=>?_,⟨_,(heap_setCell_same w5 nb 0 _ 50 _ b5).trans (by rw[hl5]),?_⟩,(zbG hnn).trans c5,h.le⟩
  ·rcases List.mem_append.1 hy with q | q
   ·exact h.txt y q
   ·rw[List.mem_singleton.1 q];exact hx
  ·show World.ownsRow _ X 9 1 _ (l++[x]).length _
   rw[List.length_append,List.map_append,h.len]
   exact own_setL hn hne
theorem fieldsA_c {F:S→S} {m:Nat} (hW0:W0.heap.size≤X) (HC:DoesP W0 pb 106 F m):PartOK W0 pb X 204 #[.pointer (some ⟨nb,0,none⟩),.pointer (some ⟨bx,0,none⟩)] (PF pb nb bx X) (fieldP F) m:=by
 intro W s sb l k hk hX h he hm
 obtain⟨i0,hi,hz0,hz1,hz2⟩:=zaJ zbE
 obtain⟨sv,n0,own⟩:=he.cl
 obtain⟨a,c,rfl⟩:=own.form
 rw[he.len] at n0 own
 have HP:Hid (PS W0 W pb s sb):=h
 have HE:Hid (PF pb nb bx X k l W∧W.heap[nb]?=some (.cells #[.slice a k c] 50 (0,0))∧OwnT W X (.slice a k c) l∧X≤W.heap.size∧W0.heap.size≤X∧k≤20000):=⟨he,n0,own,hX,hW0,hk⟩
 have nc:W.cell? ⟨nb,0,none⟩=some (.slice a k c):=by rw[cell_of_row _ _ _ _ _ _ n0];rfl
 have bc:W.cell? ⟨bx,0,none⟩=some (.pointer (some ⟨pb,0,none⟩)):=by rw[cell_of_row _ _ _ _ _ _ he.bo];rfl
 obtain⟨x,hx⟩:∃x,x=nameT l s:=⟨_,rfl⟩
 obtain⟨z,hz⟩:∃z,z=name l s:=⟨_,rfl⟩
 have HX:Hid (x.length≤20000∧x=nameT l s∧z=name l s):=⟨by rw[hx];exact zdM h l,hx,hz⟩
 have CN:Hid (∀W',Below W.heap.size W W'→Calls Tryz.prog 72 #[.pointer (some ⟨pb,0,none⟩),.slice a k c] W' fun e W''=>e=.returned (.string (Lx.bs x))∧Hid (PG W0 pb W sb z W'')):=fun W' hb=>by
  obtain⟨q1,q2,q3,q4⟩:=own.sr
  rw[hx,hz]
  refine(name_c (h.call hb) (q3.call hb) q1 (by omega)).mono ?_
  rintro e W'' ⟨rfl,q⟩
  exact⟨rfl,q.pre hb⟩
 have CM:Hid (∀W',PGX W0 pb X W sb z W'→PF pb nb bx X (k+1) (l++[x]) W'→Calls Tryz.prog 70 #[.pointer (some ⟨pb,0,none⟩),.slice (some ⟨W'.heap.size,0,none⟩) 1 1] (W'.alloc (.cells #[.string ⟨#[58]⟩] 9)) fun e W''=>(∃b,e=.returned (.string b))∧Hid (PGX W0 pb X W sb (must [[58]] z) W''∧PF pb nb bx X (k+1) (l++[x]) W'')):=fun W' hg hf=>by
  obtain⟨sb1,k1,k2⟩:=hg
  refine(zcG k1 (ts:=[[58]]) rfl rfl (by decide)).mono ?_
  rintro e W'' ⟨rfl,q⟩
  exact⟨⟨_,rfl⟩,PGX.trans k2 (PGX.of q.out (Nat.le_trans hX k2.kept.size)),hf.pg k1 q.out⟩
 have CO:Hid (∀W',PGX W0 pb X W sb (must [[58]] z) W'→PF pb nb bx X (k+1) (l++[x]) W'→Calls Tryz.prog 106 #[.pointer (some ⟨pb,0,none⟩)] W' fun e W''=>e=.returned (.tuple #[])∧Hid (PGX W0 pb X W sb (F (must [[58]] z)) W''∧PF pb nb bx X (k+1) (l++[x]) W'')):=fun W' hg hf=>by
  obtain⟨sb1,k1,k2⟩:=hg
  refine(HC W' _ sb1 k1 (by have:=((zbH l s).trans (zbA [[58]] (name l s))).rest;rw[hz];omega)).mono ?_
  rintro e W'' ⟨rfl,q⟩
  exact⟨rfl,PGX.trans k2 (PGX.of q (Nat.le_trans hX k2.kept.size)),hf.pg k1 q⟩
 have fit63:Hid (k+1≤maxLen):=by show _≤_;unfold maxLen;omega
 have fit47:Hid ((k+1)*16≤140737488355328):=by show _≤_;omega
 clear h he n0 own hk hX hW0 hm HC hx hz
 have lt01:=block_lt_of_cell nc
 have lt02:=block_lt_of_cell bc
 go_enter Tryz.func204,Tryz.ntmps204
 go_upto_region 0 with fail
 go_region_law (first
  |(go_simp;go_at_call 72;refine(CN.out _ ?_).mono ?_;(first | exact Below.refl _ _ | exact(Below.refl _ _).drew);rintro e w1 ⟨rfl,G1⟩
    have O1:Hid (w1.ownsRow X 9 1 (.slice a k c) k (l.map fun x=>Value.string (Lx.bs x))):=(by
     have:=HE.out.2.2.1.pg HP.out G1.out
     show World.ownsRow _ _ _ _ _ _ _
     have e1:k=l.length:=HE.out.1.len.symm
     rw[e1]
     rw[e1] at this
     exact this)
    obtain⟨nc1,bc1⟩:w1.cell? ⟨nb,0,none⟩=some (.slice a k c)∧w1.cell? ⟨bx,0,none⟩=some (.pointer (some ⟨pb,0,none⟩)):=(by
     have q:=HE.out.1.pg HP.out G1.out
     obtain⟨n1,n2⟩:=HP.out.other HE.out.2.1 (by decide) (by decide)
     have b1:=(G1.out.block (row_lt HE.out.2.1) n1 n2).trans HE.out.2.1
     exact⟨by rw[cell_of_row _ _ _ _ _ _ b1];rfl,by rw[cell_of_row _ _ _ _ _ _ q.bo];rfl⟩)
    have lt1:=block_lt_of_cell nc1
    have lt2:=block_lt_of_cell bc1
    have S1:Hid (X≤w1.heap.size):=(Nat.le_trans HE.out.2.2.2.1 G1.out.size))
  |(refine step_append_lies _ (by rfl) _ _ _ (by rfl) X 9 i0 _ 1 16 Tryz.underlying50 hi hz0 hz1 hz2 rfl (by omega) _ _ _ (by rfl) (O1.out.alloc _) ⟨w1.heap.size,0,none⟩ 1 1 [.string (Lx.bs x)] (by rfl) (by rfl) (World.news_of_block (heap_alloc_new w1 _)) (by simp[Value.oneCell']) (by omega) fit63.out fit47.out (by have:=S1.out;simp;omega) (w1.heap.size+1) (by simp) ?_;intro gg cap w5 hown5 hgrow hat hglt
    have N5:Hid ((w5.heap[nb]?=some (.cells #[.slice a k c] 50 (0,0))∧w5.heap[bx]?=some (.cells #[.pointer (some ⟨pb,0,none⟩)] 99 (0,0)))∧PGX W0 pb X W sb z (w5.setCell ⟨nb,0,none⟩ (.slice (some ⟨gg,0,none⟩) (k+1) cap))∧PF pb nb bx X (k+1) (l++[x]) (w5.setCell ⟨nb,0,none⟩ (.slice (some ⟨gg,0,none⟩) (k+1) cap))):=HE.out.1.next HE.out.2.2.2.1 HP.out G1.out HE.out.2.1 HE.out.2.2.1 (by first | exact bnew w1 _ | exact(bnew w1 _).drew) hgrow HX.out.1 hown5 HE.out.2.2.2.2.1
    have nc5:w5.cell? ⟨nb,0,none⟩=some (.slice a k c):=(by rw[cell_of_row _ _ _ _ _ _ N5.out.1.1];rfl)
    have nf5:∀r,w5.frozen? ⟨nb,r,none⟩=false:=(fun r=>by simp[World.frozen?,N5.out.1.1])
    clear hown5 hgrow hat hglt)
  | fail "no arm")
 all_goals
  obtain⟨w6,hw6⟩:∃w6,w6=w5.setCell ⟨nb,0,none⟩ (.slice (some ⟨gg,0,none⟩) (k+1) cap):=⟨_,rfl⟩
  have H6:Hid (PGX W0 pb X W sb z w6∧PF pb nb bx X (k+1) (l++[x]) w6):=by rw[hw6];exact N5.out.2
  have y6:w6.cell? ⟨bx,0,none⟩=some (.pointer (some ⟨pb,0,none⟩)):=by rw[cell_of_row _ _ _ _ _ _ H6.out.2.bo];rfl
  rw[←hw6]
  clear hw6 nc5 nf5 N5 nc bc lt01 lt02
  go_wp2_with fail
  refine(CM.out w6 H6.out.1 H6.out.2).mono ?_
  rintro e w7 ⟨⟨b,rfl⟩,G7⟩
  have y7:w7.cell? ⟨bx,0,none⟩=some (.pointer (some ⟨pb,0,none⟩)):=by rw[cell_of_row _ _ _ _ _ _ G7.out.2.bo];rfl
  go_wp2_with fail
  refine(CO.out w7 G7.out.1 G7.out.2).mono ?_
  rintro e w8 ⟨rfl,G8⟩
  have HQ:Hid (fieldP F s l=(F (must [[58]] z),l++[x])):=by show _=_;rw[HX.out.2.2,HX.out.2.1];rfl
  go_wp2
  exact bodyPost_end (results_none (by rfl) _ _ _) rfl ⟨rfl,by rw[HQ.out];exact G8.out⟩
end
end Ps
end Go.Proofs.YtfhkaffakniioaaGreatDoor
