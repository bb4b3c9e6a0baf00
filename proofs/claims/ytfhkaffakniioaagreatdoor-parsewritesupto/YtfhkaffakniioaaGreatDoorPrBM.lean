/- Several texts, joined. -/
import Derived.Test.YtfhkaffakniioaaGreatDoorQ24M
set_option maxHeartbeats 8000000
set_option maxRecDepth 100000
namespace Go.Proofs.YtfhkaffakniioaaGreatDoor
open Go.RowKit
namespace Ps
def PBX (W0:World) (pb X:Nat) (W:World) (s':S) (W':World):Prop:=∃sb',PS W0 W' pb s' sb'∧Kp (fun g=>g=pb∨X≤g) W W'
theorem zaN {pb X:Nat} {a b c:World} (h:Kp (fun g=>g=pb∨X≤g) a b) (k:Kp (fun g=>g=pb∨X≤g) b c):Kp (fun g=>g=pb∨X≤g) a c:=h.trans k fun _ _ q=>q
theorem kx_of {pb X:Nat} {a b:World} (h:Kp (fun g=>g=pb) a b):Kp (fun g=>g=pb∨X≤g) a b:=⟨h.os,h.tape,h.output,h.size,fun k hk q=>h.block k hk fun e=>q (.inl e)⟩
theorem PBX.of {W0 W W':World} {pb X:Nat} {s':S} (h:PB W0 W pb s' W'):PBX W0 pb X W s' W':=by
 obtain⟨sb',k1,k2⟩:=h
 exact⟨sb',k1,kx_of k2⟩
theorem PBX.trans {W0 W W1 W2:World} {pb X:Nat} {s:S} (h:Kp (fun g=>g=pb∨X≤g) W W1) (k:PBX W0 pb X W1 s W2):PBX W0 pb X W s W2:=by
 obtain⟨sb',k1,k2⟩:=k
 exact⟨sb',k1,zaN h k2⟩
def PartB {E:Type} (W0:World) (pb X K:Nat) (args:Array Value) (PE:Nat→E→World→Prop) (part:S→E→S × E) (m:Nat):Prop:=∀(W:World) (s:S) (sb:Option Nat) (e:E) (k:Nat),k≤20000→X≤W.heap.size→PS W0 W pb s sb→PE k e W→s.rest.length≤m→Calls Tryz.prog K args W fun en W'=>en=.returned (.tuple #[])∧PBX W0 pb X W (part s e).1 W'∧PE (k+1) (part s e).2 W'
structure QB {E:Type} (W0:World) (pb X:Nat) (W:World) (PE:Nat→E→World→Prop) (part:S→E→S × E) (s:S) (R:S × E × Nat) (b:Bool) (k:Nat) (s':S) (e':E) (f:Nat) (wr:World):Prop where
 go:b=true→s'.rest.length+1≤f∧partsL part f k s' e'=R
 stop:b=false→R=(s',e',k)
 less:Less s s'
 pg:PBX W0 pb X W s' wr
 pe:PE k e' wr
 few:k+s'.rest.length≤s.rest.length+1
 bd:b=true→k+s'.rest.length≤s.rest.length
section
variable {E:Type} {W0:World} {pb X:Nat} {W:World} {s:S} {sb:Option Nat} {e:E} {PE:Nat→E→World→Prop} {part:S→E→S × E} {m:Nat}
theorem parts_update {bx nb xb:Nat} (hF:∀s e,Less s (part s e).1) (HC:PartB W0 pb X 108 #[.pointer (some ⟨bx,0,none⟩),.pointer (some ⟨nb,0,none⟩),.pointer (some ⟨xb,0,none⟩)] PE part m) (hE:∀(k:Nat) (e:E) (W W':World) (s s':S) (sb:Option Nat),PS W0 W pb s sb→PB W0 W pb s' W'→PE k e W→PE k e W') (h:PS W0 W pb s sb) (he:PE 0 e W) (hX:X≤W.heap.size) (hm:s.rest.length≤m) :
  Calls Tryz.prog 107 #[.pointer (some ⟨pb,0,none⟩),.func (.func 108) #[] #[.pointer (some ⟨bx,0,none⟩),.pointer (some ⟨nb,0,none⟩),.pointer (some ⟨xb,0,none⟩)]] W fun en W'=>en=.returned (.int .i64 ((parts part s e).2.2:Int))∧PBX W0 pb X W (parts part s e).1 W'∧PE (parts part s e).2.2 (parts part s e).2.1 W'∧(parts part s e).2.2≤s.rest.length+1:=by
 have HF:Hid (∀s e,Less s (part s e).1):=hF
 have HK:Hid (PartB W0 pb X 108 #[.pointer (some ⟨bx,0,none⟩),.pointer (some ⟨nb,0,none⟩),.pointer (some ⟨xb,0,none⟩)] PE part m):=HC
 have HE:Hid (∀(k:Nat) (e:E) (W W':World) (s s':S) (sb:Option Nat),PS W0 W pb s sb→PB W0 W pb s' W'→PE k e W→PE k e W'):=hE
 have HM:Hid (s.rest.length≤m∧X≤W.heap.size∧s.rest.length≤20000):=⟨hm,hX,by have:=h.lim;omega⟩
 obtain⟨R,hR⟩:∃R,R=parts part s e:=⟨_,rfl⟩
 have I0:Hid (QB W0 pb X W PE part s R true 0 s e (s.rest.length+1) W):=⟨fun _=>⟨Nat.le_refl _,by rw[hR];rfl⟩,fun q=>(by cases q),Less.refl s,PBX.of (PB.refl h),he,by omega,fun _=>by omega⟩
 rw[←hR]
 clear hF HC hE h he hX hm hR
 go_enter Tryz.func107,Tryz.ntmps107
 go_wp2
 go_loopw [5,6] (fun v u wr=>∃(b:Bool) (k:Nat) (s':S) (e':E) (f:Nat),v=.int .i64 (k:Int)∧u=.bool b∧QB W0 pb X W PE part s R b k s' e' f wr) (fun _ u W=>2*rlen W pb+(match u with | .bool true=>1 | _=>0))
 case atStart=>exact⟨true,0,s,e,_,rfl,rfl,I0.out⟩
 case round =>
  clear I0
  obtain⟨b,k,s',e',f,rfl,rfl,hI⟩:=hrel
  have I:=hidp hI
  cases b with
  | false =>
   have HR:Hid (R=(s',e',k)):=hI.stop rfl
   clear hI
   go_wp2
   go_ret
   exact⟨by rw[HR.out];rfl,by rw[HR.out];exact I.out.pg,by rw[HR.out];exact I.out.pe,by rw[HR.out];have:=I.out.few;show k≤_;omega⟩
  | true =>
   obtain⟨sb',k1,k2⟩:=hI.pg
   have HP:Hid (PS W0 wr pb s' sb'∧Kp (fun g=>g=pb∨X≤g) W wr):=⟨k1,k2⟩
   obtain⟨hf,hrow⟩:=hI.go rfl
   obtain⟨f0,hf0⟩:∃f0,f=f0+1:=⟨f - 1,by omega⟩
   have HF0:Hid (s'.rest.length≤f0∧R=(if is [[44]] (part (open1 k s') e').1 then partsL part f0 (k+1) (next (part (open1 k s') e').1) (part (open1 k s') e').2 else ((part (open1 k s') e').1,(part (open1 k s') e').2,k+1))):=⟨by omega,by rw[←hrow,hf0,partsL]⟩
   obtain⟨ra,rc,sv,H,p0,p1,p2,p3,p4,p5,p6,pf⟩:=k1.cells
   have hpl:=k1.blt
   obtain⟨k9,hk9⟩:∃k9,k9=k+1:=⟨_,rfl⟩
   have HK9:Hid (k9=k+1):=hk9
   have HV:Hid (IntKind.i64.wrap ((k:Int)+1)=(k9:Int)∧wrap64 ((k:Int)+1)=(k9:Int)):=wrp (by omega) (by have:=hI.few;have:=HM.out;omega)
   obtain⟨ov,hov⟩:∃ov,ov=(s'.over || k==64):=⟨_,rfl⟩
   obtain⟨b1,b2⟩:=k1.set (i:=2) (v:=.bool ov) (s':=open1 k s') rfl rfl k1.around k1.nums (fun _ _ _=>by rw[hov];rfl)
   have HP2:Hid (PS W0 (wr.setCell ⟨pb,2,none⟩ (.bool ov)) pb (open1 k s') sb'∧Kp (fun g=>g=pb∨X≤g) W (wr.setCell ⟨pb,2,none⟩ (.bool ov))∧PE k e' (wr.setCell ⟨pb,2,none⟩ (.bool ov))∧X≤(wr.setCell ⟨pb,2,none⟩ (.bool ov)).heap.size):=by
    have hx:X≤wr.heap.size:=Nat.le_trans HM.out.2.1 k2.size
    exact⟨b1,zaN k2 (kx_of (kp_set _ _ _ _)),HE.out k e' wr _ s' (open1 k s') sb' k1 ⟨sb',b1,kp_set _ _ _ _⟩ hI.pe,by simpa using hx⟩
   obtain⟨so,hso⟩:∃so,so=s'.over:=⟨_,rfl⟩
   rw[←hso] at p2 hov
   obtain⟨nb0,hnb⟩:∃nb0,nb0=(k==64):=⟨_,rfl⟩
   have qn:((k:Int)==64)=nb0:=by
    rw[hnb]
    by_cases q:k=64
    ·rw[q];rfl
    ·have e1:((k:Int)==64)=false:=by simp;omega
     have e2:(k==64)=false:=by simp;omega
     rw[e1,e2]
   rw[←hnb] at hov
   clear hI k1 k2 hf hrow hf0 H p0 p1 p3 p4 p5 p6 b1 b2 hso hnb hk9
   have W2:Hid (∃w2,w2=wr.setCell ⟨pb,2,none⟩ (.bool ov)):=⟨_,rfl⟩
   have HOV:Hid (ov=(so || nb0)):=hov
   clear hov
   cases so
   all_goals
    go_upto_region 6 with fail
   ·obtain rfl:ov=nb0:=HOV.out
    obtain⟨w2,hw2⟩:∃w2,w2=wr.setCell ⟨pb,2,none⟩ (.bool ov):=⟨_,rfl⟩
    rw[←hw2] at HP2 ⊢
    clear hw2 p2 pf hpl qn W2
    obtain⟨z,hz⟩:∃z,z=(part (open1 k s') e').1:=⟨_,rfl⟩
    obtain⟨ee,hee⟩:∃ee,ee=(part (open1 k s') e').2:=⟨_,rfl⟩
    have HZ:Hid (Less s' z):=by show Less _ _;rw[hz];exact(zbO k s').trans (HF.out (open1 k s') e')
    have CP:Hid (Calls Tryz.prog 108 #[.pointer (some ⟨bx,0,none⟩),.pointer (some ⟨nb,0,none⟩),.pointer (some ⟨xb,0,none⟩)] w2 fun en W'=>en=.returned (.tuple #[])∧Hid (PBX W0 pb X w2 z W'∧PE k9 ee W')):=by
     rw[hz,hee,HK9.out]
     exact HK.out w2 (open1 k s') sb' e' k (by have:=I.out.bd rfl;have:=HM.out;omega) HP2.out.2.2.2 HP2.out.1 HP2.out.2.2.1 (Nat.le_trans (I.out.less.rest) HM.out.1)
    rw[←hz,←hee] at HF0
    clear hz hee
    go_wp2_with fail
    refine(CP.out).mono ?_
    rintro en w3 ⟨rfl,G3⟩
    clear CP
    obtain⟨sb3,k1,k2⟩:=G3.out.1
    have HP3:Hid (PS W0 w3 pb z sb3∧Kp (fun g=>g=pb∨X≤g) W w3):=⟨k1,zaN HP2.out.2.1 k2⟩
    have hx3:X≤w3.heap.size:=Nat.le_trans HP2.out.2.2.2 k2.size
    have CM:Hid (Calls Tryz.prog 109 #[.pointer (some ⟨pb,0,none⟩),.slice (some ⟨w3.heap.size,0,none⟩) 1 1] (w3.alloc (.cells #[.string ⟨#[44]⟩] 9)) fun e W''=>e=.returned (.bool (is [[44]] z))∧Hid (PB W0 w3 pb (may [[44]] z) W'')):=may_pb (PB.refl k1) (ts:=[[44]]) rfl rfl (by decide)
    have HX3:Hid (X≤w3.heap.size):=hx3
    clear k1 k2 hx3
    obtain⟨v1,v2⟩:=HV.out
    go_wp2_with fail
    clear v1 v2
    refine(CM.out).mono ?_
    rintro en w4 ⟨rfl,G4⟩
    have PE4:Hid (PE k9 ee w4):=HE.out k9 ee w3 w4 z _ sb3 HP3.out.1 G4.out G3.out.2
    have PG4:Hid (PBX W0 pb X W (may [[44]] z) w4):=PBX.trans HP3.out.2 (PBX.of G4.out)
    have RL:Hid (rlen wr pb=s'.rest.length∧rlen w4 pb=(may [[44]] z).rest.length):=by
     obtain⟨sb4,k4,_⟩:=PG4.out
     exact⟨HP.out.1.rlen,k4.rlen⟩
    cases hi:is [[44]] z with
    | true =>
     have HS:=hidp (zaA (is_ne hi)).1
     have N:Hid (QB W0 pb X W PE part s R true k9 (next z) ee f0 w4):=by
      have e1:=HF0.out.2
      rw[if_pos hi] at e1
      have e2:=PG4.out
      rw[may,if_pos hi] at e2
      have h1:=HS.out
      have h2:=HZ.out.rest
      have h3:=I.out.bd rfl
      have h4:=HF0.out.1
      have h5:=HK9.out
      exact⟨fun _=>⟨by omega,by rw[e1,HK9.out]⟩,fun q=>(by cases q),(I.out.less.trans HZ.out).trans (zaH z),e2,PE4.out,by omega,fun _=>by omega⟩
     have MS:Hid ((may [[44]] z).rest.length+1≤s'.rest.length):=by
      show _≤_
      rw[may,if_pos hi]
      have:=HS.out
      have:=HZ.out.rest
      omega
     clear hi
     go_wp2
     go_roundw
     case rel=>first | exact⟨true,k9,next z,ee,f0,rfl,rfl,N.out⟩ | ((repeat apply Exists.intro);exact⟨⟨true,k9,next z,ee,f0,rfl,rfl,N.out⟩,rfl⟩)
     case measure =>
      rw[RL.out.1,RL.out.2]
      have:=MS.out
      show 2*_+1<2*_+1
      omega
    | false =>
     have N:Hid (QB W0 pb X W PE part s R false k9 z ee f0 w4):=by
      have e1:=HF0.out.2
      rw[hi] at e1
      have e2:=PG4.out
      rw[may,hi] at e2
      have h2:=HZ.out.rest
      have h3:=I.out.bd rfl
      have h5:=HK9.out
      exact⟨fun q=>(by cases q),fun _=>(by rw[e1,HK9.out];rfl),I.out.less.trans HZ.out,e2,PE4.out,by omega,fun q=>(by cases q)⟩
     have MS:Hid ((may [[44]] z).rest.length≤s'.rest.length):=by
      show _≤_
      rw[may,hi]
      exact HZ.out.rest
     clear hi
     go_wp2
     go_roundw
     case rel=>first | exact⟨false,k9,z,ee,f0,rfl,rfl,N.out⟩ | ((repeat apply Exists.intro);exact⟨⟨false,k9,z,ee,f0,rfl,rfl,N.out⟩,rfl⟩)
     case measure =>
      rw[RL.out.1,RL.out.2]
      have:=MS.out
      show 2*_+0<2*_+1
      omega
   ·obtain rfl:ov=true:=HOV.out
    obtain⟨w2,hw2⟩:∃w2,w2=wr.setCell ⟨pb,2,none⟩ (.bool true):=⟨_,rfl⟩
    rw[←hw2] at HP2 ⊢
    clear hw2 p2 pf hpl qn W2
    obtain⟨z,hz⟩:∃z,z=(part (open1 k s') e').1:=⟨_,rfl⟩
    obtain⟨ee,hee⟩:∃ee,ee=(part (open1 k s') e').2:=⟨_,rfl⟩
    have HZ:Hid (Less s' z):=by show Less _ _;rw[hz];exact(zbO k s').trans (HF.out (open1 k s') e')
    have CP:Hid (Calls Tryz.prog 108 #[.pointer (some ⟨bx,0,none⟩),.pointer (some ⟨nb,0,none⟩),.pointer (some ⟨xb,0,none⟩)] w2 fun en W'=>en=.returned (.tuple #[])∧Hid (PBX W0 pb X w2 z W'∧PE k9 ee W')):=by
     rw[hz,hee,HK9.out]
     exact HK.out w2 (open1 k s') sb' e' k (by have:=I.out.bd rfl;have:=HM.out;omega) HP2.out.2.2.2 HP2.out.1 HP2.out.2.2.1 (Nat.le_trans (I.out.less.rest) HM.out.1)
    rw[←hz,←hee] at HF0
    clear hz hee
    go_wp2_with fail
    refine(CP.out).mono ?_
    rintro en w3 ⟨rfl,G3⟩
    clear CP
    obtain⟨sb3,k1,k2⟩:=G3.out.1
    have HP3:Hid (PS W0 w3 pb z sb3∧Kp (fun g=>g=pb∨X≤g) W w3):=⟨k1,zaN HP2.out.2.1 k2⟩
    have hx3:X≤w3.heap.size:=Nat.le_trans HP2.out.2.2.2 k2.size
    have CM:Hid (Calls Tryz.prog 109 #[.pointer (some ⟨pb,0,none⟩),.slice (some ⟨w3.heap.size,0,none⟩) 1 1] (w3.alloc (.cells #[.string ⟨#[44]⟩] 9)) fun e W''=>e=.returned (.bool (is [[44]] z))∧Hid (PB W0 w3 pb (may [[44]] z) W'')):=may_pb (PB.refl k1) (ts:=[[44]]) rfl rfl (by decide)
    have HX3:Hid (X≤w3.heap.size):=hx3
    clear k1 k2 hx3
    obtain⟨v1,v2⟩:=HV.out
    go_wp2_with fail
    clear v1 v2
    refine(CM.out).mono ?_
    rintro en w4 ⟨rfl,G4⟩
    have PE4:Hid (PE k9 ee w4):=HE.out k9 ee w3 w4 z _ sb3 HP3.out.1 G4.out G3.out.2
    have PG4:Hid (PBX W0 pb X W (may [[44]] z) w4):=PBX.trans HP3.out.2 (PBX.of G4.out)
    have RL:Hid (rlen wr pb=s'.rest.length∧rlen w4 pb=(may [[44]] z).rest.length):=by
     obtain⟨sb4,k4,_⟩:=PG4.out
     exact⟨HP.out.1.rlen,k4.rlen⟩
    cases hi:is [[44]] z with
    | true =>
     have HS:=hidp (zaA (is_ne hi)).1
     have N:Hid (QB W0 pb X W PE part s R true k9 (next z) ee f0 w4):=by
      have e1:=HF0.out.2
      rw[if_pos hi] at e1
      have e2:=PG4.out
      rw[may,if_pos hi] at e2
      have h1:=HS.out
      have h2:=HZ.out.rest
      have h3:=I.out.bd rfl
      have h4:=HF0.out.1
      have h5:=HK9.out
      exact⟨fun _=>⟨by omega,by rw[e1,HK9.out]⟩,fun q=>(by cases q),(I.out.less.trans HZ.out).trans (zaH z),e2,PE4.out,by omega,fun _=>by omega⟩
     have MS:Hid ((may [[44]] z).rest.length+1≤s'.rest.length):=by
      show _≤_
      rw[may,if_pos hi]
      have:=HS.out
      have:=HZ.out.rest
      omega
     clear hi
     go_wp2
     go_roundw
     case rel=>first | exact⟨true,k9,next z,ee,f0,rfl,rfl,N.out⟩ | ((repeat apply Exists.intro);exact⟨⟨true,k9,next z,ee,f0,rfl,rfl,N.out⟩,rfl⟩)
     case measure =>
      rw[RL.out.1,RL.out.2]
      have:=MS.out
      show 2*_+1<2*_+1
      omega
    | false =>
     have N:Hid (QB W0 pb X W PE part s R false k9 z ee f0 w4):=by
      have e1:=HF0.out.2
      rw[hi] at e1
      have e2:=PG4.out
      rw[may,hi] at e2
      have h2:=HZ.out.rest
      have h3:=I.out.bd rfl
      have h5:=HK9.out
      exact⟨fun q=>(by cases q),fun _=>(by rw[e1,HK9.out];rfl),I.out.less.trans HZ.out,e2,PE4.out,by omega,fun q=>(by cases q)⟩
     have MS:Hid ((may [[44]] z).rest.length≤s'.rest.length):=by
      show _≤_
      rw[may,hi]
      exact HZ.out.rest
     clear hi
     go_wp2
     go_roundw
     case rel=>first | exact⟨false,k9,z,ee,f0,rfl,rfl,N.out⟩ | ((repeat apply Exists.intro);exact⟨⟨false,k9,z,ee,f0,rfl,rfl,N.out⟩,rfl⟩)
     case measure =>
      rw[RL.out.1,RL.out.2]
      have:=MS.out
      show 2*_+0<2*_+1
      omega
theorem parts_items {bx nb ib:Nat} (hF:∀s e,Less s (part s e).1) (HC:PartB W0 pb X 139 #[.pointer (some ⟨bx,0,none⟩),.pointer (some ⟨nb,0,none⟩),.pointer (some ⟨ib,0,none⟩)] PE part m) (hE:∀(k:Nat) (e:E) (W W':World) (s s':S) (sb:Option Nat),PS W0 W pb s sb→PB W0 W pb s' W'→PE k e W→PE k e W') (h:PS W0 W pb s sb) (he:PE 0 e W) (hX:X≤W.heap.size) (hm:s.rest.length≤m) :
  Calls Tryz.prog 107 #[.pointer (some ⟨pb,0,none⟩),.func (.func 139) #[] #[.pointer (some ⟨bx,0,none⟩),.pointer (some ⟨nb,0,none⟩),.pointer (some ⟨ib,0,none⟩)]] W fun en W'=>en=.returned (.int .i64 ((parts part s e).2.2:Int))∧PBX W0 pb X W (parts part s e).1 W'∧PE (parts part s e).2.2 (parts part s e).2.1 W'∧(parts part s e).2.2≤s.rest.length+1:=by
 have HF:Hid (∀s e,Less s (part s e).1):=hF
 have HK:Hid (PartB W0 pb X 139 #[.pointer (some ⟨bx,0,none⟩),.pointer (some ⟨nb,0,none⟩),.pointer (some ⟨ib,0,none⟩)] PE part m):=HC
 have HE:Hid (∀(k:Nat) (e:E) (W W':World) (s s':S) (sb:Option Nat),PS W0 W pb s sb→PB W0 W pb s' W'→PE k e W→PE k e W'):=hE
 have HM:Hid (s.rest.length≤m∧X≤W.heap.size∧s.rest.length≤20000):=⟨hm,hX,by have:=h.lim;omega⟩
 obtain⟨R,hR⟩:∃R,R=parts part s e:=⟨_,rfl⟩
 have I0:Hid (QB W0 pb X W PE part s R true 0 s e (s.rest.length+1) W):=⟨fun _=>⟨Nat.le_refl _,by rw[hR];rfl⟩,fun q=>(by cases q),Less.refl s,PBX.of (PB.refl h),he,by omega,fun _=>by omega⟩
 rw[←hR]
 clear hF HC hE h he hX hm hR
 go_enter Tryz.func107,Tryz.ntmps107
 go_wp2
 go_loopw [5,6] (fun v u wr=>∃(b:Bool) (k:Nat) (s':S) (e':E) (f:Nat),v=.int .i64 (k:Int)∧u=.bool b∧QB W0 pb X W PE part s R b k s' e' f wr) (fun _ u W=>2*rlen W pb+(match u with | .bool true=>1 | _=>0))
 case atStart=>exact⟨true,0,s,e,_,rfl,rfl,I0.out⟩
 case round =>
  clear I0
  obtain⟨b,k,s',e',f,rfl,rfl,hI⟩:=hrel
  have I:=hidp hI
  cases b with
  | false =>
   have HR:Hid (R=(s',e',k)):=hI.stop rfl
   clear hI
   go_wp2
   go_ret
   exact⟨by rw[HR.out];rfl,by rw[HR.out];exact I.out.pg,by rw[HR.out];exact I.out.pe,by rw[HR.out];have:=I.out.few;show k≤_;omega⟩
  | true =>
   obtain⟨sb',k1,k2⟩:=hI.pg
   have HP:Hid (PS W0 wr pb s' sb'∧Kp (fun g=>g=pb∨X≤g) W wr):=⟨k1,k2⟩
   obtain⟨hf,hrow⟩:=hI.go rfl
   obtain⟨f0,hf0⟩:∃f0,f=f0+1:=⟨f - 1,by omega⟩
   have HF0:Hid (s'.rest.length≤f0∧R=(if is [[44]] (part (open1 k s') e').1 then partsL part f0 (k+1) (next (part (open1 k s') e').1) (part (open1 k s') e').2 else ((part (open1 k s') e').1,(part (open1 k s') e').2,k+1))):=⟨by omega,by rw[←hrow,hf0,partsL]⟩
   obtain⟨ra,rc,sv,H,p0,p1,p2,p3,p4,p5,p6,pf⟩:=k1.cells
   have hpl:=k1.blt
   obtain⟨k9,hk9⟩:∃k9,k9=k+1:=⟨_,rfl⟩
   have HK9:Hid (k9=k+1):=hk9
   have HV:Hid (IntKind.i64.wrap ((k:Int)+1)=(k9:Int)∧wrap64 ((k:Int)+1)=(k9:Int)):=wrp (by omega) (by have:=hI.few;have:=HM.out;omega)
   obtain⟨ov,hov⟩:∃ov,ov=(s'.over || k==64):=⟨_,rfl⟩
   obtain⟨b1,b2⟩:=k1.set (i:=2) (v:=.bool ov) (s':=open1 k s') rfl rfl k1.around k1.nums (fun _ _ _=>by rw[hov];rfl)
   have HP2:Hid (PS W0 (wr.setCell ⟨pb,2,none⟩ (.bool ov)) pb (open1 k s') sb'∧Kp (fun g=>g=pb∨X≤g) W (wr.setCell ⟨pb,2,none⟩ (.bool ov))∧PE k e' (wr.setCell ⟨pb,2,none⟩ (.bool ov))∧X≤(wr.setCell ⟨pb,2,none⟩ (.bool ov)).heap.size):=by
    have hx:X≤wr.heap.size:=Nat.le_trans HM.out.2.1 k2.size
    exact⟨b1,zaN k2 (kx_of (kp_set _ _ _ _)),HE.out k e' wr _ s' (open1 k s') sb' k1 ⟨sb',b1,kp_set _ _ _ _⟩ hI.pe,by simpa using hx⟩
   obtain⟨so,hso⟩:∃so,so=s'.over:=⟨_,rfl⟩
   rw[←hso] at p2 hov
   obtain⟨nb0,hnb⟩:∃nb0,nb0=(k==64):=⟨_,rfl⟩
   have qn:((k:Int)==64)=nb0:=by
    rw[hnb]
    by_cases q:k=64
    ·rw[q];rfl
    ·have e1:((k:Int)==64)=false:=by simp;omega
     have e2:(k==64)=false:=by simp;omega
     rw[e1,e2]
   rw[←hnb] at hov
   clear hI k1 k2 hf hrow hf0 H p0 p1 p3 p4 p5 p6 b1 b2 hso hnb hk9
   have W2:Hid (∃w2,w2=wr.setCell ⟨pb,2,none⟩ (.bool ov)):=⟨_,rfl⟩
   have HOV:Hid (ov=(so || nb0)):=hov
   clear hov
   cases so
   all_goals
    go_upto_region 6 with fail
   ·obtain rfl:ov=nb0:=HOV.out
    obtain⟨w2,hw2⟩:∃w2,w2=wr.setCell ⟨pb,2,none⟩ (.bool ov):=⟨_,rfl⟩
    rw[←hw2] at HP2 ⊢
    clear hw2 p2 pf hpl qn W2
    obtain⟨z,hz⟩:∃z,z=(part (open1 k s') e').1:=⟨_,rfl⟩
    obtain⟨ee,hee⟩:∃ee,ee=(part (open1 k s') e').2:=⟨_,rfl⟩
    have HZ:Hid (Less s' z):=by show Less _ _;rw[hz];exact(zbO k s').trans (HF.out (open1 k s') e')
    have CP:Hid (Calls Tryz.prog 139 #[.pointer (some ⟨bx,0,none⟩),.pointer (some ⟨nb,0,none⟩),.pointer (some ⟨ib,0,none⟩)] w2 fun en W'=>en=.returned (.tuple #[])∧Hid (PBX W0 pb X w2 z W'∧PE k9 ee W')):=by
     rw[hz,hee,HK9.out]
     exact HK.out w2 (open1 k s') sb' e' k (by have:=I.out.bd rfl;have:=HM.out;omega) HP2.out.2.2.2 HP2.out.1 HP2.out.2.2.1 (Nat.le_trans (I.out.less.rest) HM.out.1)
    rw[←hz,←hee] at HF0
    clear hz hee
    go_wp2_with fail
    refine(CP.out).mono ?_
    rintro en w3 ⟨rfl,G3⟩
    clear CP
    obtain⟨sb3,k1,k2⟩:=G3.out.1
    have HP3:Hid (PS W0 w3 pb z sb3∧Kp (fun g=>g=pb∨X≤g) W w3):=⟨k1,zaN HP2.out.2.1 k2⟩
    have hx3:X≤w3.heap.size:=Nat.le_trans HP2.out.2.2.2 k2.size
    have CM:Hid (Calls Tryz.prog 109 #[.pointer (some ⟨pb,0,none⟩),.slice (some ⟨w3.heap.size,0,none⟩) 1 1] (w3.alloc (.cells #[.string ⟨#[44]⟩] 9)) fun e W''=>e=.returned (.bool (is [[44]] z))∧Hid (PB W0 w3 pb (may [[44]] z) W'')):=may_pb (PB.refl k1) (ts:=[[44]]) rfl rfl (by decide)
    have HX3:Hid (X≤w3.heap.size):=hx3
    clear k1 k2 hx3
    obtain⟨v1,v2⟩:=HV.out
    go_wp2_with fail
    clear v1 v2
    refine(CM.out).mono ?_
    rintro en w4 ⟨rfl,G4⟩
    have PE4:Hid (PE k9 ee w4):=HE.out k9 ee w3 w4 z _ sb3 HP3.out.1 G4.out G3.out.2
    have PG4:Hid (PBX W0 pb X W (may [[44]] z) w4):=PBX.trans HP3.out.2 (PBX.of G4.out)
    have RL:Hid (rlen wr pb=s'.rest.length∧rlen w4 pb=(may [[44]] z).rest.length):=by
     obtain⟨sb4,k4,_⟩:=PG4.out
     exact⟨HP.out.1.rlen,k4.rlen⟩
    cases hi:is [[44]] z with
    | true =>
     have HS:=hidp (zaA (is_ne hi)).1
     have N:Hid (QB W0 pb X W PE part s R true k9 (next z) ee f0 w4):=by
      have e1:=HF0.out.2
      rw[if_pos hi] at e1
      have e2:=PG4.out
      rw[may,if_pos hi] at e2
      have h1:=HS.out
      have h2:=HZ.out.rest
      have h3:=I.out.bd rfl
      have h4:=HF0.out.1
      have h5:=HK9.out
      exact⟨fun _=>⟨by omega,by rw[e1,HK9.out]⟩,fun q=>(by cases q),(I.out.less.trans HZ.out).trans (zaH z),e2,PE4.out,by omega,fun _=>by omega⟩
     have MS:Hid ((may [[44]] z).rest.length+1≤s'.rest.length):=by
      show _≤_
      rw[may,if_pos hi]
      have:=HS.out
      have:=HZ.out.rest
      omega
     clear hi
     go_wp2
     go_roundw
     case rel=>first | exact⟨true,k9,next z,ee,f0,rfl,rfl,N.out⟩ | ((repeat apply Exists.intro);exact⟨⟨true,k9,next z,ee,f0,rfl,rfl,N.out⟩,rfl⟩)
     case measure =>
      rw[RL.out.1,RL.out.2]
      have:=MS.out
      show 2*_+1<2*_+1
      omega
    | false =>
     have N:Hid (QB W0 pb X W PE part s R false k9 z ee f0 w4):=by
      have e1:=HF0.out.2
      rw[hi] at e1
      have e2:=PG4.out
      rw[may,hi] at e2
      have h2:=HZ.out.rest
      have h3:=I.out.bd rfl
      have h5:=HK9.out
      exact⟨fun q=>(by cases q),fun _=>(by rw[e1,HK9.out];rfl),I.out.less.trans HZ.out,e2,PE4.out,by omega,fun q=>(by cases q)⟩
     have MS:Hid ((may [[44]] z).rest.length≤s'.rest.length):=by
      show _≤_
      rw[may,hi]
      exact HZ.out.rest
     clear hi
     go_wp2
     go_roundw
     case rel=>first | exact⟨false,k9,z,ee,f0,rfl,rfl,N.out⟩ | ((repeat apply Exists.intro);exact⟨⟨false,k9,z,ee,f0,rfl,rfl,N.out⟩,rfl⟩)
     case measure =>
      rw[RL.out.1,RL.out.2]
      have:=MS.out
      show 2*_+0<2*_+1
      omega
   ·obtain rfl:ov=true:=HOV.out
    obtain⟨w2,hw2⟩:∃w2,w2=wr.setCell ⟨pb,2,none⟩ (.bool true):=⟨_,rfl⟩
    rw[←hw2] at HP2 ⊢
    clear hw2 p2 pf hpl qn W2
    obtain⟨z,hz⟩:∃z,z=(part (open1 k s') e').1:=⟨_,rfl⟩
    obtain⟨ee,hee⟩:∃ee,ee=(part (open1 k s') e').2:=⟨_,rfl⟩
    have HZ:Hid (Less s' z):=by show Less _ _;rw[hz];exact(zbO k s').trans (HF.out (open1 k s') e')
    have CP:Hid (Calls Tryz.prog 139 #[.pointer (some ⟨bx,0,none⟩),.pointer (some ⟨nb,0,none⟩),.pointer (some ⟨ib,0,none⟩)] w2 fun en W'=>en=.returned (.tuple #[])∧Hid (PBX W0 pb X w2 z W'∧PE k9 ee W')):=by
     rw[hz,hee,HK9.out]
     exact HK.out w2 (open1 k s') sb' e' k (by have:=I.out.bd rfl;have:=HM.out;omega) HP2.out.2.2.2 HP2.out.1 HP2.out.2.2.1 (Nat.le_trans (I.out.less.rest) HM.out.1)
    rw[←hz,←hee] at HF0
    clear hz hee
    go_wp2_with fail
    refine(CP.out).mono ?_
    rintro en w3 ⟨rfl,G3⟩
    clear CP
    obtain⟨sb3,k1,k2⟩:=G3.out.1
    have HP3:Hid (PS W0 w3 pb z sb3∧Kp (fun g=>g=pb∨X≤g) W w3):=⟨k1,zaN HP2.out.2.1 k2⟩
    have hx3:X≤w3.heap.size:=Nat.le_trans HP2.out.2.2.2 k2.size
    have CM:Hid (Calls Tryz.prog 109 #[.pointer (some ⟨pb,0,none⟩),.slice (some ⟨w3.heap.size,0,none⟩) 1 1] (w3.alloc (.cells #[.string ⟨#[44]⟩] 9)) fun e W''=>e=.returned (.bool (is [[44]] z))∧Hid (PB W0 w3 pb (may [[44]] z) W'')):=may_pb (PB.refl k1) (ts:=[[44]]) rfl rfl (by decide)
    have HX3:Hid (X≤w3.heap.size):=hx3
    clear k1 k2 hx3
    obtain⟨v1,v2⟩:=HV.out
    go_wp2_with fail
    clear v1 v2
    refine(CM.out).mono ?_
    rintro en w4 ⟨rfl,G4⟩
    have PE4:Hid (PE k9 ee w4):=HE.out k9 ee w3 w4 z _ sb3 HP3.out.1 G4.out G3.out.2
    have PG4:Hid (PBX W0 pb X W (may [[44]] z) w4):=PBX.trans HP3.out.2 (PBX.of G4.out)
    have RL:Hid (rlen wr pb=s'.rest.length∧rlen w4 pb=(may [[44]] z).rest.length):=by
     obtain⟨sb4,k4,_⟩:=PG4.out
     exact⟨HP.out.1.rlen,k4.rlen⟩
    cases hi:is [[44]] z with
    | true =>
     have HS:=hidp (zaA (is_ne hi)).1
     have N:Hid (QB W0 pb X W PE part s R true k9 (next z) ee f0 w4):=by
      have e1:=HF0.out.2
      rw[if_pos hi] at e1
      have e2:=PG4.out
      rw[may,if_pos hi] at e2
      have h1:=HS.out
      have h2:=HZ.out.rest
      have h3:=I.out.bd rfl
      have h4:=HF0.out.1
      have h5:=HK9.out
      exact⟨fun _=>⟨by omega,by rw[e1,HK9.out]⟩,fun q=>(by cases q),(I.out.less.trans HZ.out).trans (zaH z),e2,PE4.out,by omega,fun _=>by omega⟩
     have MS:Hid ((may [[44]] z).rest.length+1≤s'.rest.length):=by
      show _≤_
      rw[may,if_pos hi]
      have:=HS.out
      have:=HZ.out.rest
      omega
     clear hi
     go_wp2
     go_roundw
     case rel=>first | exact⟨true,k9,next z,ee,f0,rfl,rfl,N.out⟩ | ((repeat apply Exists.intro);exact⟨⟨true,k9,next z,ee,f0,rfl,rfl,N.out⟩,rfl⟩)
     case measure =>
      rw[RL.out.1,RL.out.2]
      have:=MS.out
      show 2*_+1<2*_+1
      omega
    | false =>
     have N:Hid (QB W0 pb X W PE part s R false k9 z ee f0 w4):=by
      have e1:=HF0.out.2
      rw[hi] at e1
      have e2:=PG4.out
      rw[may,hi] at e2
      have h2:=HZ.out.rest
      have h3:=I.out.bd rfl
      have h5:=HK9.out
      exact⟨fun q=>(by cases q),fun _=>(by rw[e1,HK9.out];rfl),I.out.less.trans HZ.out,e2,PE4.out,by omega,fun q=>(by cases q)⟩
     have MS:Hid ((may [[44]] z).rest.length≤s'.rest.length):=by
      show _≤_
      rw[may,hi]
      exact HZ.out.rest
     clear hi
     go_wp2
     go_roundw
     case rel=>first | exact⟨false,k9,z,ee,f0,rfl,rfl,N.out⟩ | ((repeat apply Exists.intro);exact⟨⟨false,k9,z,ee,f0,rfl,rfl,N.out⟩,rfl⟩)
     case measure =>
      rw[RL.out.1,RL.out.2]
      have:=MS.out
      show 2*_+0<2*_+1
      omega
end
end Ps
end Go.Proofs.YtfhkaffakniioaaGreatDoor
