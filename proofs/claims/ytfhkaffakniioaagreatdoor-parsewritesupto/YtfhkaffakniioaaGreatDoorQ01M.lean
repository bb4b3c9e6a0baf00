/- Several texts, joined. -/
import Derived.Lib.Bytealg
import Derived.Lib.Small
import GoSem.Claim
import Derived.Shelf.LaysC
import Derived.Shelf.Unicode.ValidAny
import Derived.Test.YtfhkaffakniioaaGreatDoorProg
import Derived.Test.YtfhkaffakniioaaGreatDoorQ00M
import Derived.OwnWalk
import Derived.Deep.AppendLies
import Derived.Laws.BitsAllLaws
import Derived.Laws.IdiomStrings
import Derived.Laws.OwnMore
import Derived.Lib.UnsafeStr
import Derived.Lib.Strings
import Derived.Deep.Upon
set_option maxHeartbeats 4000000
namespace Go.Proofs.YtfhkaffakniioaaGreatDoor.Lx
abbrev Bs:=List UInt8
def isL (b:Nat):Bool:=decide (97≤b∧b≤122) || decide (65≤b∧b≤90) || decide (b=95)
def isD (b:Nat):Bool:=decide (48≤b∧b≤57)
def isW (b:UInt8):Bool:=isL b.toNat || isD b.toNat
def wsz:Bs→Nat
 | []=>0
 | b :: r=>if isW b then wsz r+1 else 0
def up (b:UInt8):UInt8:=if 97≤b.toNat∧b.toNat≤122 then UInt8.ofNat (b.toNat - 32) else b
def great (s:Bs):Bs:=s.map up
def kws:List Bs:=[[65,76,76],[65,78,68],[65,83],[66,89],[67,82,69,65,84,69],[68,69,76,69,84,69],[68,69,83,67],[70,65,76,83,69],[70,82,79,77],[72,73,83,84,79,82,89],[73,78],[73,78,68,69,88],[73,78,83,69,82,84],[73,78,84,79],[73,83],[78,79,84],[78,85,76,76],[79,78],[79,82],[79,82,68,69,82],[83,69,76,69,67,84],[83,69,84],[84,65,66,76,69],[84,82,85,69],[85,80,68,65,84,69],[87,72,69,82,69]]
def isKey (s:Bs):Bool:=decide (s.length≤7) && kws.contains (great s)
theorem wsz_le:∀s:Bs,wsz s≤s.length
 | []=>Nat.le_refl _
 | b :: r=>by
  rw[wsz]
  split
  ·have:=wsz_le r;simp;omega
  ·exact Nat.zero_le _
theorem wsz_of:∀(s:Bs) (n:Nat),(∀i,i<n→∃b,s[i]?=some b∧isW b=true)→(∀b,s[n]?=some b→isW b=false)→wsz s=n
 | [],n,h,_=>by
  cases n with
  | zero=>rfl
  | succ n=>obtain⟨b,hb,_⟩:=h 0 (by omega);simp at hb
 | b :: r,0,_,h2=>by rw[wsz,if_neg (by rw[h2 b rfl];decide)]
 | b :: r,n+1,h,h2=>by
  obtain⟨b',hb,hw⟩:=h 0 (by omega)
  simp at hb
  subst hb
  rw[wsz,if_pos hw,wsz_of r n (fun i hi=>by have:=h (i+1) (by omega);simpa using this) (fun c hc=>h2 c (by simpa using hc))]
end Go.Proofs.YtfhkaffakniioaaGreatDoor.Lx
namespace Go.Proofs
open Go.Shelf
def Tryz.laysValid_ren:Go.Shelf.Ren:=⟨fun | 196=>57 | 259=>84 | n=>n,fun | 9=>9 | 4=>4 | 3=>3 | 5=>5 | 12=>12 | 119=>108 | 0=>0 | 46=>112 | 139=>111 | 138=>110 | 53=>133 | n=>n,fun | 3=>0 | 4=>1 | n=>n⟩
theorem Tryz.laysValid:Go.Proofs.Lays.n196 Tryz.prog Tryz.laysValid_ren:={
 mixed:=by kernel_rfl
 f196:=Tryz.func57.trans (congrArg some (by kernel_rfl))
 f259:=Tryz.func84.trans (congrArg some (by kernel_rfl))
 t0:=Tryz.underlying0
 a0:=Tryz.isAgg0
 z0:=Tryz.sizeOf0
 v0:=Tryz.zeroValue0
 t3:=Tryz.underlying3
 a3:=Tryz.isAgg3
 z3:=Tryz.sizeOf3
 v3:=Tryz.zeroValue3
 t4:=Tryz.underlying4
 a4:=Tryz.isAgg4
 z4:=Tryz.sizeOf4
 v4:=Tryz.zeroValue4
 t5:=Tryz.underlying5
 a5:=Tryz.isAgg5
 z5:=Tryz.sizeOf5
 v5:=Tryz.zeroValue5
 t9:=Tryz.underlying9
 a9:=Tryz.isAgg9
 z9:=Tryz.sizeOf9
 v9:=Tryz.zeroValue9
 t12:=Tryz.underlying12
 a12:=Tryz.isAgg12
 z12:=Tryz.sizeOf12
 v12:=Tryz.zeroValue12
 t46:=Tryz.underlying112
 a46:=Tryz.isAgg112
 z46:=Tryz.sizeOf112
 v46:=Tryz.zeroValue112
 t53:=Tryz.underlying133
 a53:=Tryz.isAgg133
 z53:=Tryz.sizeOf133
 v53:=Tryz.zeroValue133
 t119:=Tryz.underlying108
 a119:=Tryz.isAgg108
 z119:=Tryz.sizeOf108
 t138:=Tryz.underlying110
 a138:=Tryz.isAgg110
 z138:=Tryz.sizeOf110
 v138:=Tryz.zeroValue110
 t139:=Tryz.underlying111
 a139:=Tryz.isAgg111
 z139:=Tryz.sizeOf111
 v139:=Tryz.zeroValue111
 g3:=by kernel_rfl
 g4:=by kernel_rfl }
end Go.Proofs
namespace Go.Proofs.YtfhkaffakniioaaGreatDoor
open Go.RowKit
theorem Lx.index_byte (b:ByteArray) (i:Int) (h0:0≤i) (h1:i<b.size) (wx:World) :
  (Instr.index 9 (.string b) (.int .i64 i)).run Tryz.prog wx=.ok (.int .u8 (((b.data.toList.getD i.toNat 0).toNat:Nat):Int)) wx:=by
 rw[run_index_string (P:=Tryz.prog) wx 9 b .i64 i Tryz.underlying9,dif_pos ⟨h0,h1⟩]
 have h2:i.toNat<b.size:=by omega
 have h3:i.toNat<b.data.toList.length:=by rw[←Lib.size_eq];exact h2
 have e:b[i.toNat]=b.data.toList.getD i.toNat 0:=by
  rw[List.getD_eq_getElem?_getD,List.getElem?_eq_getElem h3]
  rfl
 rw[e]
theorem isLetter_c (b:Nat) (w:World):Calls Tryz.prog 91 #[.int .u8 (b:Int)] w fun e w'=>e=.returned (.bool (Lx.isL b))∧w'=w:=by
 go_enter Tryz.func91,Tryz.ntmps91
 rcases Nat.lt_or_ge b 65 with h | h
 ·have e:Lx.isL b=false:=by simp[Lx.isL];omega
  rw[e]
  have q1:¬(97:Int)≤(b:Int):=by omega
  have q2:¬(65:Int)≤(b:Int):=by omega
  have q3:((b:Int)==95)=false:=by rw[beq_eq_false_iff_ne];omega
  go_wp2
  go_ret
  exact⟨rfl,rfl⟩
 ·have q2:(65:Int)≤(b:Int):=by omega
  by_cases h1:97≤b
  ·have q1:(97:Int)≤(b:Int):=by omega
   by_cases h3:b≤122
   ·have q3:(b:Int)≤122:=by omega
    have e:Lx.isL b=true:=by simp[Lx.isL];omega
    rw[e]
    go_wp2
    go_ret
    exact⟨rfl,rfl⟩
   ·have q3:¬(b:Int)≤122:=by omega
    have q4:¬(b:Int)≤90:=by omega
    have q5:((b:Int)==95)=false:=by rw[beq_eq_false_iff_ne];omega
    have e:Lx.isL b=false:=by simp[Lx.isL];omega
    rw[e]
    go_wp2
    go_ret
    exact⟨rfl,rfl⟩
  ·have q1:¬(97:Int)≤(b:Int):=by omega
   by_cases h3:b≤90
   ·have q3:(b:Int)≤90:=by omega
    have e:Lx.isL b=true:=by simp[Lx.isL];omega
    rw[e]
    go_wp2
    go_ret
    exact⟨rfl,rfl⟩
   ·have q3:¬(b:Int)≤90:=by omega
    by_cases h4:b=95
    ·subst h4
     have e:Lx.isL 95=true:=by decide
     rw[e]
     go_wp2
     go_ret
     exact⟨rfl,rfl⟩
    ·have q4:((b:Int)==95)=false:=by rw[beq_eq_false_iff_ne];omega
     have e:Lx.isL b=false:=by simp[Lx.isL];omega
     rw[e]
     go_wp2
     go_ret
     exact⟨rfl,rfl⟩
theorem isDigit_c (b:Nat) (w:World):Calls Tryz.prog 94 #[.int .u8 (b:Int)] w fun e w'=>e=.returned (.bool (Lx.isD b))∧w'=w:=by
 go_enter Tryz.func94,Tryz.ntmps94
 by_cases h:48≤b
 ·have q1:(48:Int)≤(b:Int):=by omega
  by_cases h3:b≤57
  ·have q3:(b:Int)≤57:=by omega
   have e:Lx.isD b=true:=by simp[Lx.isD];omega
   rw[e]
   go_wp2
   go_ret
   exact⟨rfl,rfl⟩
  ·have q3:¬(b:Int)≤57:=by omega
   have e:Lx.isD b=false:=by simp[Lx.isD];omega
   rw[e]
   go_wp2
   go_ret
   exact⟨rfl,rfl⟩
 ·have q1:¬(48:Int)≤(b:Int):=by omega
  have e:Lx.isD b=false:=by simp[Lx.isD];omega
  rw[e]
  go_wp2
  go_ret
  exact⟨rfl,rfl⟩
theorem wordSize_c (s:ByteArray) (hs:s.size≤maxLen) (w:World):Calls Tryz.prog 124 #[.string s] w fun e w'=>e=.returned (.int .i64 ((Lx.wsz s.data.toList:Nat):Int))∧w'=w:=by
 have HSZ:Hid (s.size≤9223372036854775807):=by show _≤_;unfold maxLen at hs;omega
 have CL:Hid (∀b:Nat,Calls Tryz.prog 91 #[.int .u8 (b:Int)] w fun e w'=>e=.returned (.bool (Lx.isL b))∧w'=w):=fun b=>isLetter_c b w
 have CD:Hid (∀b:Nat,Calls Tryz.prog 94 #[.int .u8 (b:Int)] w fun e w'=>e=.returned (.bool (Lx.isD b))∧w'=w):=fun b=>isDigit_c b w
 clear hs
 go_enter Tryz.func124,Tryz.ntmps124
 go_wp2
 go_loopw [3] (fun i wr=>∃j:Nat,j≤s.size∧i=.int .i64 (j:Int)∧wr=w∧∀k,k<j→∃b,s.data.toList[k]?=some b∧Lx.isW b=true) (fun i _=>s.size - (intOf i).toNat)
 case atStart=>exact⟨0,Nat.zero_le _,rfl,rfl,fun k hk=>by omega⟩
 case round =>
  obtain⟨j,hj,rfl,hwr,hin⟩:=hrel
  subst hwr
  have HIN:Hid (∀k,k<j→∃b,s.data.toList[k]?=some b∧Lx.isW b=true):=hin
  clear hin
  by_cases hlt:j<s.size
  ·have hj63:(j:Int)+1≤9223372036854775807:=by have:=HSZ.out;omega
   have hw1:wrap64 ((j:Int)+1)=(j:Int)+1:=by unfold wrap64;omega
   obtain⟨b,hb⟩:∃b,b=s.data.toList.getD j 0:=⟨_,rfl⟩
   have hix:∀wx,(Instr.index 9 (.string s) (.int .i64 (j:Int))).run Tryz.prog wx=.ok (.int .u8 (b.toNat:Int)) wx:=fun wx=>by rw[hb];exact Lx.index_byte s j (by omega) (by omega) wx
   have HB:Hid (s.data.toList[j]?=some b):=by
    have h3:j<s.data.toList.length:=by rw[←Lib.size_eq];exact hlt
    show _=_
    rw[hb,List.getD_eq_getElem?_getD,List.getElem?_eq_getElem h3];rfl
   clear hb
   have q0:(j:Int)<(s.size:Int):=by omega
   obtain⟨l1,hl1⟩:∃l1,l1=Lx.isL b.toNat:=⟨_,rfl⟩
   obtain⟨d1,hd1⟩:∃d1,d1=Lx.isD b.toNat:=⟨_,rfl⟩
   have HLD:Hid (l1=Lx.isL b.toNat∧d1=Lx.isD b.toNat):=⟨hl1,hd1⟩
   have C1:Hid (Calls Tryz.prog 91 #[.int .u8 (b.toNat:Int)] wr fun e w'=>e=.returned (.bool l1)∧w'=wr):=by rw[hl1];exact CL.out b.toNat
   have C2:Hid (Calls Tryz.prog 94 #[.int .u8 (b.toNat:Int)] wr fun e w'=>e=.returned (.bool d1)∧w'=wr):=by rw[hd1];exact CD.out b.toNat
   clear hl1 hd1
   go_wp2_with fail
   refine C1.out.mono ?_
   rintro e w' ⟨rfl,rfl⟩
   cases l1 with
   | true =>
    go_wp2
    go_roundw
    case rel=>exact⟨j+1,by omega,by go_num,trivial,fun k hk=>by
     rcases Nat.lt_or_ge k j with h | h
     ·exact HIN.out k h
     ·obtain rfl:k=j:=by omega
      exact⟨b,HB.out,by rw[Lx.isW,←HLD.out.1];rfl⟩⟩
    case measure=>simp[intOf];omega
   | false =>
    go_wp2_with fail
    refine C2.out.mono ?_
    rintro e w'' ⟨rfl,rfl⟩
    cases d1 with
    | true =>
     go_wp2
     go_roundw
     case rel=>exact⟨j+1,by omega,by go_num,trivial,fun k hk=>by
      rcases Nat.lt_or_ge k j with h | h
      ·exact HIN.out k h
      ·obtain rfl:k=j:=by omega
       exact⟨b,HB.out,by rw[Lx.isW,←HLD.out.1,←HLD.out.2];rfl⟩⟩
     case measure=>simp[intOf];omega
    | false =>
     have HF:Hid (Lx.wsz s.data.toList=j):=Lx.wsz_of _ j HIN.out (fun c hc=>by
      have h:=HB.out
      rw[hc] at h
      cases h
      rw[Lx.isW,←HLD.out.1,←HLD.out.2];rfl)
     go_wp2
     go_ret
     exact⟨by rw[HF.out];rfl,rfl⟩
  ·have q0:¬(j:Int)<(s.size:Int):=by omega
   have HF:Hid (Lx.wsz s.data.toList=j):=Lx.wsz_of _ j HIN.out (fun c hc=>by
    have:=(List.getElem?_eq_some_iff.1 hc).1
    rw[←Lib.size_eq] at this
    omega)
   go_wp2
   go_ret
   exact⟨by rw[HF.out];rfl,rfl⟩
end Go.Proofs.YtfhkaffakniioaaGreatDoor
