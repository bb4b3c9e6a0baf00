/- Several texts, joined. -/
import Derived.Test.YtfhkaffakniioaaGreatDoorQ01M
set_option maxHeartbeats 4000000
namespace Go.Proofs.YtfhkaffakniioaaGreatDoor
open Go.RowKit
structure GR (w W:World) (l:List UInt8) (j:Nat):Prop where
 below:Below w.heap.size w W
 cell:∀k b,l[k]?=some b→W.cell? ⟨w.heap.size,k,none⟩=some (.int .u8 (((if k<j then Lx.up b else b).toNat:Nat):Int))
 free:∀k,k<l.length→W.frozen? ⟨w.heap.size,k,none⟩=false
theorem bytesRow_at (s:ByteArray) (c k:Nat) (b:UInt8) (h:s.data.toList[k]?=some b):(bytesRow s c)[k]?=some (.int .u8 ((b.toNat:Nat):Int)):=by
 obtain⟨hk,e⟩:=List.getElem?_eq_some_iff.1 h
 have hk':k<s.data.size:=by simpa using hk
 have e':s.data[k]=b:=by simpa using e
 unfold bytesRow
 rw[Array.getElem?_append_left (by simpa using hk')]
 rw[Array.getElem?_map,Array.getElem?_eq_getElem hk',e']
 rfl
theorem bytesRow_size (s:ByteArray) (c:Nat):s.size≤(bytesRow s c).size:=by
 unfold bytesRow
 simp
theorem GR.start (w:World) (s:ByteArray) (c:Nat) (t:TypeId):GR w (w.drew.alloc (.cells (bytesRow s c) t ((bytesRow s c).size,(bytesRow s c).size+1))) s.data.toList 0:=by
 have hrow:(w.drew.alloc (.cells (bytesRow s c) t ((bytesRow s c).size,(bytesRow s c).size+1))).heap[w.heap.size]?=some (.cells (bytesRow s c) t ((bytesRow s c).size,(bytesRow s c).size+1)):=heap_alloc_new w.drew _
 refine⟨((Below.refl w.heap.size w).drew).alloc (Nat.le_refl _) _,fun k b hb=>?_,fun k hk=>?_⟩
 ·rw[if_neg (by omega),←bytesRow_at s c k b hb]
  exact cell_of_row _ _ _ _ _ _ hrow
 ·have:=bytesRow_size s c
  have hk2:k<s.size:=by rw[Lib.size_eq];exact hk
  simp only[World.frozen?,hrow]
  simp
  omega
theorem GR.set {w W:World} {l:List UInt8} {j:Nat} {b:UInt8} (h:GR w W l j) (hb:l[j]?=some b):GR w (W.setCell ⟨w.heap.size,j,none⟩ (.int .u8 (((Lx.up b).toNat:Nat):Int))) l (j+1):=by
 refine⟨h.below.setCell (Nat.le_refl _) _,fun k c hc=>?_,fun k hk=>(World.frozen?_setCell _ _ _ _).trans (h.free k hk)⟩
 by_cases e:k=j
 ·subst e
  rw[hb] at hc;cases hc
  rw[if_pos (by omega)]
  exact World.cell?_setCell_same _ _ _ (h.cell k b hb)
 ·rw[World.cell?_setCell_other _ _ _ _ (by intro q;cases q;exact e rfl),h.cell k c hc]
  by_cases h1:k<j
  ·rw[if_pos h1,if_pos (by omega)]
  ·rw[if_neg h1,if_neg (by omega)]
theorem GR.skip {w W:World} {l:List UInt8} {j:Nat} {b:UInt8} (h:GR w W l j) (hb:l[j]?=some b) (hu:Lx.up b=b):GR w W l (j+1):=by
 refine⟨h.below,fun k c hc=>?_,h.free⟩
 rw[h.cell k c hc]
 by_cases e:k=j
 ·subst e
  rw[hb] at hc;cases hc
  rw[if_neg (by omega),if_pos (by omega),hu]
 ·by_cases h1:k<j
  ·rw[if_pos h1,if_pos (by omega)]
  ·rw[if_neg h1,if_neg (by omega)]
theorem great_c (s:ByteArray) (hs:s.size≤16384) (w:World):Calls Tryz.prog 126 #[.string s] w fun e w'=>e=.returned (.string ⟨(Lx.great s.data.toList).toArray⟩)∧Below w.heap.size w w':=by
 obtain⟨c,hc⟩:∃c,c=grownCap w s.size 0 5:=⟨_,rfl⟩
 obtain⟨w1,hw1⟩:∃w1,w1=w.drew.alloc (.cells (bytesRow s c) 5 ((bytesRow s c).size,(bytesRow s c).size+1)):=⟨_,rfl⟩
 have hcv:(convert 9 71 (.string s)).run Tryz.prog w=.ok (.slice (some ⟨w.heap.size,0,none⟩) s.size c) w1:=by
  have h:=run_bytes_of_string (P:=Tryz.prog) w 9 71 5 s Tryz.underlying9 Tryz.underlying71 Tryz.underlying5
  rw[←hc,←hw1] at h
  exact h
 have G1:Hid (GR w w1 s.data.toList 0):=by rw[hw1];exact GR.start w s c 5
 clear hw1 hc
 go_enter Tryz.func126,Tryz.ntmps126
 go_wp2
 go_loopw [10] (fun i wr=>∃j:Nat,j≤s.size∧i=.int .i64 (j:Int)∧GR w wr s.data.toList j) (fun i _=>s.size - (intOf i).toNat)
 case atStart=>exact⟨0,Nat.zero_le _,rfl,G1.out⟩
 case round =>
  obtain⟨j,hj,rfl,hg⟩:=hrel
  have G:Hid (GR w wr s.data.toList j):=hg
  clear hg G1 hcv
  by_cases hlt:j<s.size
  ·have q0:(j:Int)<(s.size:Int):=by omega
   have hw1:wrap64 ((j:Int)+1)=(j:Int)+1:=by unfold wrap64;omega
   have hjl:j<s.data.toList.length:=by rw[←Lib.size_eq];exact hlt
   obtain⟨b,hb⟩:∃b,s.data.toList[j]?=some b:=⟨_,List.getElem?_eq_getElem hjl⟩
   have HB:Hid (s.data.toList[j]?=some b):=hb
   have p0:=G.out.cell j b hb
   rw[if_neg (Nat.lt_irrefl j)] at p0
   have fz:=G.out.free j hjl
   have hbl:b.toNat<256:=UInt8.toNat_lt _
   clear hb hjl
   by_cases h1:97≤b.toNat∧b.toNat≤122
   ·have q1:(97:Int)≤(b.toNat:Int):=by omega
    have q2:(b.toNat:Int)≤122:=by omega
    have HU:Hid ((Lx.up b).toNat=b.toNat - 32):=by
     show _=_
     rw[Lx.up,if_pos h1,UInt8.toNat_ofNat_of_lt']
     show b.toNat - 32<256
     omega
    obtain⟨u,hu⟩:∃u,u=(Lx.up b).toNat:=⟨_,rfl⟩
    have e1:IntKind.u8.wrap ((b.toNat:Int) - 97)=(b.toNat:Int) - 97:=by show((b.toNat:Int) - 97) % 256=_;omega
    have e2:IntKind.u8.wrap ((b.toNat:Int) - 97+65)=(u:Int):=by
     have:=HU.out
     show((b.toNat:Int) - 97+65) % 256=_
     omega
    have G2:Hid (GR w (wr.setCell ⟨w.heap.size,j,none⟩ (.int .u8 (u:Int))) s.data.toList (j+1)):=by rw[hu];exact G.out.set HB.out
    clear hu h1
    go_wp2
    go_roundw
    case rel=>exact⟨j+1,by omega,by go_num,G2.out⟩
    case measure=>simp[intOf];omega
   ·have HU:Hid (Lx.up b=b):=by show _=_;rw[Lx.up,if_neg h1]
    have G2:Hid (GR w wr s.data.toList (j+1)):=G.out.skip HB.out HU.out
    by_cases h2:97≤b.toNat
    ·have q1:(97:Int)≤(b.toNat:Int):=by omega
     have q2:¬(b.toNat:Int)≤122:=by omega
     clear h1 h2
     go_wp2
     go_roundw
     case rel=>exact⟨j+1,by omega,by go_num,G2.out⟩
     case measure=>simp[intOf];omega
    ·have q1:¬(97:Int)≤(b.toNat:Int):=by omega
     clear h1 h2
     go_wp2
     go_roundw
     case rel=>exact⟨j+1,by omega,by go_num,G2.out⟩
     case measure=>simp[intOf];omega
  ·have q0:¬(j:Int)<(s.size:Int):=by omega
   have hcb:(convert 71 9 (.slice (some ⟨w.heap.size,0,none⟩) s.size c)).run Tryz.prog wr=.ok (.string ⟨(Lx.great s.data.toList).toArray⟩) wr:=by
    have hl:(Lx.great s.data.toList).length=s.size:=by rw[Lx.great,List.length_map,←Lib.size_eq]
    have h:=run_convert_bytes_back (P:=Tryz.prog) wr 71 9 5 ⟨w.heap.size,0,none⟩ c (Lx.great s.data.toList) Tryz.underlying71 Tryz.underlying5 Tryz.underlying9 (fun k hk=>by
     have hk2:k<s.data.toList.length:=by simpa [Lx.great] using hk
     have h1:=G.out.cell k _ (List.getElem?_eq_getElem hk2)
     rw[←Lib.size_eq] at hk2
     rw[if_pos (by omega)] at h1
     rw[Go.WideShapes.add_plain,Nat.zero_add,h1]
     simp[Lx.great])
    rw[hl] at h
    exact h
   have HF:=G.out.below
   go_wp2
   go_ret
   exact⟨rfl,HF⟩
end Go.Proofs.YtfhkaffakniioaaGreatDoor
namespace Go.Proofs.YtfhkaffakniioaaGreatDoor
open Go.RowKit
theorem Lx.kws_contains (x:List UInt8):Lx.kws.contains x=((x==[65,76,76]) || (x==[65,78,68]) || (x==[65,83]) || (x==[66,89]) || (x==[67,82,69,65,84,69]) || (x==[68,69,76,69,84,69]) || (x==[68,69,83,67]) || (x==[70,65,76,83,69]) || (x==[70,82,79,77]) || (x==[72,73,83,84,79,82,89]) || (x==[73,78]) || (x==[73,78,68,69,88]) || (x==[73,78,83,69,82,84]) || (x==[73,78,84,79]) || (x==[73,83]) || (x==[78,79,84]) || (x==[78,85,76,76]) || (x==[79,78]) || (x==[79,82]) || (x==[79,82,68,69,82]) || (x==[83,69,76,69,67,84]) || (x==[83,69,84]) || (x==[84,65,66,76,69]) || (x==[84,82,85,69]) || (x==[85,80,68,65,84,69]) || (x==[87,72,69,82,69])):=by
 simp only[Lx.kws,List.contains_cons,List.contains_nil,Bool.or_false,Bool.or_assoc]
theorem Lx.key_long {s:List UInt8} (h:¬s.length≤7):Lx.isKey s=false:=by
 rw[Lx.isKey,decide_eq_false h];rfl
theorem keyword_c (s:ByteArray) (w:World):Calls Tryz.prog 125 #[.string s] w fun e w'=>e=.returned (.bool (Lx.isKey s.data.toList))∧Below w.heap.size w w':=by
 by_cases h7:s.size≤7
 ·obtain⟨G,hG⟩:∃G:ByteArray,G=⟨(Lx.great s.data.toList).toArray⟩:=⟨_,rfl⟩
  have CG:Hid (Calls Tryz.prog 126 #[.string s] w fun e w'=>e=.returned (.string G)∧Below w.heap.size w w'):=by rw[hG];exact great_c s (by omega) w
  have HKEY:Hid (Lx.isKey s.data.toList=((G.toList==[65,76,76]) || (G.toList==[65,78,68]) || (G.toList==[65,83]) || (G.toList==[66,89]) || (G.toList==[67,82,69,65,84,69]) || (G.toList==[68,69,76,69,84,69]) || (G.toList==[68,69,83,67]) || (G.toList==[70,65,76,83,69]) || (G.toList==[70,82,79,77]) || (G.toList==[72,73,83,84,79,82,89]) || (G.toList==[73,78]) || (G.toList==[73,78,68,69,88]) || (G.toList==[73,78,83,69,82,84]) || (G.toList==[73,78,84,79]) || (G.toList==[73,83]) || (G.toList==[78,79,84]) || (G.toList==[78,85,76,76]) || (G.toList==[79,78]) || (G.toList==[79,82]) || (G.toList==[79,82,68,69,82]) || (G.toList==[83,69,76,69,67,84]) || (G.toList==[83,69,84]) || (G.toList==[84,65,66,76,69]) || (G.toList==[84,82,85,69]) || (G.toList==[85,80,68,65,84,69]) || (G.toList==[87,72,69,82,69]))):=by
   show _=_
   rw[Lx.isKey,←Lib.size_eq,decide_eq_true h7,Bool.true_and,Lx.kws_contains,Go.ByteArray.toList_eq,hG]
  clear hG
  have q7:¬(7:Int)<(s.size:Int):=by omega
  go_enter Tryz.func125,Tryz.ntmps125
  go_wp2_with fail
  refine CG.out.mono ?_
  rintro e w1 ⟨rfl,hb1⟩
  have HB1:Hid (Below w.heap.size w w1):=hb1
  clear hb1 CG h7 q7
  go_wp2_with fail
  all_goals first
   |(exfalso;clear HKEY;simp_all;done)
   |(go_ret;exact⟨by rw[HKEY.out];simp[*],HB1.out⟩)
 ·have q7:(7:Int)<(s.size:Int):=by omega
  have HK:Hid (Lx.isKey s.data.toList=false):=Lx.key_long (by rw[←Lib.size_eq];exact h7)
  go_enter Tryz.func125,Tryz.ntmps125
  go_wp2
  go_ret
  exact⟨by rw[HK.out];rfl,Below.refl _ _⟩
end Go.Proofs.YtfhkaffakniioaaGreatDoor
namespace Go.Proofs.YtfhkaffakniioaaGreatDoor
open Go.RowKit
namespace Lx
def bs (l:Bs):ByteArray:=⟨l.toArray⟩
theorem bs_size (l:Bs):(bs l).size=l.length:=by simp[bs,ByteArray.size]
theorem bs_data (l:Bs):(bs l).data.toList=l:=by simp[bs]
theorem bs_toList (l:Bs):(bs l).toList=l:=by rw[Go.ByteArray.toList_eq,bs_data]
theorem bs_of (s:ByteArray):bs s.data.toList=s:=by cases s;simp[bs]
theorem extract_to (l:Bs) (k:Nat):(bs l).extract 0 k=bs (l.take k):=by
 apply ByteArray.ext
 rw[ByteArray.data_extract]
 simp[bs]
theorem extract_from (l:Bs) (k n:Nat) (hn:n=l.length):(bs l).extract k n=bs (l.drop k):=by
 apply ByteArray.ext
 subst hn
 rw[ByteArray.data_extract]
 simp[bs]
 exact List.take_of_length_le (by rw[List.length_drop];exact Nat.le_refl _)
theorem slice_to (l:Bs) (j:Int) (k:Nat) (hj:j=(k:Int)) (hk:k≤l.length) (wx:World) :
  (Instr.slice 9 (.string (bs l)) none (some (.int .i64 j)) none).run Tryz.prog wx=.ok (.string (bs (l.take k))) wx:=by
 subst hj
 rw[run_slice_string_to_if (P:=Tryz.prog) wx 9 (bs l) .i64 k Tryz.underlying9,if_pos ⟨by omega,by rw[bs_size];omega⟩,Int.toNat_natCast,extract_to]
theorem slice_from (l:Bs) (j:Int) (k:Nat) (hj:j=(k:Int)) (hk:k≤l.length) (wx:World) :
  (Instr.slice 9 (.string (bs l)) (some (.int .i64 j)) none none).run Tryz.prog wx=.ok (.string (bs (l.drop k))) wx:=by
 subst hj
 rw[run_slice_string_from_if (P:=Tryz.prog) wx 9 (bs l) .i64 k Tryz.underlying9,if_pos ⟨by omega,by rw[bs_size];omega⟩,Int.toNat_natCast,bs_size,extract_from _ _ _ rfl]
theorem index_at (l:Bs) (j:Int) (k:Nat) (b:UInt8) (hj:j=(k:Int)) (hb:l[k]?=some b) (wx:World) :
  (Instr.index 9 (.string (bs l)) (.int .i64 j)).run Tryz.prog wx=.ok (.int .u8 ((b.toNat:Nat):Int)) wx:=by
 subst hj
 obtain⟨hk,e⟩:=List.getElem?_eq_some_iff.1 hb
 rw[index_byte (bs l) k (by omega) (by rw[bs_size];omega) wx,bs_data,Int.toNat_natCast,List.getD_eq_getElem?_getD,hb]
 rfl
theorem index_has:∀(l:Bs) (c:UInt8),-1≤Lib.indexByte l c∧decide (0≤Lib.indexByte l c)=l.contains c
 | [],c=>⟨Int.le_refl (-1),rfl⟩
 | b :: l,c=>by
  have ih:=index_has l c
  rw[Lib.indexByte,List.contains_cons,←ih.2]
  by_cases h:b==c
  ·rw[if_pos h]
   have h':(c==b)=true:=by rw[beq_iff_eq] at h ⊢;exact h.symm
   rw[h']
   exact⟨by decide,rfl⟩
  ·rw[if_neg h]
   have h':(c==b)=false:=by
    rw[beq_eq_false_iff_ne]
    intro e;exact h (by rw[e];exact beq_self_eq_true _)
   rw[h',Bool.false_or]
   by_cases h2:Lib.indexByte l c==-1
   ·rw[if_pos h2]
    rw[beq_iff_eq] at h2
    rw[h2]
    exact⟨by decide,rfl⟩
   ·rw[if_neg h2]
    rw[beq_iff_eq] at h2
    have h3:=ih.1
    refine⟨by omega,?_⟩
    rw[decide_eq_true (by omega:0≤Lib.indexByte l c+1),decide_eq_true (by omega:0≤Lib.indexByte l c)]
def pre2 (a b:UInt8):Bs→Bool
 | x :: y :: _=>x==a && y==b
 | _=>false
end Lx
theorem sclone_c (s:ByteArray) (hs:s.size≤140737488351232) (w:World):Calls Tryz.prog 26 #[.string s] w fun e w'=>e=.returned (.string s)∧Below w.heap.size w w':=by
 go_enter Tryz.func26,Tryz.ntmps26
 go_wp2_with (go_at_call 51;refine(Tryz.stringslite_Clone s _ (by omega)).mono ?_;rintro e w' ⟨rfl,hb⟩)
 go_ret
 exact⟨rfl,hb⟩
theorem litePrefix_c (l:Lx.Bs) (a b:UInt8) (w:World):Calls Tryz.prog 157 #[.string (Lx.bs l),.string ⟨#[a,b]⟩] w fun e w'=>e=.returned (.bool (Lx.pre2 a b l))∧w'=w:=by
 have hsz:((Lx.bs l).size:Int)=(l.length:Int):=by rw[Lx.bs_size]
 have hp2:((⟨#[a,b]⟩:ByteArray).size:Int)=2:=rfl
 go_enter Tryz.func157,Tryz.ntmps157
 match l,hsz with
 | [],hsz =>
  have q:¬(2:Int)≤((Lx.bs []).size:Int):=by rw[hsz];decide
  go_wp2
  go_ret
  exact⟨rfl,rfl⟩
 | [x],hsz =>
  have q:¬(2:Int)≤((Lx.bs [x]).size:Int):=by rw[hsz];simp
  go_wp2
  go_ret
  exact⟨rfl,rfl⟩
 | x :: y :: r,hsz =>
  have q:(2:Int)≤((Lx.bs (x :: y :: r)).size:Int):=by rw[hsz];simp;omega
  have hsl:=fun wx=>Lx.slice_to (x :: y :: r) 2 2 rfl (by simp) wx
  simp only[List.take_succ_cons,List.take_zero] at hsl
  have hL:(Lx.bs [x,y]).toList=[x,y]:=Lx.bs_toList _
  go_wp2
  go_ret
  exact⟨rfl,rfl⟩
theorem hasPrefix_c (l:Lx.Bs) (a b:UInt8) (w:World):Calls Tryz.prog 130 #[.string (Lx.bs l),.string ⟨#[a,b]⟩] w fun e w'=>e=.returned (.bool (Lx.pre2 a b l))∧w'=w:=by
 go_enter Tryz.func130,Tryz.ntmps130
 go_wp2_with (go_at_call 157;refine(litePrefix_c l a b _).mono ?_;rintro e w' ⟨rfl,rfl⟩)
 go_ret
 exact⟨rfl,rfl⟩
namespace Lx
def signs:Bs:=[61,60,62,43,45,42,40,41,91,93,123,125,44,58,46]
def sgn:Bs→Nat
 | []=>0
 | x :: r=>if pre2 60 62 (x :: r) || pre2 60 61 (x :: r) || pre2 62 61 (x :: r) then 2 else if signs.contains x then 1 else 0
end Lx
theorem signSize_c (x:UInt8) (r:Lx.Bs) (w:World):Calls Tryz.prog 99 #[.string (Lx.bs (x :: r))] w fun e w'=>e=.returned (.int .i64 ((Lx.sgn (x :: r):Nat):Int))∧w'=w:=by
 have CP:Hid (∀(a b:UInt8) (W:World),Calls Tryz.prog 130 #[.string (Lx.bs (x :: r)),.string ⟨#[a,b]⟩] W fun e w'=>e=.returned (.bool (Lx.pre2 a b (x :: r)))∧w'=W):=fun a b W=>hasPrefix_c (x :: r) a b W
 obtain⟨l,hl⟩:∃l,l=Lx.bs (x :: r):=⟨_,rfl⟩
 obtain⟨y,hy⟩:∃y:ByteArray,y=⟨#[x]⟩:=⟨_,rfl⟩
 have hsl:∀wx,(Instr.slice 9 (.string l) none (some (.int .i64 1)) none).run Tryz.prog wx=.ok (.string y) wx:=fun wx=>by
  rw[hl,hy];exact Lx.slice_to (x :: r) 1 1 rfl (by simp) wx
 obtain⟨c,hc⟩:∃c,c=Lx.signs.contains x:=⟨_,rfl⟩
 have CC:Hid (∀W:World,Calls Tryz.prog 131 #[.string { data:=#[61,60,62,43,45,42,40,41,91,93,123,125,44,58,46] },.string y] W fun e w'=>e=.returned (.bool c)∧w'=W):=fun W=>by
  have h:=Tryz.strings_Contains_one { data:=#[61,60,62,43,45,42,40,41,91,93,123,125,44,58,46] } x W
  rw[hy]
  refine h.mono ?_
  rintro e w' ⟨rfl,rfl⟩
  refine⟨?_,rfl⟩
  rw[hc]
  rw[(Lx.index_has _ x).2]
  rfl
 obtain⟨p1,h1⟩:∃p1,p1=Lx.pre2 60 62 (x :: r):=⟨_,rfl⟩
 obtain⟨p2,h2⟩:∃p2,p2=Lx.pre2 60 61 (x :: r):=⟨_,rfl⟩
 obtain⟨p3,h3⟩:∃p3,p3=Lx.pre2 62 61 (x :: r):=⟨_,rfl⟩
 have C1:Hid (∀W:World,Calls Tryz.prog 130 #[.string l,.string ⟨#[60,62]⟩] W fun e w'=>e=.returned (.bool p1)∧w'=W):=fun W=>by rw[h1,hl];exact CP.out 60 62 W
 have C2:Hid (∀W:World,Calls Tryz.prog 130 #[.string l,.string ⟨#[60,61]⟩] W fun e w'=>e=.returned (.bool p2)∧w'=W):=fun W=>by rw[h2,hl];exact CP.out 60 61 W
 have C3:Hid (∀W:World,Calls Tryz.prog 130 #[.string l,.string ⟨#[62,61]⟩] W fun e w'=>e=.returned (.bool p3)∧w'=W):=fun W=>by rw[h3,hl];exact CP.out 62 61 W
 have HR:Hid (Lx.sgn (x :: r)=if p1 || p2 || p3 then 2 else if c then 1 else 0):=by show _=_;rw[Lx.sgn,h1,h2,h3,hc]
 rw[←hl]
 clear CP hl hy hc h1 h2 h3
 go_enter Tryz.func99,Tryz.ntmps99
 go_wp2_with fail
 refine(C1.out _).mono ?_
 rintro e w1 ⟨rfl,rfl⟩
 cases p1 with
 | true =>
  go_wp2
  go_ret
  exact⟨by rw[HR.out];rfl,rfl⟩
 | false =>
  go_wp2_with fail
  refine(C2.out _).mono ?_
  rintro e w2 ⟨rfl,rfl⟩
  cases p2 with
  | true =>
   go_wp2
   go_ret
   exact⟨by rw[HR.out];rfl,rfl⟩
  | false =>
   go_wp2_with fail
   refine(C3.out _).mono ?_
   rintro e w3 ⟨rfl,rfl⟩
   cases p3 with
   | true =>
    go_wp2
    go_ret
    exact⟨by rw[HR.out];rfl,rfl⟩
   | false =>
    go_wp2_with fail
    refine(CC.out _).mono ?_
    rintro e w4 ⟨rfl,rfl⟩
    cases c with
    | true =>
     go_wp2
     go_ret
     exact⟨by rw[HR.out];rfl,rfl⟩
    | false =>
     go_wp2
     go_ret
     exact⟨by rw[HR.out];rfl,rfl⟩
end Go.Proofs.YtfhkaffakniioaaGreatDoor
