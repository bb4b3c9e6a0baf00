/- Several texts, joined. -/
import Derived.Test.YtfhkaffakniioaaGreatDoorQ02M
import Derived.Test.YtfhkaffakniioaaGreatDoorQ03M
import Derived.Test.YtfhkaffakniioaaGreatDoorQ50M
import Derived.Deep.RegionHeld3
set_option maxHeartbeats 8000000
set_option maxRecDepth 100000
namespace Go.Proofs.YtfhkaffakniioaaGreatDoor
open Go.RowKit
theorem zcE (b:Nat) (w:World):Calls Tryz.prog 150 #[.int .u8 (b:Int)] w fun e w'=>e=.returned (.bool (Lx.isL b))∧w'=w:=by
 go_enter Tryz.func150,Tryz.ntmps150
 rcases Nat.lt_or_ge b 65 with h | h
 ·have e:Lx.isL b=false:=by simp[Lx.isL];omega
  rw[e]
  have q1:¬(97:Int)≤(b:Int):=by omega
  have q2:¬(65:Int)≤(b:Int):=by omega
  have q3:((b:Int)==95)=false:=by rw[beq_eq_false_iff_ne];omega
  go_wp2
  go_ret
  exact⟨rfl,rfl⟩
 ·have q2:(65:Int)≤(b:Int):=by omega
  by_cases h1:97≤b
  ·have q1:(97:Int)≤(b:Int):=by omega
   by_cases h3:b≤122
   ·have q3:(b:Int)≤122:=by omega
    have e:Lx.isL b=true:=by simp[Lx.isL];omega
    rw[e]
    go_wp2
    go_ret
    exact⟨rfl,rfl⟩
   ·have q3:¬(b:Int)≤122:=by omega
    have q4:¬(b:Int)≤90:=by omega
    have q5:((b:Int)==95)=false:=by rw[beq_eq_false_iff_ne];omega
    have e:Lx.isL b=false:=by simp[Lx.isL];omega
    rw[e]
    go_wp2
    go_ret
    exact⟨rfl,rfl⟩
  ·have q1:¬(97:Int)≤(b:Int):=by omega
   by_cases h3:b≤90
   ·have q3:(b:Int)≤90:=by omega
    have e:Lx.isL b=true:=by simp[Lx.isL];omega
    rw[e]
    go_wp2
    go_ret
    exact⟨rfl,rfl⟩
   ·have q3:¬(b:Int)≤90:=by omega
    by_cases h4:b=95
    ·subst h4
     have e:Lx.isL 95=true:=by decide
     rw[e]
     go_wp2
     go_ret
     exact⟨rfl,rfl⟩
    ·have q4:((b:Int)==95)=false:=by rw[beq_eq_false_iff_ne];omega
     have e:Lx.isL b=false:=by simp[Lx.isL];omega
     rw[e]
     go_wp2
     go_ret
     exact⟨rfl,rfl⟩
theorem zdK (b:Nat) (w:World):Calls Tryz.prog 151 #[.int .u8 (b:Int)] w fun e w'=>e=.returned (.bool (Lx.isD b))∧w'=w:=by
 go_enter Tryz.func151,Tryz.ntmps151
 by_cases h:48≤b
 ·have q1:(48:Int)≤(b:Int):=by omega
  by_cases h3:b≤57
  ·have q3:(b:Int)≤57:=by omega
   have e:Lx.isD b=true:=by simp[Lx.isD];omega
   rw[e]
   go_wp2
   go_ret
   exact⟨rfl,rfl⟩
  ·have q3:¬(b:Int)≤57:=by omega
   have e:Lx.isD b=false:=by simp[Lx.isD];omega
   rw[e]
   go_wp2
   go_ret
   exact⟨rfl,rfl⟩
 ·have q1:¬(48:Int)≤(b:Int):=by omega
  have e:Lx.isD b=false:=by simp[Lx.isD];omega
  rw[e]
  go_wp2
  go_ret
  exact⟨rfl,rfl⟩
namespace Lx
def isB (b:Nat):Bool:=decide (b=32) || decide (b=9) || decide (b=10) || decide (b=13)
theorem isKey_of (s:Bs):isKey s=kws.contains (great s):=by
 rw[isKey]
 by_cases h:s.length≤7
 ·rw[decide_eq_true h,Bool.true_and]
 ·rw[decide_eq_false h,Bool.false_and]
  symm
  rw[Bool.eq_false_iff]
  intro h2
  have h3:great s∈kws:=by simpa using h2
  have h4:∀k∈kws,k.length≤7:=by decide
  have h5:=h4 _ h3
  rw[great,List.length_map] at h5
  exact h h5
end Lx
theorem rblank_c (b:Nat) (w:World):Calls Tryz.prog 122 #[.int .u8 (b:Int)] w fun e w'=>e=.returned (.bool (Lx.isB b))∧w'=w:=by
 go_enter Tryz.func122,Tryz.ntmps122
 by_cases h1:b=32
 ·subst h1
  go_wp2
  go_ret
  exact⟨rfl,rfl⟩
 ·have q1:((b:Int)==32)=false:=by rw[beq_eq_false_iff_ne];omega
  by_cases h2:b=9
  ·subst h2
   go_wp2
   go_ret
   exact⟨rfl,rfl⟩
  ·have q2:((b:Int)==9)=false:=by rw[beq_eq_false_iff_ne];omega
   by_cases h3:b=10
   ·subst h3
    go_wp2
    go_ret
    exact⟨rfl,rfl⟩
   ·have q3:((b:Int)==10)=false:=by rw[beq_eq_false_iff_ne];omega
    by_cases h4:b=13
    ·subst h4
     go_wp2
     go_ret
     exact⟨rfl,rfl⟩
    ·have q4:((b:Int)==13)=false:=by rw[beq_eq_false_iff_ne];omega
     have e:Lx.isB b=false:=by simp[Lx.isB];omega
     rw[e]
     go_wp2
     go_ret
     exact⟨rfl,rfl⟩
theorem rgreat_c (s:ByteArray) (hs:s.size≤140737488351232) (w:World):Calls Tryz.prog 181 #[.string s] w fun e w'=>e=.returned (.string ⟨(Lx.great s.data.toList).toArray⟩)∧Below w.heap.size w w':=by
 obtain⟨c,hc⟩:∃c,c=grownCap w s.size 0 5:=⟨_,rfl⟩
 obtain⟨w1,hw1⟩:∃w1,w1=w.drew.alloc (.cells (bytesRow s c) 5 ((bytesRow s c).size,(bytesRow s c).size+1)):=⟨_,rfl⟩
 have hcv:(convert 9 71 (.string s)).run Tryz.prog w=.ok (.slice (some ⟨w.heap.size,0,none⟩) s.size c) w1:=by
  have h:=run_bytes_of_string (P:=Tryz.prog) w 9 71 5 s Tryz.underlying9 Tryz.underlying71 Tryz.underlying5
  rw[←hc,←hw1] at h
  exact h
 have G1:Hid (GR w w1 s.data.toList 0):=by rw[hw1];exact GR.start w s c 5
 clear hw1 hc
 go_enter Tryz.func181,Tryz.ntmps181
 go_wp2
 go_loopw [9] (fun i wr=>∃j:Nat,j≤s.size∧i=.int .i64 (j:Int)∧GR w wr s.data.toList j) (fun i _=>s.size - (intOf i).toNat)
 case atStart=>exact⟨0,Nat.zero_le _,rfl,G1.out⟩
 case round =>
  obtain⟨j,hj,rfl,hg⟩:=hrel
  have G:Hid (GR w wr s.data.toList j):=hg
  clear hg G1 hcv
  by_cases hlt:j<s.size
  ·have q0:(j:Int)<(s.size:Int):=by omega
   have hw1:wrap64 ((j:Int)+1)=(j:Int)+1:=by unfold wrap64;omega
   have hjl:j<s.data.toList.length:=by rw[←Lib.size_eq];exact hlt
   obtain⟨b,hb⟩:∃b,s.data.toList[j]?=some b:=⟨_,List.getElem?_eq_getElem hjl⟩
   have HB:Hid (s.data.toList[j]?=some b):=hb
   have p0:=G.out.cell j b hb
   rw[if_neg (Nat.lt_irrefl j)] at p0
   have fz:=G.out.free j hjl
   have hbl:b.toNat<256:=UInt8.toNat_lt _
   clear hb hjl
   by_cases h1:97≤b.toNat∧b.toNat≤122
   ·have q1:(97:Int)≤(b.toNat:Int):=by omega
    have q2:(b.toNat:Int)≤122:=by omega
    have HU:Hid ((Lx.up b).toNat=b.toNat - 32):=by
     show _=_
     rw[Lx.up,if_pos h1,UInt8.toNat_ofNat_of_lt']
     show b.toNat - 32<256
     omega
    obtain⟨u,hu⟩:∃u,u=(Lx.up b).toNat:=⟨_,rfl⟩
    have e2:IntKind.u8.wrap ((b.toNat:Int) - 32)=(u:Int):=by
     have:=HU.out
     show((b.toNat:Int) - 32) % 256=_
     omega
    have G2:Hid (GR w (wr.setCell ⟨w.heap.size,j,none⟩ (.int .u8 (u:Int))) s.data.toList (j+1)):=by rw[hu];exact G.out.set HB.out
    clear hu h1
    go_wp2
    go_roundw
    case rel=>exact⟨j+1,by omega,by go_num,G2.out⟩
    case measure=>simp[intOf];omega
   ·have HU:Hid (Lx.up b=b):=by show _=_;rw[Lx.up,if_neg h1]
    have G2:Hid (GR w wr s.data.toList (j+1)):=G.out.skip HB.out HU.out
    by_cases h2:97≤b.toNat
    ·have q1:(97:Int)≤(b.toNat:Int):=by omega
     have q2:¬(b.toNat:Int)≤122:=by omega
     clear h1 h2
     go_wp2
     go_roundw
     case rel=>exact⟨j+1,by omega,by go_num,G2.out⟩
     case measure=>simp[intOf];omega
    ·have q1:¬(97:Int)≤(b.toNat:Int):=by omega
     clear h1 h2
     go_wp2
     go_roundw
     case rel=>exact⟨j+1,by omega,by go_num,G2.out⟩
     case measure=>simp[intOf];omega
  ·have q0:¬(j:Int)<(s.size:Int):=by omega
   have hcb:(convert 71 9 (.slice (some ⟨w.heap.size,0,none⟩) s.size c)).run Tryz.prog wr=.ok (.string ⟨(Lx.great s.data.toList).toArray⟩) wr:=by
    have hl:(Lx.great s.data.toList).length=s.size:=by rw[Lx.great,List.length_map,←Lib.size_eq]
    have h:=run_convert_bytes_back (P:=Tryz.prog) wr 71 9 5 ⟨w.heap.size,0,none⟩ c (Lx.great s.data.toList) Tryz.underlying71 Tryz.underlying5 Tryz.underlying9 (fun k hk=>by
     have hk2:k<s.data.toList.length:=by simpa [Lx.great] using hk
     have h1:=G.out.cell k _ (List.getElem?_eq_getElem hk2)
     rw[←Lib.size_eq] at hk2
     rw[if_pos (by omega)] at h1
     rw[Go.WideShapes.add_plain,Nat.zero_add,h1]
     simp[Lx.great])
    rw[hl] at h
    exact h
   have HF:=G.out.below
   go_wp2
   go_ret
   exact⟨rfl,HF⟩
def KW (w W:World):Prop:=Below w.heap.size w W∧∀(j:Nat) (k:List UInt8),Lx.kws[j]?=some k→W.cell? ⟨w.heap.size,j,none⟩=some (.string ⟨k.toArray⟩)
theorem KW.call {w W W':World} (h:KW w W) (hb:Below W.heap.size W W'):KW w W':=by
 refine⟨h.1.trans (hb.mono h.1.size),fun j k hk=>?_⟩
 have h1:=h.2 j k hk
 exact(hb.cell (p:=⟨w.heap.size,j,none⟩) (Lx.lt_of_cell h1)).trans h1
theorem KW.start (w:World) (t:TypeId):KW w (w.alloc (.cells #[.string { data:=#[65,76,76] },.string { data:=#[65,78,68] },.string { data:=#[65,83] },.string { data:=#[66,89] },.string { data:=#[67,82,69,65,84,69] },.string { data:=#[68,69,76,69,84,69] },.string { data:=#[68,69,83,67] },.string { data:=#[70,65,76,83,69] },.string { data:=#[70,82,79,77] },.string { data:=#[72,73,83,84,79,82,89] },.string { data:=#[73,78] },.string { data:=#[73,78,68,69,88] },.string { data:=#[73,78,83,69,82,84] },.string { data:=#[73,78,84,79] },.string { data:=#[73,83] },.string { data:=#[78,79,84] },.string { data:=#[78,85,76,76] },.string { data:=#[79,78] },.string { data:=#[79,82] },.string { data:=#[79,82,68,69,82] },.string { data:=#[83,69,76,69,67,84] },.string { data:=#[83,69,84] },.string { data:=#[84,65,66,76,69] },.string { data:=#[84,82,85,69] },.string { data:=#[85,80,68,65,84,69] },.string { data:=#[87,72,69,82,69] }] t)):=by
 refine⟨(Below.refl _ _).alloc (Nat.le_refl _) _,fun j k hk=>?_⟩
 rw[cell_of_row _ _ _ _ _ _ (heap_alloc_new w _)]
 have e:(#[.string { data:=#[65,76,76] },.string { data:=#[65,78,68] },.string { data:=#[65,83] },.string { data:=#[66,89] },.string { data:=#[67,82,69,65,84,69] },.string { data:=#[68,69,76,69,84,69] },.string { data:=#[68,69,83,67] },.string { data:=#[70,65,76,83,69] },.string { data:=#[70,82,79,77] },.string { data:=#[72,73,83,84,79,82,89] },.string { data:=#[73,78] },.string { data:=#[73,78,68,69,88] },.string { data:=#[73,78,83,69,82,84] },.string { data:=#[73,78,84,79] },.string { data:=#[73,83] },.string { data:=#[78,79,84] },.string { data:=#[78,85,76,76] },.string { data:=#[79,78] },.string { data:=#[79,82] },.string { data:=#[79,82,68,69,82] },.string { data:=#[83,69,76,69,67,84] },.string { data:=#[83,69,84] },.string { data:=#[84,65,66,76,69] },.string { data:=#[84,82,85,69] },.string { data:=#[85,80,68,65,84,69] },.string { data:=#[87,72,69,82,69] }]:Array Value)=(Lx.kws.map fun k=>Value.string ⟨k.toArray⟩).toArray:=rfl
 rw[e]
 simp[hk]
theorem rkeyword_c (s:ByteArray) (hs:s.size≤140737488351232) (w:World):Calls Tryz.prog 180 #[.string s] w fun e w'=>e=.returned (.bool (Lx.isKey s.data.toList))∧Below w.heap.size w w':=by
 obtain⟨G,hG⟩:∃G:ByteArray,G=⟨(Lx.great s.data.toList).toArray⟩:=⟨_,rfl⟩
 have CG:Hid (∀W,Calls Tryz.prog 181 #[.string s] W fun e w'=>e=.returned (.string G)∧Below W.heap.size W w'):=fun W=>by rw[hG];exact rgreat_c s hs W
 have HKEY:Hid (Lx.isKey s.data.toList=Lx.kws.contains G.toList):=by
  show _=_
  rw[Lx.isKey_of,hG,Go.ByteArray.toList_eq]
 clear hG
 obtain⟨w1,hw1⟩:∃w1,w1=w.alloc (.cells #[.string { data:=#[65,76,76] },.string { data:=#[65,78,68] },.string { data:=#[65,83] },.string { data:=#[66,89] },.string { data:=#[67,82,69,65,84,69] },.string { data:=#[68,69,76,69,84,69] },.string { data:=#[68,69,83,67] },.string { data:=#[70,65,76,83,69] },.string { data:=#[70,82,79,77] },.string { data:=#[72,73,83,84,79,82,89] },.string { data:=#[73,78] },.string { data:=#[73,78,68,69,88] },.string { data:=#[73,78,83,69,82,84] },.string { data:=#[73,78,84,79] },.string { data:=#[73,83] },.string { data:=#[78,79,84] },.string { data:=#[78,85,76,76] },.string { data:=#[79,78] },.string { data:=#[79,82] },.string { data:=#[79,82,68,69,82] },.string { data:=#[83,69,76,69,67,84] },.string { data:=#[83,69,84] },.string { data:=#[84,65,66,76,69] },.string { data:=#[84,82,85,69] },.string { data:=#[85,80,68,65,84,69] },.string { data:=#[87,72,69,82,69] }] 9):=⟨_,rfl⟩
 have K1:Hid (KW w w1):=by rw[hw1];exact KW.start w 9
 clear hs
 go_enter Tryz.func180,Tryz.ntmps180
 go_upto_region 2 with fail
 rw[←hw1]
 clear hw1
 go_loopw [7] (fun i wr=>∃j:Nat,j≤26∧i=.int .i64 (j:Int)∧KW w wr∧∀x∈Lx.kws.take j,x≠G.toList) (fun i _=>26 - (intOf i).toNat)
 case atStart=>exact⟨0,Nat.zero_le _,rfl,K1.out,fun x hx=>by simp at hx⟩
 case round =>
  obtain⟨j,hj,rfl,hK,hno⟩:=hrel
  have K:Hid (KW w wr):=hK
  have HNO:Hid (∀x∈Lx.kws.take j,x≠G.toList):=hno
  clear hK hno K1
  by_cases hlt:j<26
  ·have q0:(j:Int)<26:=by omega
   obtain⟨k,hk⟩:∃k,Lx.kws[j]?=some k:=⟨_,List.getElem?_eq_getElem (show j<Lx.kws.length from hlt)⟩
   have p0:=K.out.2 j k hk
   obtain⟨kb,hkb⟩:∃kb:ByteArray,kb=⟨k.toArray⟩:=⟨_,rfl⟩
   rw[←hkb] at p0
   have HKB:Hid (kb.toList=k∧Lx.kws[j]?=some k):=⟨by rw[hkb,Go.ByteArray.toList_eq],hk⟩
   clear hkb hk
   go_wp2_with fail
   refine Calls.mono (CG.out _) ?_
   rintro e w2 ⟨rfl,hb2⟩
   have K2:Hid (KW w w2):=K.out.call hb2
   clear hb2
   by_cases he:kb.toList=G.toList
   ·have q1:(kb.toList==G.toList)=true:=by rw[he];simp
    have HF:Hid (Lx.isKey s.data.toList=true):=by
     show _=_
     rw[HKEY.out]
     have:=List.mem_of_getElem? HKB.out.2
     rw[←he,HKB.out.1]
     simpa using this
    have HB:=K2.out.1
    clear he
    go_wp2
    go_ret
    exact⟨by rw[HF.out];rfl,HB⟩
   ·have q1:(kb.toList==G.toList)=false:=by simpa using he
    have HN:Hid (∀x∈Lx.kws.take (j+1),x≠G.toList):=fun x hx=>by
     rw[List.take_add_one,HKB.out.2] at hx
     rcases List.mem_append.1 hx with h | h
     ·exact HNO.out x h
     ·simp at h
      subst h
      rw[HKB.out.1] at he
      exact he
    clear he
    go_wp2
    go_roundw
    case rel=>exact⟨j+1,by omega,by go_num,K2.out,HN.out⟩
    case measure=>simp[intOf];omega
  ·have q0:¬(j:Int)<26:=by omega
   have HF:Hid (Lx.isKey s.data.toList=false):=by
    show _=_
    rw[HKEY.out,Bool.eq_false_iff]
    intro h
    have h1:G.toList∈Lx.kws:=by simpa using h
    refine HNO.out _ ?_ rfl
    rw[List.take_of_length_le (show Lx.kws.length≤j by show 26≤j;omega)]
    exact h1
   have HB:=K.out.1
   go_wp2
   go_ret
   exact⟨by rw[HF.out];rfl,HB⟩
end Go.Proofs.YtfhkaffakniioaaGreatDoor
namespace Go.Proofs.YtfhkaffakniioaaGreatDoor
open Go.RowKit
theorem zcL {P:Program} {fn:Func} {p u:Tmp} {ty:TypeId} (h:fn.results=#[.cell p ty,.tmp u]) (tmps:Array Value) (w:World) (g:Nat) (t:TypeId) (cs:Array Value) (fr:Nat × Nat) (d:TypeDesc)
  (hp:tmps.getD p undef=.pointer (some ⟨g,0,none⟩)) (hg:w.heap[g]?=some (.cells cs t fr))
  (hu:P.underlying ty=some d) (hd:(match d with | .struct _ | .array _ _=>true | _=>false)=true) (hi:(P.info? ty).map (·.size)=some cs.size) :
  (results fn tmps).run P w=.ok (.tuple #[.agg cs,tmps.getD u undef]) w:=by
 have h1:(results fn tmps).run P w=((asAddr (tmps.getD p undef)).run P w).andThen fun a w₁=>((loadVar ty a).run P w₁).andThen fun x w₂=>.ok (.tuple #[x,tmps.getD u undef]) w₂:=by
  simp only[results,h]
  simp[Sem.run_bind,Result.andThen]
 rw[h1,hp]
 simp[asAddr,run_loadVar_row w g t ty cs fr d hg hu hd hi]
theorem tok_end1 {fn:Func} {p v:Tmp} {w W:World} {tmps:Array Value} {k:Nat} {t:Lx.Bs} {n:Int} {b:Bool} (hr:fn.results=#[.cell p 92,.tmp v]) (h:T4 w W) (hp:tmps.getD p undef=.pointer (some ⟨w.heap.size,0,none⟩)) (hv:tmps.getD v undef=.bool b) :
  bodyPost Tryz.prog fn (fun e w'=>e=.returned (.tuple #[.agg (Lx.tc k t n 0),.bool b])∧Below w.heap.size w w') .ret ⟨tmps,[]⟩ ((((W.setCell ⟨w.heap.size,0,none⟩ (.int .u8 (k:Int))).setCell ⟨w.heap.size,1,none⟩ (.string (Lx.bs t))).setCell ⟨w.heap.size,2,none⟩ (.int .i64 n)).setCell ⟨w.heap.size,3,none⟩ (.int .i64 0)):=by
 obtain⟨HA,HB⟩:=h.put (.int .u8 (k:Int)) (.string (Lx.bs t)) (.int .i64 n) (.int .i64 0)
 refine bodyPost_ret (zcL hr tmps _ w.heap.size 92 _ (0,0) _ hp HA Tryz.underlying92 rfl infoTok) rfl ⟨?_,HB⟩
 rw[hv]
 rfl
namespace Lx
def wk (l:Bs):Nat:=if isKey l then 2 else 1
def wt (l:Bs):Bs:=if isKey l then great l else l
def wok (l:Bs):Bool:=isKey l || decide (l.length≤64)
end Lx
theorem rword_c (l:Lx.Bs) (hl:l.length≤140737488351232) (w:World):Calls Tryz.prog 152 #[.string (Lx.bs l)] w fun e w'=>e=.returned (.tuple #[.agg (Lx.tc (Lx.wk l) (Lx.wt l) 0 0),.bool (Lx.wok l)])∧Below w.heap.size w w':=by
 obtain⟨w1,hw1⟩:∃w1,w1=w.alloc (.cells #[.int .u8 0,.string ⟨#[]⟩,.int .i64 0,.int .i64 0] 92):=⟨_,rfl⟩
 have X1:Hid (T4 w w1):=by rw[hw1];exact T4.start w
 obtain⟨s,hs⟩:∃s,s=Lx.bs l:=⟨_,rfl⟩
 obtain⟨kb,hkb⟩:∃kb,kb=Lx.isKey l:=⟨_,rfl⟩
 have hsz:(s.size:Int)=(l.length:Int):=by rw[hs,Lx.bs_size]
 have hsz2:s.size≤140737488351232:=by rw[hs,Lx.bs_size];exact hl
 have CK:Hid (∀W,Calls Tryz.prog 180 #[.string s] W fun e w'=>e=.returned (.bool kb)∧Below W.heap.size W w'):=fun W=>by
  have h:=rkeyword_c s hsz2 W
  rw[hs,Lx.bs_data,←hkb] at h
  rw[hs];exact h
 have CG:Hid (∀W,Calls Tryz.prog 181 #[.string s] W fun e w'=>e=.returned (.string (Lx.bs (Lx.great l)))∧Below W.heap.size W w'):=fun W=>by
  have h:=rgreat_c s hsz2 W
  rw[hs,Lx.bs_data] at h
  rw[hs];exact h
 have HK:Hid (kb=Lx.isKey l):=hkb
 have HS:Hid (s=Lx.bs l):=hs
 rw[←hs]
 clear hs hkb hsz2
 go_enter Tryz.func152,Tryz.ntmps152
 go_upto_region 1 with fail
 rw[←hw1]
 clear hw1
 go_wp2_with fail
 refine Calls.mono (CK.out _) ?_
 rintro e w2 ⟨rfl,hb2⟩
 have X2:Hid (T4 w w2):=X1.out.call hb2
 clear hb2 X1 CK
 cases kb with
 | true =>
  go_wp2_with fail
  refine Calls.mono (CG.out _) ?_
  rintro e w3 ⟨rfl,hb3⟩
  have X3:Hid (T4 w w3):=X2.out.call hb3
  obtain⟨p0,p1,p2,p3,fz⟩:=X3.out.cells
  clear hb3 X2
  have HR:Hid (Lx.wk l=2∧Lx.wt l=Lx.great l∧Lx.wok l=true):=by
   have:=HK.out.symm
   exact⟨by rw[Lx.wk,if_pos this],by rw[Lx.wt,if_pos this],by rw[Lx.wok,this];rfl⟩
  go_wp2
  rw[HR.out.1,HR.out.2.1,HR.out.2.2]
  exact tok_end1 rfl X3.out rfl rfl
 | false =>
  obtain⟨p0,p1,p2,p3,fz⟩:=X2.out.cells
  have HR:Hid (Lx.wk l=1∧Lx.wt l=l∧Lx.wok l=decide (l.length≤64)):=by
   have:=HK.out.symm
   exact⟨by rw[Lx.wk,if_neg (by rw[this];decide)],by rw[Lx.wt,if_neg (by rw[this];decide)],by rw[Lx.wok,this];rfl⟩
  by_cases h64:l.length≤64
  ·have q:(s.size:Int)≤64:=by omega
   go_wp2
   rw[HR.out.1,HR.out.2.1,HR.out.2.2,decide_eq_true h64,HS.out]
   exact tok_end1 rfl X2.out rfl (by show Value.bool (decide ((l.length:Int)≤64))=_;rw[decide_eq_true (by omega)])
  ·have q:¬(s.size:Int)≤64:=by omega
   go_wp2
   rw[HR.out.1,HR.out.2.1,HR.out.2.2,decide_eq_false h64,HS.out]
   exact tok_end1 rfl X2.out rfl (by show Value.bool (decide ((l.length:Int)≤64))=_;rw[decide_eq_false (by omega)])
namespace Lx
theorem dv_at (l:Bs) (j:Nat) (c:UInt8) (h:l[j]?=some c):dv 0 (l.take (j+1))=dv 0 (l.take j)*10+(c.toNat - 48):=by
 rw[List.take_add_one,h]
 exact dv_snoc _ _ _
theorem allD_at {l:Bs} (h:allD l=true) {j:Nat} {c:UInt8} (hc:l[j]?=some c):48≤c.toNat∧c.toNat≤57:=by
 have h1:=List.mem_of_getElem? hc
 rw[allD,List.all_eq_true] at h
 exact(isD_iff _).1 (h c h1)
def nok (l:Bs):Bool:=decide (dv 0 l≤9223372036854775807) && (decide (l.length=1) || decide (l.head?≠some 48))
def NumGave (l:Bs) (w:World) (e:Ending) (w':World):Prop:=Below w.heap.size w w'∧∃k n,e=.returned (.tuple #[.agg (tc k [] n 0),.bool (nok l)])∧(nok l=true→k=3∧n=((dv 0 l:Nat):Int))
theorem arN {a d m:Nat} (hm:a*10+d=m) (h:m≤9223372036854775807):¬(9223372036854775807 - (d:Int)) / 10<(a:Int)∧IntKind.u64.wrap (10*(a:Int))=((10*a:Nat):Int)∧IntKind.u64.wrap (((10*a:Nat):Int)+(d:Int))=(m:Int):=by
 refine⟨by omega,?_,?_⟩
 ·show(10*(a:Int)) % 18446744073709551616=_;omega
 ·show(((10*a:Nat):Int)+(d:Int)) % 18446744073709551616=_;omega
theorem arM {a d:Nat} (h:¬a*10+d≤9223372036854775807):(9223372036854775807 - (d:Int)) / 10<(a:Int):=by omega
theorem arO {d:Nat} (hd:d≤9):IntKind.u64.wrap (9223372036854775807 - (d:Int))=9223372036854775807 - (d:Int)∧IntKind.u64.wrap (d:Int)=(d:Int):=by
 refine⟨?_,?_⟩
 ·show(9223372036854775807 - (d:Int)) % 18446744073709551616=_;omega
 ·show(d:Int) % 18446744073709551616=_;omega
theorem arP {a:Nat} (h:a≤9223372036854775807):IntKind.i64.wrap (a:Int)=(a:Int):=by rw[IntKind.wrap_i64];omega
end Lx
theorem tok_endN {fn:Func} {p v:Tmp} {l:Lx.Bs} {w W:World} {tmps:Array Value} {k:Nat} {n:Int} (hr:fn.results=#[.cell p 92,.tmp v]) (h:T4 w W) (hk:Lx.nok l=true→k=3∧n=((Lx.dv 0 l:Nat):Int)) (hp:tmps.getD p undef=.pointer (some ⟨w.heap.size,0,none⟩)) (hv:tmps.getD v undef=.bool (Lx.nok l)) :
  bodyPost Tryz.prog fn (Lx.NumGave l w) .ret ⟨tmps,[]⟩ ((((W.setCell ⟨w.heap.size,0,none⟩ (.int .u8 (k:Int))).setCell ⟨w.heap.size,1,none⟩ (.string (Lx.bs []))).setCell ⟨w.heap.size,2,none⟩ (.int .i64 n)).setCell ⟨w.heap.size,3,none⟩ (.int .i64 0)):=by
 obtain⟨HA,HB⟩:=h.put (.int .u8 (k:Int)) (.string (Lx.bs [])) (.int .i64 n) (.int .i64 0)
 refine bodyPost_ret (zcL hr tmps _ w.heap.size 92 _ (0,0) _ hp HA Tryz.underlying92 rfl infoTok) rfl ⟨HB,k,n,?_,hk⟩
 rw[hv]
 rfl
theorem tok_endD {fn:Func} {p v:Tmp} {l:Lx.Bs} {w W:World} {tmps:Array Value} {k:Nat} {n:Int} (hr:fn.results=#[.cell p 92,.tmp v]) (h:T4 w W) (hk:Lx.nok l=true→k=3∧n=((Lx.dv 0 l:Nat):Int)) (hp:tmps.getD p undef=.pointer (some ⟨w.heap.size,0,none⟩)) (hv:tmps.getD v undef=.bool (Lx.nok l)) :
  bodyPost Tryz.prog fn (Lx.NumGave l w) .ret ⟨tmps,[]⟩ ((((W.setCell ⟨w.heap.size,0,none⟩ (.int .u8 (k:Int))).setCell ⟨w.heap.size,1,none⟩ (.string (Lx.bs []))).setCell ⟨w.heap.size,2,none⟩ (.int .i64 n)).setCell ⟨w.heap.size,3,none⟩ (.int .i64 0)).drew:=by
 obtain⟨HA,HB⟩:=h.put (.int .u8 (k:Int)) (.string (Lx.bs [])) (.int .i64 n) (.int .i64 0)
 refine bodyPost_ret (zcL hr tmps _ w.heap.size 92 _ (0,0) _ hp (show(World.drew _).heap[_]?=_ from HA) Tryz.underlying92 rfl infoTok) rfl ⟨HB.drew,k,n,?_,hk⟩
 rw[hv]
 rfl
theorem rnumber_c (x:UInt8) (r:Lx.Bs) (hD:Lx.allD (x :: r)=true) (hl:(x :: r).length≤140737488351232) (w:World):Calls Tryz.prog 153 #[.string (Lx.bs (x :: r))] w (Lx.NumGave (x :: r) w):=by
 obtain⟨w1,hw1⟩:∃w1,w1=w.alloc (.cells #[.int .u8 0,.string ⟨#[]⟩,.int .i64 0,.int .i64 0] 92):=⟨_,rfl⟩
 have X1:Hid (T4 w w1):=by rw[hw1];exact T4.start w
 obtain⟨l,hxl⟩:∃l,l=x :: r:=⟨_,rfl⟩
 obtain⟨s,hs⟩:∃s,s=Lx.bs l:=⟨_,rfl⟩
 obtain⟨n,hn⟩:∃n:Int,n=(l.length:Int):=⟨_,rfl⟩
 have hsz:(s.size:Int)=n:=by rw[hs,Lx.bs_size,hn]
 have HNL:Hid (n=(l.length:Int)):=hn
 have HIX:Hid (∀(k:Nat) (b:UInt8),l[k]?=some b→∀wx,(Instr.index 9 (.string s) (.int .i64 (k:Int))).run Tryz.prog wx=.ok (.int .u8 (b.toNat:Int)) wx):=fun k b hb wx=>by rw[hs];exact Lx.index_at l (k:Int) k b rfl hb wx
 rw[←hxl] at hD hl ⊢
 have HX:Hid (l=x :: r):=hxl
 have HD:Hid (Lx.allD l=true):=hD
 rw[←hs]
 clear hs hxl hD hn
 go_enter Tryz.func153,Tryz.ntmps153
 go_upto_region 1 with fail
 rw[←hw1]
 clear hw1
 go_wp2
 go_loopw [4,5] (fun a i wr=>∃j:Nat,j≤l.length∧i=.int .i64 (j:Int)∧a=.int .u64 ((Lx.dv 0 (l.take j):Nat):Int)∧Lx.dv 0 (l.take j)≤9223372036854775807∧wr=w1) (fun _ i _=>l.length - (intOf i).toNat)
 case atStart=>exact⟨0,Nat.zero_le _,rfl,rfl,Nat.zero_le _,rfl⟩
 case round =>
  obtain⟨j,hj,rfl,rfl,hle,hwr⟩:=hrel
  subst hwr
  obtain⟨a,ha⟩:∃a,a=Lx.dv 0 (l.take j):=⟨_,rfl⟩
  have HA:Hid (a=Lx.dv 0 (l.take j)):=ha
  rw[←ha] at hle ⊢
  clear ha
  obtain⟨p0,p1,p2,p3,fz⟩:=X1.out.cells
  by_cases hlt:j<l.length
  ·have q0:(j:Int)<n:=by rw[HNL.out];omega
   have hw1:wrap64 ((j:Int)+1)=(j:Int)+1:=by unfold wrap64;omega
   obtain⟨c,hc⟩:∃c,l[j]?=some c:=⟨_,List.getElem?_eq_getElem hlt⟩
   have hix:=HIX.out j c hc
   obtain⟨hc1,hc2⟩:=Lx.allD_at HD.out hc
   obtain⟨d,hd⟩:∃d,d=c.toNat - 48:=⟨_,rfl⟩
   have hd9:d≤9:=by omega
   have e1:IntKind.u8.wrap ((c.toNat:Int) - 48)=(d:Int):=by show((c.toNat:Int) - 48) % 256=_;omega
   obtain⟨e2,e3⟩:=Lx.arO hd9
   obtain⟨m,hm⟩:∃m,a*10+d=m:=⟨_,rfl⟩
   have HMM:Hid (a*10+d=m):=hm
   have HM:Hid (m=Lx.dv 0 (l.take (j+1))):=by show _=_;rw[Lx.dv_at l j c hc,←HA.out,←hd,hm]
   by_cases hbig:m≤9223372036854775807
   ·obtain⟨e4,e5,e6⟩:=Lx.arN hm hbig
    clear hm hd hc hc1 hc2
    go_wp2
    go_roundw
    case rel=>exact⟨j+1,by omega,by go_num,by rw[←HM.out];exact congrArg (Value.int .u64) (by have:=HMM.out;omega),by rw[←HM.out];exact hbig,trivial⟩
    case measure=>simp[intOf];omega
   ·have e4:=Lx.arM (by rw[hm];exact hbig)
    have HN:Hid (Lx.nok l=false):=by
     have h1:=Lx.dv_take_le l 0 (j+1)
     rw[←HM.out] at h1
     show _=_
     rw[Lx.nok,decide_eq_false (by omega)];rfl
    clear hm hd hc hc1 hc2
    go_wp2
    exact tok_endN (k:=0) (n:=0) rfl X1.out (fun h=>by rw[HN.out] at h;cases h) rfl (by rw[HN.out];rfl)
  ·have q0:¬(j:Int)<n:=by rw[HNL.out];omega
   have HJ:Hid (a=Lx.dv 0 l):=by show _=_;rw[HA.out,List.take_of_length_le (by omega)]
   have e7:=Lx.arP hle
   have hx0:∀wx,(Instr.index 9 (.string s) (.int .i64 0)).run Tryz.prog wx=.ok (.int .u8 (x.toNat:Int)) wx:=HIX.out 0 x (by rw[HX.out];rfl)
   by_cases h1:l.length=1
   ·have q1:(n==1)=true:=by rw[HNL.out,h1];rfl
    have HN:Hid (Lx.nok l=true):=by
     show _=_
     rw[Lx.nok,decide_eq_true (by rw[←HJ.out];exact hle),decide_eq_true h1];rfl
    clear h1
    go_upto_region 9 with fail
    go_region
    all_goals go_wp2
    all_goals exact tok_endD (k:=3) (n:=(a:Int)) rfl X1.out (fun _=>⟨rfl,by rw[HJ.out]⟩) rfl (by rw[HN.out];rfl)
   ·have q1:(n==1)=false:=by rw[beq_eq_false_iff_ne,HNL.out];omega
    have HH:Hid (Lx.nok l=decide (l.head?≠some 48)):=by
     show _=_
     rw[Lx.nok,decide_eq_true (by rw[←HJ.out];exact hle),decide_eq_false h1];simp
    clear h1
    by_cases h2:x=48
    ·have q2:((x.toNat:Int) != 48)=false:=by rw[h2];rfl
     have HN:Hid (Lx.nok l=false):=by show _=_;rw[HH.out,HX.out,h2];rfl
     clear h2
     go_upto_region 9 with fail
     go_region
     all_goals go_wp2
     all_goals exact tok_endD (k:=3) (n:=(a:Int)) rfl X1.out (fun h=>by rw[HN.out] at h;cases h) rfl (by rw[HN.out];rfl)
    ·have q2:((x.toNat:Int) != 48)=true:=by
      have:x.toNat≠48:=fun e=>h2 (by rw[←UInt8.toNat_inj];exact e)
      simp;omega
     have HN:Hid (Lx.nok l=true):=by show _=_;rw[HH.out,HX.out];simp[h2]
     clear h2
     go_upto_region 9 with fail
     go_region
     all_goals go_wp2
     all_goals exact tok_endD (k:=3) (n:=(a:Int)) rfl X1.out (fun _=>⟨rfl,by rw[HJ.out]⟩) rfl (by rw[HN.out];rfl)
end Go.Proofs.YtfhkaffakniioaaGreatDoor
