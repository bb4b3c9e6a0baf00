/- Several texts, joined. -/
import Derived.Test.YtfhkaffakniioaaGreatDoorQ03M
import Derived.Laws.RangeAny
import Derived.Lib.TrimUEq
import Derived.Lib.MapLaws
set_option maxHeartbeats 4000000
set_option maxRecDepth 100000
namespace Go.Proofs.YtfhkaffakniioaaGreatDoor
open Go.RowKit
theorem zdR (s:ByteArray) (pos:Nat) (h:pos<s.size):s.data.toList.drop pos≠[]:=by
 intro e
 have:=List.drop_eq_nil_iff.1 e
 have h2:s.data.toList.length=s.size:=rfl
 omega
theorem extract3 (s:ByteArray) (pos:Nat):(s.extract pos (pos+3)).toList=(s.data.toList.drop pos).take 3:=by
 rw[Go.ByteArray.toList_eq]
 rw[ByteArray.data_extract,Array.toList_extract,List.extract_eq_take_drop]
 congr 1
 omega
theorem fffd_wide (s:ByteArray) (pos:Nat) (h:pos<s.size) (h1:(Utf8.decode s pos).1=65533) (h2:(Utf8.decode s pos).2≠1):pos+3≤s.size∧(s.extract pos (pos+3)).toList=[239,191,189]:=by
 have hne:=zdR s pos h
 have he:=Lib.encode_decode (s.data.toList.drop pos) hne (by rw[Lib.decodeL_drop];exact fun hh=>h2 hh.2)
 rw[Lib.decodeL_drop,h1] at he
 have e3:Lib.encodeRune ((65533:Nat):Int)=[239,191,189]:=by decide
 rw[e3] at he
 have hl:=congrArg List.length he
 simp only[List.length_take,List.length_drop,List.length_cons,List.length_nil] at hl
 have h4:s.data.toList.length=s.size:=rfl
 refine⟨by omega,?_⟩
 rw[extract3]
 have h5:=congrArg (List.take 3) he
 rw[List.take_take] at h5
 have h6:min 3 (Utf8.decode s pos).2=3:=by omega
 rw[h6] at h5
 exact h5.symm
theorem fffd_true (s:ByteArray) (pos:Nat) (h:(s.extract pos (pos+3)).toList=[239,191,189]):(Utf8.decode s pos).2≠1:=by
 rw[extract3] at h
 rw[←Lib.decodeL_drop]
 obtain⟨l,hl⟩:∃l,l=s.data.toList.drop pos:=⟨_,rfl⟩
 rw[←hl] at h ⊢
 match l,h with
 | a :: b :: c :: r,h =>
  simp only[List.take_succ_cons,List.take_zero,List.cons.injEq,and_true] at h
  obtain⟨rfl,rfl,rfl⟩:=h
  simp[Lib.decodeL,Utf8.decode,ByteArray.get!,ByteArray.size,Utf8.valid]
theorem below_iter (w:World) (s:ByteArray) (p:Nat):Below w.heap.size w (w.iter s p):=(Below.refl _ _).alloc (Nat.le_refl _) _
theorem valid_nil (b:Nat):Lib.validGoD b []=true:=by
 cases b<;>simp[Lib.validGoD]
theorem rutf_c (s:ByteArray) (w:World) (hs:s.size≤1024):Calls Tryz.prog 31 #[.string s] w fun e w'=>e=.returned (.bool (Lib.validD s.data.toList))∧Below w.heap.size w w':=by
 go_enter Tryz.func31,Tryz.ntmps31
 go_wp2
 go_loopw [2] (fun v w'=>v=.bool false∧∃(pos b:Nat),w'=w.iter s pos∧Lib.validGoD b (s.data.toList.drop pos)=Lib.validD s.data.toList∧s.size≤pos+b) (fun _ w'=>s.size - w'.iterPos w.heap.size)
 case atStart=>exact⟨rfl,0,s.size,rfl,by rw[Lib.validD,List.drop_zero];rfl,by omega⟩
 case round =>
  obtain⟨rfl,pos,b,rfl,hv,hb⟩:=hrel
  by_cases hp:pos<s.size
  ·have hnx:∀ty,(Instr.next (.pointer (some ⟨w.heap.size,0,none⟩)) true ty).run Tryz.prog (w.iter s pos)=_:=fun ty=>run_next_any w s pos ty hp
   have hwd:=Lib.width_pos s pos
   cases b with
   | zero=>omega
   | succ b =>
    have hne:=zdR s pos hp
    rw[Lib.validGoD,if_neg hne,Lib.decodeL_drop,List.drop_drop] at hv
    have HV:Hid ((if (Utf8.decode s pos).1=65533∧(Utf8.decode s pos).2=1 then false else Lib.validGoD b (s.data.toList.drop (pos+(Utf8.decode s pos).2)))=Lib.validD s.data.toList):=hv
    clear hv hne
    by_cases hr1:(Utf8.decode s pos).1=65533
    ·have hri:((Utf8.decode s pos).1:Int)=65533:=by omega
     have e3:wrap64 ((pos:Int)+3)=((pos+3:Nat):Int):=by unfold wrap64;omega
     by_cases h3:pos+3≤s.size
     ·have i3:((pos+3:Nat):Int)≤(s.size:Int):=by omega
      have hsl:∀wx,(Instr.slice 9 (.string s) (some (.int .i64 (pos:Int))) (some (.int .i64 ((pos:Int)+3))) none).run Tryz.prog wx=.ok (.string (s.extract pos (pos+3))) wx:=fun wx=>by
       have h:=run_slice_string (P:=Tryz.prog) wx 9 s .i64 .i64 (pos:Int) ((pos:Int)+3) Tryz.underlying9 (by omega) (by omega) (by omega)
       rw[Int.toNat_natCast,show((pos:Int)+3).toNat=pos+3 by omega] at h
       exact h
      by_cases hx:(s.extract pos (pos+3)).toList=[239,191,189]
      ·have HX:Hid ((Utf8.decode s pos).2≠1):=fffd_true s pos hx
       have hx1:((s.extract pos (pos+3)).toList==[239,191,189])=true:=by rw[hx];rfl
       go_wp2
       go_roundw
       case rel=>exact⟨rfl,pos+(Utf8.decode s pos).2,b,rfl,by rw[←HV.out,if_neg (fun h=>HX.out h.2)],by omega⟩
       case measure=>simp;omega
      ·have HX:Hid ((Utf8.decode s pos).2=1):=by
        show _=_
        exact Decidable.byContradiction fun h=>hx (fffd_wide s pos hp hr1 h).2
       have hx1:((s.extract pos (pos+3)).toList==[239,191,189])=false:=by simpa using hx
       go_wp2
       exact⟨rfl,_,results_tmp (by rfl) _ _ _,by rw[←HV.out,if_pos ⟨hr1,HX.out⟩];rfl,below_iter _ _ _⟩
     ·have i3:¬((pos+3:Nat):Int)≤(s.size:Int):=by omega
      have HX:Hid ((Utf8.decode s pos).2=1):=by
       show _=_
       exact Decidable.byContradiction fun h=>h3 (fffd_wide s pos hp hr1 h).1
      go_wp2
      exact⟨rfl,_,results_tmp (by rfl) _ _ _,by rw[←HV.out,if_pos ⟨hr1,HX.out⟩];rfl,below_iter _ _ _⟩
    ·have hri:¬((Utf8.decode s pos).1:Int)=65533:=by omega
     go_wp2
     go_roundw
     case rel=>exact⟨rfl,pos+(Utf8.decode s pos).2,b,rfl,by rw[←HV.out,if_neg (fun h=>hr1 h.1)],by omega⟩
     case measure=>simp;omega
  ·have hnx:∀ty,(Instr.next (.pointer (some ⟨w.heap.size,0,none⟩)) true ty).run Tryz.prog (w.iter s pos)=_:=fun ty=>run_next_end w s pos ty hp
   have HV:Hid (true=Lib.validD s.data.toList):=by
    show _=_
    rw[← hv, List.drop_eq_nil_of_le (by have h2 : s.data.toList.length = s.size := rfl; omega),valid_nil]
   go_wp2
   exact⟨rfl,_,results_tmp (by rfl) _ _ _,by rw[←HV.out];rfl,below_iter _ _ _⟩
end Go.Proofs.YtfhkaffakniioaaGreatDoor
