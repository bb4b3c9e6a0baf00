/- Several texts, joined: BinRNum, BinRRead, BinRZ -/
import Derived.Test.YtggnfejjcgbebaaGreatDoorJCM
import Derived.Test.YtggnfejjcgbebaaGreatDoorJLM
import Derived.Deep.QuietTactic
import Derived.BigQuiet
/- The document's bytes of a number. -/
namespace Go.Proofs.YtggnfejjcgbebaaGreatDoor
open Go.RowKit
set_option maxHeartbeats 2000000 in
set_option maxRecDepth 10000 in
theorem rnumber26 (n:Nat) (hn:n<18446744073709551616) (w:World) :
    Calls Tryz.prog 104 #[.int .u64 n] w fun e w'=>e=.returned (.string ⟨(Bn.num n).toArray⟩)∧Below w.heap.size w w':=by
  obtain ⟨i0,hi,hz0,hz1,hz2⟩:=Go.info_parts Bn.info5
  have HO:Hid (w.ownsRow w.heap.size 5 1 (.slice none 0 0) 0 []):=⟨rfl,Or.inl ⟨rfl,rfl⟩⟩
  go_enter Tryz.func104,Tryz.ntmps104
  go_wp2
  go_loopw [0,3] (fun nv v wr=>∃(m:Nat) (l:List UInt8),nv=.int .u64 m∧m<18446744073709551616∧Bn.num n=l++Bn.num m∧(m+1)*2 ^ l.length≤18446744073709551616∧wr.ownsRow w.heap.size 5 1 v l.length (Lib.byteCells l)∧Below w.heap.size w wr∧w.heap.size≤wr.heap.size) (fun nv _ _=>(intOf nv).toNat)
  case atStart=>exact ⟨n,[],rfl,hn,rfl,by simp;omega,HO.out,Below.refl _ _,Nat.le_refl _⟩
  case round =>
    obtain ⟨m,l,rfl,hm,hnum,hpw,hown,hnx,hsz⟩:=hrel
    clear HO
    have HL:Hid (l.length≤64):=Bn.len_le hpw
    have HB63:Hid (l.length+1≤maxLen):=by have:=HL.out;show _≤_;unfold maxLen;omega
    have HB47:Hid ((l.length+1)*1≤140737488355328):=by have:=HL.out;show _≤_;omega
    have HBS:Hid (∀k,_→_):=Bn.block_le hown
    have HOW:Hid (wr.ownsRow _ _ _ _ _ _):=hown
    have HPW:Hid ((m+1)*2 ^ l.length≤18446744073709551616):=hpw
    have HNUM:Hid (Bn.num n=l++Bn.num m):=hnum
    clear hown hpw hnum
    by_cases hge:128≤m
    · have q1:(128:Int)≤(m:Int):=by omega
      have HNX:Hid (Lib.byteCells (l++[UInt8.ofNat (m % 128+128)])=Lib.byteCells l++[.int .u8 ((m:Int) % 128+128)]):=Bn.snoc _ _ _ (Bn.toNat_hi m)
      have hq0:((m:Int) % 128+128) % 18446744073709551616=(m:Int) % 128+128:=by omega
      have hq1:((m:Int) % 128+128) % 256=(m:Int) % 128+128:=by omega
      go_wp2_with (first | (at_builtin;refine wpList_append_own _ rfl _ _ 61 rfl w.heap.size 5 i0 (.int .u8 0) 1 1 Tryz.underlying61 hi hz0 hz1 hz2 rfl (by decide) _ _ _ rfl (HOW.out.alloc _) ⟨wr.heap.size,0,none⟩ 1 1 [.int .u8 ((m:Int) % 128+128)] rfl rfl (Bn.cell_new _ _ _) ?c2 ?c3 ?c4 ?c5 ?_))
      case c2=>intro u hu;simp at hu;subst hu;rfl
      case c3=>exact HB63.out
      case c4=>exact HB47.out
      case c5=>simp;omega
      · intro v' w1 hown' hgrow _
        have R1:Hid (w1.ownsRow w.heap.size 5 1 v' (l++[UInt8.ofNat (m % 128+128)]).length (Lib.byteCells (l++[UInt8.ofNat (m % 128+128)]))):=by
          rw [HNX.out,List.length_append]
          exact hown'
        have R2:Hid (Below w.heap.size w w1):=(hnx.alloc (by omega) _).grown hgrow (by simp;omega) HBS.out
        have R3:Hid (w.heap.size≤w1.heap.size):=by
          have:=hgrow.size
          simp at this
          show _≤_
          omega
        have R4:Hid (Bn.num n=(l++[UInt8.ofNat (m % 128+128)])++Bn.num (m / 128)):=by
          show _=_
          rw [HNUM.out,Bn.num_high hge];simp
        have R5:Hid ((m / 128+1)*2 ^ (l++[UInt8.ofNat (m % 128+128)]).length≤18446744073709551616):=by
          rw [List.length_append];exact Bn.len_next hge HPW.out
        clear hown' hgrow hnx hsz
        obtain ⟨q,hq⟩:∃q,q=m / 128:=⟨_,rfl⟩
        have hqm:q<m:=by omega
        rw [←hq] at R4 R5
        have q2:(m:Int) / 128=(q:Int):=by omega
        clear hq
        go_wp2
        go_roundw
        case rel=>exact ⟨q,_,rfl,by omega,R4.out,R5.out,R1.out,R2.out,R3.out⟩
        case measure=>simp [intOf];omega
    · have q1:¬(128:Int)≤(m:Int):=by omega
      have q2:(m:Int) % 256=(m:Int):=by omega
      have HNX:Hid (Lib.byteCells (l++[UInt8.ofNat m])=Lib.byteCells l++[.int .u8 (m:Int)]):=Bn.snoc _ _ _ (Bn.toNat_lo hge)
      have HALL:Hid (Bn.num n=l++[UInt8.ofNat m]):=by
        show _=_
        rw [HNUM.out,Bn.num_low (by omega)]
      have HSZ:Hid (w.heap.size≤(wr.alloc (.cells #[.int .u8 (m:Int)] 5)).heap.size):=by show _≤_;simp;omega
      go_wp2_with (first | (at_builtin;refine wpList_append_own _ rfl _ _ 61 rfl w.heap.size 5 i0 (.int .u8 0) 1 1 Tryz.underlying61 hi hz0 hz1 hz2 rfl (by decide) _ _ _ rfl (HOW.out.alloc _) ⟨wr.heap.size,0,none⟩ 1 1 [.int .u8 (m:Int)] rfl rfl (Bn.cell_new _ _ _) (by intro u hu;simp at hu;subst hu;rfl) HB63.out HB47.out HSZ.out ?_;intro v' w1 hown' hgrow hx;have R1:=hown';rw [←HNX.out] at R1;obtain ⟨g,k,cap,str,hv,hconv,hstr⟩:=Bn.own_string (l:=l++[UInt8.ofNat m]) (by rw [List.length_append];exact R1) (by simp);have R2:Hid (Below w.heap.size w w1):=(hnx.alloc (by omega) _).grown hgrow (by simp;omega) HBS.out;clear R1 hown' hgrow hnx hsz hx;subst hv))
      all_goals
        go_ret
        exact ⟨ret_strV (by rw [hstr.out,HALL.out]),R2.out⟩
end Go.Proofs.YtggnfejjcgbebaaGreatDoor
/- The reference's ReadNumber, walked: the number whose bytes a text begins with, or none. -/
namespace Go.Proofs.YtggnfejjcgbebaaGreatDoor
open Go.RowKit
namespace Bn
theorem reads_nine {s:List UInt8} (hi:9<s.length) (hh:high (s.take 9)) (hb:1<(s.getD 9 0).toNat) :
    Reads s (.returned (.tuple #[.int .u64 0,.int .i64 0,.int .i64 11])):=by
  refine Or.inr ⟨fun n hn hp=>?_,rfl⟩
  by_cases h128:(s.getD 9 0).toNat<128
  · have e:s=s.take 9++s.getD 9 0 :: s.drop (9+1):=by
      rw [List.append_cons,←take_next hi,List.take_append_drop]
    have hp2:=hp
    rw [e] at hp2
    have h1:=num_ends hh h128 hp2
    have h2:=congrArg val h1
    rw [val_num,val_append,val,val,List.length_take,show min 9 s.length=9 by omega,Nat.mod_eq_of_lt h128] at h2
    omega
  · refine none_high hn ?_ hp
    intro y hy
    rw [take_next hi,List.mem_append,List.mem_singleton] at hy
    rcases hy with hy | rfl
    · exact hh y hy
    · omega
theorem add_step (l:List UInt8) (b:UInt8) (i:Nat) (hl:l.length=i) (x:Nat) (hx:x=b.toNat % 128) :
    (val l % 18446744073709551616+128 ^ i % 18446744073709551616*x % 18446744073709551616) % 18446744073709551616=val (l++[b]) % 18446744073709551616:=by
  rw [val_append,val,val,Nat.mul_zero,Nat.add_zero,hl,←hx,Nat.mod_mul_mod,←Nat.add_mod]
theorem unit_step (i:Nat):128 ^ i % 18446744073709551616*128 % 18446744073709551616=128 ^ (i+1) % 18446744073709551616:=by
  rw [Nat.mod_mul_mod,Nat.pow_succ]
theorem wrap_nat (m:Nat) (x:Int) (h:x=(m:Int)):IntKind.u64.wrap x=((m % 18446744073709551616:Nat):Int):=by
  rw [h,IntKind.wrap_u64,Int.natCast_emod];rfl
end Bn
set_option maxHeartbeats 2000000 in
set_option maxRecDepth 10000 in
theorem rread24 (s:ByteArray) (w:World) :
    Calls Tryz.prog 133 #[.string s] w fun e w'=>Bn.Reads s.data.toList e∧Below w.heap.size w w':=by
  obtain ⟨L,hL⟩:∃L:Nat,L=min s.size 10:=⟨_,rfl⟩
  go_enter Tryz.func133,Tryz.ntmps133
  go_wp2
  go_loopw [5,6,7] (fun nv uv c wr=>∃i:Nat,i≤L∧c=.int .i64 (i:Int)∧nv=.int .u64 ((Bn.val (s.data.toList.take i) % 18446744073709551616:Nat):Int)∧uv=.int .u64 ((128 ^ i % 18446744073709551616:Nat):Int)∧Bn.high (s.data.toList.take i)∧Below w.heap.size w wr) (fun _ _ c _=>L - (intOf c).toNat)
  case atStart=>exact ⟨0,by omega,rfl,rfl,rfl,by simp [Bn.high],Below.refl _ _⟩
  case round =>
      obtain ⟨i,hi,rfl,rfl,rfl,hhi,hnx⟩:=hrel
      by_cases hlt:i<L
      · obtain ⟨b,hb⟩:∃b,b=s.data.toList.getD i 0:=⟨_,rfl⟩
        have hbl:b.toNat<256:=UInt8.toNat_lt _
        have hix:∀wx,(Instr.index 9 (.string s) (.int .i64 (i:Int))).run Tryz.prog wx=.ok (.int .u8 (b.toNat:Int)) wx:=fun wx=>by rw [hb];exact Bn.index_byte s i (by omega) (by omega) wx
        obtain ⟨x,hx⟩:∃x,x=b.toNat % 128:=⟨_,rfl⟩
        have han:(b.toNat:Int) % 128=(x:Int):=by omega
        obtain ⟨A,hA⟩:∃A,A=Bn.val (s.data.toList.take i) % 18446744073709551616:=⟨_,rfl⟩
        obtain ⟨U,hU⟩:∃A,A=128 ^ i % 18446744073709551616:=⟨_,rfl⟩
        rw [←hA,←hU]
        have q1:(i:Int)<(s.size:Int):=by omega
        have q2:(i:Int)<10:=by omega
        have q3:(x:Int)<128:=by omega
        have q0:i<s.size:=by omega
        have hil:i<s.data.toList.length:=by rw [←Lib.size_eq];omega
        obtain ⟨P,hP⟩:∃P,P=U*x % 18446744073709551616:=⟨_,rfl⟩
        have hmul:IntKind.u64.wrap ((U:Int)*(x:Int))=(P:Int):=by rw [hP];exact Bn.wrap_nat _ _ rfl
        obtain ⟨U2,hU2⟩:∃P,P=U*128 % 18446744073709551616:=⟨_,rfl⟩
        have hmul2:IntKind.u64.wrap ((U:Int)*128)=(U2:Int):=by rw [hU2];exact Bn.wrap_nat _ _ rfl
        have HU2:Hid (U2=128 ^ (i+1) % 18446744073709551616):=by show _=_;rw [hU2,hU];exact Bn.unit_step i
        obtain ⟨A2,hA2'⟩:∃A,A=Bn.val (s.data.toList.take (i+1)) % 18446744073709551616:=⟨_,rfl⟩
        have hadd:IntKind.u64.wrap ((A:Int)+(P:Int))=(A2:Int):=by
          rw [hA2',Bn.take_next hil,←hb,←Bn.add_step _ b i (by rw [List.length_take];omega) x hx,←hA,←hU,←hP]
          exact Bn.wrap_nat _ _ rfl
        have HLT:Hid (A2<18446744073709551616):=by show _<_;rw [hA2'];exact Nat.mod_lt _ (by omega)
        have HA2:Hid (A2=Bn.val (s.data.toList.take (i+1)) % 18446744073709551616):=hA2'
        have HBB:Hid (b=s.data.toList.getD i 0):=hb
        have HIL:Hid (i<s.data.toList.length):=hil
        obtain ⟨str,hstr⟩:∃str:ByteArray,str=⟨(Bn.num A2).toArray⟩:=⟨_,rfl⟩
        have C26:Hid (∀W,Calls Tryz.prog 104 #[.int .u64 (A2:Int)] W fun e w'=>e=.returned (.string str)∧Below W.heap.size W w'):=fun W=>by
          rw [hstr];exact rnumber26 A2 HLT.out W
        obtain ⟨cut,hcut⟩:∃c:ByteArray,c=s.extract 0 (i+1):=⟨_,rfl⟩
        have hsl:∀wx,(Instr.slice 9 (.string s) none (some (.int .i64 ((i:Int)+1))) none).run Tryz.prog wx=.ok (.string cut) wx:=fun wx=>by
          rw [hcut];exact Bn.slice_to s _ (by omega) (by omega) wx
        have HEQ:Hid (str.data.toList=Bn.num A2∧cut.data.toList=s.data.toList.take (i+1)):=by
          refine ⟨by rw [hstr],?_⟩
          rw [hcut,Lib.extract_data];simp
        clear hb hx hA hL hA2' hstr hcut hil hU hP hU2
        by_cases h91:i=9
        · subst h91
          have hix9:∀wx,(Instr.index 9 (.string s) (.int .i64 9)).run Tryz.prog wx=.ok (.int .u8 (b.toNat:Int)) wx:=hix
          have hsl9:∀wx,(Instr.slice 9 (.string s) none (some (.int .i64 10)) none).run Tryz.prog wx=.ok (.string cut) wx:=hsl
          have r1:(9:Int)<(s.size:Int):=by omega
          clear hix hsl q1 q2
          by_cases h92:1<b.toNat
          · have q5:(1:Int)<(b.toNat:Int):=by omega
            go_wp2
            go_ret3
            exact ⟨Bn.reads_nine HIL.out hhi (by rw [←HBB.out];exact h92),hnx⟩
          · have q5:¬(1:Int)<(b.toNat:Int):=by omega
            have q6:(b.toNat:Int)<128:=by omega
            have r2:(10:Int)≤(s.size:Int):=by omega
            have r3:IntKind.i64.wrap 10=10:=by decide
            have r4:IntKind.i64.wrap (9+1)=10:=by decide
            go_wp2
            clear hadd hmul hmul2 han hix9 q3
            go_region_law (first | (go_simp;go_at_call 104;refine (C26.out _).mono ?_;rintro e w3 ⟨rfl,hb3⟩))
            all_goals
              have HB3:Hid (Below w.heap.size w w3):=hnx.trans (((Below.refl _ _).drew.trans hb3).mono hnx.size)
              clear hb3 hnx
              by_cases hsc:str=cut
              · have hq:(str.toList==cut.toList)=true:=by rw [hsc];exact beq_self_eq_true _
                rw [hq,Bool.not_true]
                clear hq
                go_wp2
                go_ret3
                refine ⟨Bn.reads_yes HIL.out (by rw [←HA2.out,←HEQ.out.1,←HEQ.out.2,hsc]) (by rw [←HA2.out];rfl),HB3.out⟩
              · have hq:(str.toList==cut.toList)=false:=Bn.neq hsc
                rw [hq,Bool.not_false]
                clear hq
                go_wp2
                go_ret3
                exact ⟨Bn.reads_no HIL.out hhi (by rw [←HBB.out];omega) (fun h=>hsc (by rw [←HA2.out,←HEQ.out.1,←HEQ.out.2] at h;exact Bn.data_ext h)),HB3.out⟩
        have q9:¬(i:Int)=9:=by omega
        by_cases hge:128≤b.toNat
        · have q4:(128:Int)≤(b.toNat:Int):=by omega
          go_wp2
          go_roundw
          case rel =>
            refine ⟨i+1,by omega,by go_num,by rw [←HA2.out],by rw [←HU2.out],?_,hnx⟩
            intro y hy
            rw [Bn.take_next HIL.out,List.mem_append,List.mem_singleton,←HBB.out] at hy
            rcases hy with hy | rfl
            · exact hhi y hy
            · exact hge
          case measure=>simp [intOf];omega
        · have q4:¬(128:Int)≤(b.toNat:Int):=by omega
          obtain ⟨j,hj,hw⟩:=Bn.wrap_next (i:=i) (by omega)
          have HJ:Hid (j=i+1):=hj
          have hsl2:∀wx,(Instr.slice 9 (.string s) none (some (.int .i64 (j:Int))) none).run Tryz.prog wx=.ok (.string cut) wx:=fun wx=>by
            rw [show (j:Int)=(i:Int)+1 by rw [hj];rfl];exact hsl wx
          clear hj hsl
          go_wp2
          clear hadd hmul hmul2 han hix q1 q3
          go_region_law (first | (go_simp;go_at_call 104;refine (C26.out _).mono ?_;rintro e w3 ⟨rfl,hb3⟩))
          all_goals
            have HB3:Hid (Below w.heap.size w w3):=hnx.trans (((Below.refl _ _).drew.trans hb3).mono hnx.size)
            clear hb3 hnx
            by_cases hsc:str=cut
            · have hq:(str.toList==cut.toList)=true:=by rw [hsc];exact beq_self_eq_true _
              rw [hq,Bool.not_true]
              clear hq
              go_wp2
              go_ret3
              refine ⟨Bn.reads_yes HIL.out (by rw [←HA2.out,←HEQ.out.1,←HEQ.out.2,hsc]) (by rw [←HA2.out,HJ.out];rfl),HB3.out⟩
            · have hq:(str.toList==cut.toList)=false:=Bn.neq hsc
              rw [hq,Bool.not_false]
              clear hq
              go_wp2
              go_ret3
              exact ⟨Bn.reads_no HIL.out hhi (by rw [←HBB.out];omega) (fun h=>hsc (by rw [←HA2.out,←HEQ.out.1,←HEQ.out.2] at h;exact Bn.data_ext h)),HB3.out⟩
      · have hiL:i=L:=by omega
        have HHI:Hid (Bn.high (s.data.toList.take L)):=by rw [←hiL];exact hhi
        have HL:Hid (L=min s.data.toList.length 10):=by rw [←Lib.size_eq];exact hL
        by_cases hls:i<s.size
        · have q1:(i:Int)<(s.size:Int):=by omega
          have q2:¬(i:Int)<10:=by omega
          go_wp2
          go_ret3
          exact ⟨Bn.reads_end HL.out HHI.out,hnx⟩
        · have q1:¬(i:Int)<(s.size:Int):=by omega
          go_wp2
          go_ret3
          exact ⟨Bn.reads_end HL.out HHI.out,hnx⟩
end Go.Proofs.YtggnfejjcgbebaaGreatDoor
/- The document's zig, Bytes, zag and bytes, walked. -/
namespace Go.Proofs.YtggnfejjcgbebaaGreatDoor
open Go.RowKit
open Vl (V)
theorem zig76 (n:Int) (h0:-9223372036854775808≤n) (h1:n≤9223372036854775807) (w:World) :
    Calls Tryz.prog 105 #[.int .i64 n] w fun e w'=>e=.returned (.int .u64 (Bn.fold n:Int))∧w'=w:=by
  obtain ⟨z,hz⟩:∃z:Int,z=(Bn.fold n:Int):=⟨_,rfl⟩
  rw [←hz]
  by_cases hn:0≤n
  · have e:Hid (2*n=z):=by show _=_;rw [hz,Bn.fold,if_pos hn];omega
    clear hz
    go_enter Tryz.func105,Tryz.ntmps105
    go_wp2
    go_ret
    exact ⟨congrArg (fun z=>Ending.returned (Value.int .u64 z)) e.out,rfl⟩
  · have e:Hid (2*-(n+1)+1=z):=by show _=_;rw [hz,Bn.fold,if_neg hn];omega
    clear hz
    go_enter Tryz.func105,Tryz.ntmps105
    go_wp2
    go_ret
    exact ⟨congrArg (fun z=>Ending.returned (Value.int .u64 z)) e.out,rfl⟩
theorem zag87 (n:Nat) (hn:n<18446744073709551616) (w:World) :
    Calls Tryz.prog 134 #[.int .u64 (n:Int)] w fun e w'=>e=.returned (.int .i64 (Bn.zag n))∧w'=w:=by
  obtain ⟨z,hz⟩:∃z:Int,z=Bn.zag n:=⟨_,rfl⟩
  rw [←hz]
  rcases Nat.mod_two_eq_zero_or_one n with h | h
  · have hi:(n:Int) % 2=0:=by omega
    have e:Hid ((n:Int) / 2=z):=by show _=_;rw [hz,Bn.zag,if_pos h];omega
    clear hz h
    go_enter Tryz.func134,Tryz.ntmps134
    go_wp2
    go_ret
    exact ⟨congrArg (fun z=>Ending.returned (Value.int .i64 z)) e.out,rfl⟩
  · have hi:(n:Int) % 2=1:=by omega
    have e:Hid (-((n:Int) / 2) - 1=z):=by show _=_;rw [hz,Bn.zag,if_neg (by omega)];omega
    clear hz h
    go_enter Tryz.func134,Tryz.ntmps134
    go_wp2
    go_ret
    exact ⟨congrArg (fun z=>Ending.returned (Value.int .i64 z)) e.out,rfl⟩
theorem Bn.str_text (s:ByteArray):(⟨(Bn.num s.size).toArray⟩:ByteArray)++s=⟨(Bn.text s).toArray⟩:=by
  apply Bn.data_ext
  rw [ByteArray.data_append,Array.toList_append]
  rfl
theorem bytes77 (s:ByteArray) (hs:s.size≤4294967296) (w:World) :
    Calls Tryz.prog 106 #[.string s] w fun e w'=>e=.returned (.string ⟨(Bn.text s).toArray⟩)∧Below w.heap.size w w':=by
  obtain ⟨n,hn⟩:∃n,n=s.size:=⟨_,rfl⟩
  obtain ⟨m,hm⟩:∃m:ByteArray,m=⟨(Bn.num n).toArray⟩:=⟨_,rfl⟩
  have hms:m.size≤10:=by rw [Lib.size_eq,hm];exact Bn.num_len10 (by omega)
  have C26:Hid (∀W,Calls Tryz.prog 104 #[.int .u64 (n:Int)] W fun e w'=>e=.returned (.string m)∧Below W.heap.size W w'):=fun W=>by rw [hm];exact rnumber26 n (by omega) W
  have e1:(s.size:Int)=(n:Int):=by omega
  have q1:(n:Int)<18446744073709551616:=by omega
  have hcat:¬9223372036854775807<m.size+s.size:=by omega
  have HE:Hid (m++s=⟨(Bn.text s).toArray⟩):=by show _=_;rw [hm,hn];exact Bn.str_text s
  clear hn hm hms hs
  go_enter Tryz.func106,Tryz.ntmps106
  go_wp2_with (first
    | (go_at_call 104;refine (C26.out _).mono ?_;rintro e w2 ⟨rfl,hb2⟩))
  go_ret
  exact ⟨by rw [←HE.out];rfl,hb2⟩
theorem Bn.below_drewN (w:World):∀k,Below w.heap.size w (w.drewN k)
  | 0=>Below.refl _ _
  | k+1=>(Bn.below_drewN w k).drew
theorem Bn.cut_text {s:ByteArray} {n k j:Nat} {r:List UInt8} (hr:s.data.toList=Bn.num n++r) (hk:k=(Bn.num n).length) (hj:j=k+n) (hn:n≤r.length):s.data.toList=Bn.text (s.extract k j)++(s.extract j s.size).data.toList:=by
  have e1:(s.extract k j).data.toList=r.take n:=by
    simp only [ByteArray.data_extract,Array.toList_extract,List.extract_eq_take_drop]
    rw [hr,hk,List.drop_left,hj,hk]
    congr 1
    omega
  have e2:(s.extract k j).size=n:=by rw [Lib.size_eq,e1,List.length_take];omega
  rw [Bn.text,e2,e1,Bn.extract_drop,hr,hj,hk,List.drop_append,List.append_assoc]
  rw [List.drop_of_length_le (by omega),List.nil_append,show (Bn.num n).length+n - (Bn.num n).length=n by omega,List.take_append_drop]
set_option maxHeartbeats 2000000 in
set_option maxRecDepth 100000 in
theorem bytes88 (s:ByteArray) (hs:s.size≤65536) (w:World) :
    Calls Tryz.prog 135 #[.string s] w fun e w'=>Below w.heap.size w w'∧∃(t r:ByteArray) (ok:Bool),e=.returned (.tuple #[.string t,.string r,.bool ok])∧t.size≤65536∧((ok=true∧s.data.toList=Bn.text t++r.data.toList)∨(ok=false∧Bn.noText s.data.toList)):=by
  have C24:Hid (Calls Tryz.prog 133 #[.string s] w fun e w'=>Bn.Reads s.data.toList e∧Below w.heap.size w w'):=rread24 s w
  by_cases hnum:∃n,n<18446744073709551616∧Bn.num n <+: s.data.toList
  · obtain ⟨n,hn,r,hr⟩:=hnum
    obtain ⟨k,hk⟩:∃k,k=(Bn.num n).length:=⟨_,rfl⟩
    have hsl:s.size=k+r.length:=by rw [Lib.size_eq,←hr,List.length_append,hk]
    obtain ⟨L,hL⟩:∃L,L=r.length:=⟨_,rfl⟩
    have D24:Hid (Calls Tryz.prog 133 #[.string s] w fun e w'=>e=.returned (.tuple #[.int .u64 (n:Int),.int .i64 (k:Int),.int .i64 0])∧Below w.heap.size w w'):=C24.out.mono (fun e w' ⟨h1,h2⟩=>by
      refine ⟨?_,h2⟩
      rcases h1 with ⟨n',hn',hp',e'⟩ | ⟨hno,_⟩
      · obtain rfl:=Bn.num_prefix_eq hp' (hr ▸ List.prefix_append _ _)
        rw [e',hk]
      · exact absurd (hr ▸ List.prefix_append _ _) (hno n hn))
    have e1:(s.size:Int)=(k:Int)+(L:Int):=by omega
    have hcan:(k:Int)+(L:Int) - (k:Int)=(L:Int):=by omega
    have hwL:wrap64 (L:Int)=(L:Int):=by unfold wrap64;omega
    by_cases hb:L<n
    · have hb':(L:Int)<(n:Int):=by omega
      have hL':(L:Int)<18446744073709551616:=by omega
      have HNO:Hid (Bn.noText s.data.toList):=by show Bn.noText _;rw [←hr];exact Bn.noText_short (by omega)
      clear C24 hr hk hsl hL hs hn hb
      go_enter Tryz.func135,Tryz.ntmps135
      go_wp2_with (first
        | (go_at_call 133;refine D24.out.mono ?_;rintro e w2 ⟨rfl,hb2⟩
           have B2:Hid (Below w.heap.size w w2):=hb2
           clear hb2))
      go_ret3
      exact ⟨B2.out,⟨#[]⟩,⟨#[]⟩,false,rfl,by decide,Or.inr ⟨rfl,HNO.out⟩⟩
    · have hb':¬(L:Int)<(n:Int):=by omega
      have hL':(L:Int)<18446744073709551616:=by omega
      have hn63:(n:Int)<9223372036854775808:=by omega
      obtain ⟨j,hj⟩:∃j,j=k+n:=⟨_,rfl⟩
      have hjn:(k:Int)+(n:Int)=(j:Int):=by omega
      have hjw:IntKind.i64.wrap ((k:Int)+(n:Int))=(j:Int):=by rw [hjn,IntKind.wrap_i64];omega
      have hnw:IntKind.i64.wrap (n:Int)=(n:Int):=by rw [IntKind.wrap_i64];omega
      have hjs:(j:Int)≤(k:Int)+(L:Int):=by omega
      have hkj:(k:Int)≤(j:Int):=by omega
      have HJW:Hid (IntKind.i64.wrap ((k:Int)+(n:Int))=(j:Int)):=hjw
      have HNW:Hid (IntKind.i64.wrap (n:Int)=(n:Int)):=hnw
      have HJS:Hid ((j:Int)≤(k:Int)+(L:Int)):=hjs
      have HKJ:Hid ((k:Int)≤(j:Int)):=hkj
      have HN63:Hid ((n:Int)<9223372036854775808):=hn63
      have HC:Hid (s.data.toList=Bn.text (s.extract k j)++(s.extract j s.size).data.toList):=Bn.cut_text hr.symm hk hj (by omega)
      have HT:Hid ((s.extract k j).size≤65536):=by show _≤_;rw [ByteArray.size_extract];omega
      clear C24 hr hk hsl hL hs hn hb hj hjn hjw hjs hkj hn63 hnw
      have HALL:Hid (IntKind.i64.wrap (n:Int)=(n:Int)∧(IntKind.i64.wrap ((k:Int)+(n:Int))=(j:Int))∧((j:Int)≤(k:Int)+(L:Int))∧((k:Int)≤(j:Int))∧((n:Int)<9223372036854775808)∧(s.data.toList=Bn.text (s.extract k j)++(s.extract j s.size).data.toList)∧((s.extract k j).size≤65536)∧(n:Int)≤(L:Int)∧(L:Int)<18446744073709551616):=⟨HNW.out,HJW.out,HJS.out,HKJ.out,HN63.out,HC.out,HT.out,by omega,hL'⟩
      clear HC HT HJW HJS HKJ HN63 HNW hL'
      go_enter Tryz.func135,Tryz.ntmps135
      go_upto_region 4 with (first
        | (go_at_call 133;refine D24.out.mono ?_;rintro e w2 ⟨rfl,hb2⟩
           have B2:Hid (Below w.heap.size w w2):=hb2
           clear hb2))
      · exfalso
        rename_i h
        obtain ⟨-,-,-,-,-,-,-,y1,y2⟩:=HALL.out
        have hwu:IntKind.u64.wrap (L:Int)=(L:Int):=by rw [IntKind.wrap_u64];omega
        clear e1 hcan hwL hb'
        simp only [hwu] at h
        omega
      · obtain ⟨hnw,hjw,hjs,hkj,hn63,hC,hTs,_,_⟩:=HALL.out
        have HC:Hid (s.data.toList=Bn.text (s.extract k j)++(s.extract j s.size).data.toList):=hC
        have HT:Hid ((s.extract k j).size≤65536):=hTs
        clear hC hTs HALL hcan hwL hb'
        go_quiet (fail)
        go_wp2
        go_ret3
        exact ⟨B2.out.trans ((Bn.below_drewN _ _).mono B2.out.size),_,_,true,rfl,HT.out,Or.inl ⟨rfl,HC.out⟩⟩
  · have HNO:Hid (Bn.noText s.data.toList):=Bn.noText_num (fun n hn hp=>hnum ⟨n,hn,hp⟩)
    have D24:Hid (Calls Tryz.prog 133 #[.string s] w fun e w'=>e=.returned (.tuple #[.int .u64 0,.int .i64 0,.int .i64 11])∧Below w.heap.size w w'):=C24.out.mono (fun e w' ⟨h1,h2⟩=>by
      refine ⟨?_,h2⟩
      rcases h1 with ⟨n',hn',hp',e'⟩ | ⟨_,e'⟩
      · exact absurd ⟨n',hn',hp'⟩ hnum
      · exact e')
    clear C24 hs hnum
    go_enter Tryz.func135,Tryz.ntmps135
    go_wp2_with (first
      | (go_at_call 133;refine D24.out.mono ?_;rintro e w2 ⟨rfl,hb2⟩
         have B2:Hid (Below w.heap.size w w2):=hb2
         clear hb2))
    go_ret3
    exact ⟨B2.out,⟨#[]⟩,⟨#[]⟩,false,rfl,by decide,Or.inr ⟨rfl,HNO.out⟩⟩
end Go.Proofs.YtggnfejjcgbebaaGreatDoor
