/- Several texts, joined. -/
import Derived.Test.YtfhkaffakniioaaGreatDoorQ29M
import Derived.Lib.ParseIntBMem
import Derived.Lib.AppendIntMem
import Derived.Lib.ConvBytes
import Derived.Laws.Strings3
import Derived.Laws.Closers25
import Derived.Laws.Closers25b
set_option maxHeartbeats 32000000
set_option maxRecDepth 100000
namespace Go.Proofs.YtfhkaffakniioaaGreatDoor
open Go.RowKit Go.Sort
namespace Ps
theorem puint_c (q:Bs) (hq:q≠[]) (hl:q.length≤100000) (w:World):Calls Tryz.prog 146 #[.string (Lx.bs q),.int .i64 10,.int .i64 63] w fun e w'=>e=.returned (Lib.uintTupleM 179 9223372036854775807 (Lib.parseUintM 9223372036854775807 0 q))∧Below w.heap.size w w':=by
 obtain⟨t,ht⟩:∃t,t=Lx.bs q:=⟨_,rfl⟩
 have hsz:t.size=q.length:=by rw[ht,Lx.bs_size]
 have hne:t.size≠0:=by rw[hsz];exact fun e=>hq (List.length_eq_zero_iff.1 e)
 have hmax:t.size≤9223372036854775806:=by omega
 have hemp:t.toList.isEmpty=false:=by
  rw[←decide_eq_emptyBytes]
  exact decide_eq_false (fun h=>hne (by rw[h];rfl))
 have hcv:=Lib.run_convert_string_bytes (P:=Tryz.prog) w 9 71 5 t (u:=.string) Tryz.underlying9 Tryz.underlying71 Tryz.underlying5
 have hB:∀j,j<t.size→(Lib.bytesWorld w 5 t).cell? ⟨w.heap.size,j,none⟩=some (.int .u8 (t.data.toList.getD j 0).toNat):=fun j hj=>Lib.bytesWorld_cell w 5 t j hj
 have HBW:Hid (Below w.heap.size w (Lib.bytesWorld w 5 t)):=Lib.bytesWorld_below _ _ _
 obtain⟨W1,hW1⟩:∃W1,W1=Lib.bytesWorld w 5 t:=⟨_,rfl⟩
 have hqd:t.data.toList=q:=by rw[ht];exact Lx.bs_data q
 rw[←hW1] at hcv hB HBW
 rw[hqd] at hB
 rw[←ht]
 clear hW1 ht hqd hl
 have HL:Hid (q.length=t.size):=hsz.symm
 clear hsz hq
 have hmv:IntKind.u64.wrap (IntKind.u64.wrap 9223372036854775808 - 1)=9223372036854775807:=by
  rw[IntKind.wrap_u64,IntKind.wrap_u64]
  decide
 go_enter Tryz.func146,Tryz.ntmps146
 go_wp2
 go_loop [12,13,101] (fun vu vn vi=>∃(k acc:Nat) (a:Int),vu=.bool false∧vn=.int .u64 a∧vi=.int .i64 k∧k≤t.size∧Hid (a=(acc:Int)∧acc≤9223372036854775807∧Lib.parseUintM 9223372036854775807 0 q=Lib.parseUintM 9223372036854775807 acc (q.drop k)))
  (fun _ _ vi=>t.size - (intOf vi).toNat)
 case atStart=>exact⟨0,0,0,rfl,rfl,rfl,by omega,rfl,by omega,rfl⟩
 case round =>
  obtain⟨k,acc,a,rfl,rfl,rfl,hk,hh⟩:=hrel
  obtain⟨ha,hacc,hdec⟩:=hh.out
  clear hh
  have a0:0≤a:=by omega
  have a1:a≤9223372036854775807:=by omega
  by_cases hkn:k<t.size
  ·have hlen:=HL.out
   have hc:=hB k hkn
   obtain⟨c,hcq⟩:∃c,c=q[k]'(by omega):=⟨_,rfl⟩
   have hdrop:q.drop k=c :: q.drop (k+1):=by rw[hcq];exact List.drop_eq_getElem_cons (by omega)
   have hget:q.getD k 0=c:=by rw[hcq];simp[List.getD,List.getElem?_eq_getElem (show k<q.length by omega)]
   rw[hdrop] at hdec
   rw[hget] at hc
   have hc256:c.toNat<256:=c.toNat_lt
   clear hB hdrop hget hcq hlen
   by_cases hdig:48≤c.toNat∧c.toNat≤57
   ·obtain⟨hd0,hd1⟩:=hdig
    by_cases hcut:1844674407370955162≤acc
    ·have hF:Lib.parseUintM 9223372036854775807 acc (c :: q.drop (k+1))=.range:=by simp[Lib.parseUintM,hd0,hd1,hcut]
     rw[hF] at hdec
     have icut:1844674407370955162≤a:=by omega
     clear hcut hacc hF ha
     go_wp2
     go_ret2
     exact⟨by first | rfl | (rw[hdec];rfl),HBW.out⟩
    ·by_cases hov:9223372036854775807<acc*10+(c.toNat - 48)
     ·have hF:Lib.parseUintM 9223372036854775807 acc (c :: q.drop (k+1))=.range:=by simp[Lib.parseUintM,hd0,hd1,hcut,hov]
      rw[hF] at hdec
      have icut:a<1844674407370955162:=by omega
      by_cases hwrp:18446744073709551616≤acc*10+(c.toNat - 48)
      ·have iov:18446744073709551616≤a*10+((c.toNat:Int) - 48):=by omega
       have hwr:IntKind.u64.wrap (a*10+((c.toNat:Int) - 48))=a*10+((c.toNat:Int) - 48) - 18446744073709551616:=by
        rw[IntKind.wrap_u64]
        omega
       clear hcut hacc hF hov ha hwrp
       go_wp2
       go_ret2
       exact⟨by first | rfl | (rw[hdec];rfl),HBW.out⟩
      ·have iov:9223372036854775807<a*10+((c.toNat:Int) - 48):=by omega
       have iov2:a*10+((c.toNat:Int) - 48)<18446744073709551616:=by omega
       clear hcut hacc hF hov ha hwrp
       go_wp2
       go_ret2
       exact⟨by first | rfl | (rw[hdec];rfl),HBW.out⟩
     ·have hF:Lib.parseUintM 9223372036854775807 acc (c :: q.drop (k+1))=Lib.parseUintM 9223372036854775807 (acc*10+(c.toNat - 48)) (q.drop (k+1)):=by simp[Lib.parseUintM,hd0,hd1,hcut,hov]
      have HN:Hid (a*10+((c.toNat:Int) - 48)=((acc*10+(c.toNat - 48):Nat):Int)∧acc*10+(c.toNat - 48)≤9223372036854775807∧Lib.parseUintM 9223372036854775807 0 q=Lib.parseUintM 9223372036854775807 (acc*10+(c.toNat - 48)) (q.drop (k+1))):=Lib.hid ⟨by omega,by omega,hdec.trans hF⟩
      have icut:a<1844674407370955162:=by omega
      have iov:a*10+((c.toNat:Int) - 48)≤9223372036854775807:=by omega
      clear hcut hacc hF hov hdec ha
      go_wp2
      refine⟨⟨k+1,acc*10+(c.toNat - 48),a*10+((c.toNat:Int) - 48),rfl,(by first | rfl | (congr 1;omega)),(by first | rfl | (congr 1;omega)),by omega,HN⟩,by simp[intOf];omega⟩
   ·have hF:Lib.parseUintM 9223372036854775807 acc (c :: q.drop (k+1))=.syntax:=by simp[Lib.parseUintM,hdig]
    rw[hF] at hdec
    clear hacc hF ha
    have hv0:=bits_lo_u8 .or (c.toNat:Int) 32
    have hv1:=bits_hi_u8 .or (c.toNat:Int) 32
    have hu0:=bits_lo_u8 .or 95 32
    have hu1:=bits_hi_u8 .or 95 32
    go_wp2_with (go_at_call 170;refine(Tryz.internal_strconv_lower _ _).mono ?_;rintro e w' ⟨rfl,rfl⟩)
    all_goals go_ret2
    all_goals exact⟨by first | rfl | (rw[hdec];rfl),HBW.out⟩
  ·have hkk:k=t.size:=by omega
   subst hkk
   have hF:Lib.parseUintM 9223372036854775807 acc (q.drop t.size)=.ok acc:=by rw[List.drop_eq_nil_of_le (by have:=HL.out;omega)];rfl
   rw[hF] at hdec
   subst ha
   clear hacc hF a0 a1
   go_wp2
   go_ret2
   exact⟨by first | rfl | (rw[hdec];rfl),HBW.out⟩
theorem ppu_c (q:Bs) (hl:q.length≤100000) (w:World) (hL:HasL w):Calls Tryz.prog 117 #[.string (Lx.bs q),.int .i64 10,.int .i64 63] w fun e w'=>Hid (match Lib.parseUintB 63 q with
  | .ok u=>e=.returned (.tuple #[.int .u64 u,.nilIface])
  | _=>∃r T p,e=.returned (.tuple #[.int .u64 r,.iface T p]))∧Below w.heap.size w w':=by
 have CI:Hid (Calls Tryz.prog 146 #[.string (Lx.bs q),.int .i64 10,.int .i64 63] w fun e w'=>e=.returned (Lib.uintTupleM 179 9223372036854775807 (Lib.parseUintB 63 q))∧Below w.heap.size w w'):=by
  by_cases h0:q=[]
  ·subst h0
   refine(Tryz.internal_strconv_ParseUint_empty 10 63 w).mono ?_
   rintro e w' ⟨rfl,rfl⟩
   exact⟨rfl,Below.refl _ _⟩
  ·have e0:Lib.parseUintB 63 q=Lib.parseUintM 9223372036854775807 0 q:=by rw[Lib.parseUintB,if_neg h0]
   rw[e0]
   exact puint_c q h0 hl w
 have hlim:(Lx.bs q).size≤281474976710656:=by rw[Lx.bs_size];omega
 have HL:=hidp hL
 obtain⟨t,ht⟩:∃t,t=Lx.bs q:=⟨_,rfl⟩
 rw[←ht] at CI hlim ⊢
 have HT:Hid (t.size≤281474976710656):=hlim
 clear ht hlim hL hl
 cases hp:Lib.parseUintB 63 q with
 | ok u =>
  rw[hp] at CI
  replace CI:Hid (Calls Tryz.prog 146 #[.string t,.int .i64 10,.int .i64 63] w fun e w'=>e=.returned (.tuple #[.int .u64 u,.nilIface])∧Below w.heap.size w w'):=CI
  clear hp
  go_enter Tryz.func117,Tryz.ntmps117
  go_wp2_with fail
  refine(CI.out).mono ?_
  rintro e w1 ⟨rfl,hb1⟩
  have B1:=hidp hb1
  clear hb1 CI
  go_wp2
  go_ret2
  exact⟨rfl,B1.out⟩
 | «syntax» =>
  rw[hp] at CI
  replace CI:Hid (Calls Tryz.prog 146 #[.string t,.int .i64 10,.int .i64 63] w fun e w'=>e=.returned (.tuple #[.int .u64 0,.iface 179 (.int .i64 2)])∧Below w.heap.size w w'):=CI
  clear hp
  go_enter Tryz.func117,Tryz.ntmps117
  go_wp2_with fail
  refine(CI.out).mono ?_
  rintro e w1 ⟨rfl,hb1⟩
  have B1:=hidp hb1
  have CE:Hid (Calls Tryz.prog 147 #[.string ⟨#[80,97,114,115,101,85,105,110,116]⟩,.string t,.int .i64 10,.int .i64 63,.iface 179 (.int .i64 2)] w1 fun e w'=>∃T p,e=.returned (.iface T p)∧Below w1.heap.size w1 w'):=by
   obtain⟨ev,hv,hev⟩:=(HL.out.stays hb1).syn
   refine(Tryz.strconv_toError_syntax ⟨#[80,97,114,115,101,85,105,110,116]⟩ t 10 63 ev w1 HT.out hv hev).mono ?_
   rintro e w' ⟨N,rfl,_,_,hb⟩
   exact⟨_,_,rfl,hb⟩
  clear hb1 CI
  go_wp2_with fail
  refine(CE.out).mono ?_
  rintro e w2 ⟨T,p,rfl,hb2⟩
  have B2:Hid (Below w.heap.size w w2):=B1.out.trans (hb2.mono B1.out.size)
  clear hb2 CE
  go_wp2
  go_ret2
  exact⟨⟨_,T,p,rfl⟩,B2.out⟩
 | range =>
  rw[hp] at CI
  replace CI:Hid (Calls Tryz.prog 146 #[.string t,.int .i64 10,.int .i64 63] w fun e w'=>e=.returned (.tuple #[.int .u64 9223372036854775807,.iface 179 (.int .i64 1)])∧Below w.heap.size w w'):=CI
  clear hp
  go_enter Tryz.func117,Tryz.ntmps117
  go_wp2_with fail
  refine(CI.out).mono ?_
  rintro e w1 ⟨rfl,hb1⟩
  have B1:=hidp hb1
  have CE:Hid (Calls Tryz.prog 147 #[.string ⟨#[80,97,114,115,101,85,105,110,116]⟩,.string t,.int .i64 10,.int .i64 63,.iface 179 (.int .i64 1)] w1 fun e w'=>∃T p,e=.returned (.iface T p)∧Below w1.heap.size w1 w'):=by
   obtain⟨ev,hv,hev⟩:=(HL.out.stays hb1).rng
   refine(Tryz.strconv_toError_range ⟨#[80,97,114,115,101,85,105,110,116]⟩ t 10 63 ev w1 HT.out hv hev).mono ?_
   rintro e w' ⟨N,rfl,_,_,hb⟩
   exact⟨_,_,rfl,hb⟩
  clear hb1 CI
  go_wp2_with fail
  refine(CE.out).mono ?_
  rintro e w2 ⟨T,p,rfl,hb2⟩
  have B2:Hid (Below w.heap.size w w2):=B1.out.trans (hb2.mono B1.out.size)
  clear hb2 CE
  go_wp2
  go_ret2
  exact⟨⟨_,T,p,rfl⟩,B2.out⟩
theorem fuint_c (u:Nat) (hu:u<18446744073709551616) (w:World) (hL:HasL w):Calls Tryz.prog 148 #[.int .u64 u,.int .i64 10] w fun e w'=>e=.returned (.string (Lx.bs (Lib.decDigits u)))∧Below w.heap.size w w':=by
 by_cases hs:u<100
 ·have q0:(u:Int)<100:=by omega
  have CS:Hid (Calls Tryz.prog 140 #[.int .i64 u] w fun e w'=>e=.returned (.string (Lx.bs (Lib.decDigits u)))∧w'=w):=Tryz.internal_strconv_small u hs w
  clear hL hs
  go_enter Tryz.func148,Tryz.ntmps148
  go_wp2_with fail
  refine(CS.out).mono ?_
  rintro e w1 ⟨rfl,rfl⟩
  go_wp2
  go_ret
  exact⟨rfl,Below.refl _ _⟩
 ·have hu1:1≤u:=by omega
  have hnd20:Lib.nDigits u≤20:=Lib.nDigits_le20 u hu
  obtain⟨w1,hw1⟩:∃w1,w1=w.alloc (.cells #[.int .u8 0,.int .u8 0,.int .u8 0,.int .u8 0,.int .u8 0,.int .u8 0,.int .u8 0,.int .u8 0,.int .u8 0,.int .u8 0,.int .u8 0,.int .u8 0,.int .u8 0,.int .u8 0,.int .u8 0,.int .u8 0,.int .u8 0,.int .u8 0,.int .u8 0,.int .u8 0,.int .u8 0,.int .u8 0,.int .u8 0,.int .u8 0] 154):=⟨_,rfl⟩
  obtain⟨g,hg⟩:∃g,g=w.heap.size:=⟨_,rfl⟩
  have hH0:=Lib.holds_zero0 w 154 (Lib.nDigits u) (by omega)
  have hfmt:=Tryz.internal_strconv_formatBase10 w.heap.size 0 24 u (Array.replicate (Lib.nDigits u) 0) (w.alloc (.cells Lib.zeros24 154)) hH0 (by rw[Array.size_replicate];exact Lib.lt_pow_nDigits u) hu (by rw[Array.size_replicate];omega)
  rw[Array.size_replicate] at hfmt
  obtain⟨n,hn⟩:∃n,n=Lib.nDigits u:=⟨_,rfl⟩
  have HB:Hid (Below w.heap.size w w1):=by rw[hw1];exact bnew _ _
  have CN:Hid (Calls Tryz.prog 141 #[.int .u64 u] w1 fun e w'=>e=.returned (.int .i64 (n:Int))∧w'=w1):=by
   rw[hn]
   exact Tryz.internal_strconv_numDigits u hu1 hu w1 (hL.stays HB.out).pow
  have CF:Hid (Calls Tryz.prog 142 #[.slice (some ⟨g,0,none⟩) n 24,.int .u64 u] w1 fun e w'=>e=.returned (.tuple #[])∧Below w.heap.size w w'∧∀j (hj:j<(Lib.decDigits u).length),w'.cell? ⟨g,j,none⟩=some (.int .u8 ((Lib.decDigits u)[j].toNat:Int))):=by
   rw[hn,hg,hw1]
   show Calls Tryz.prog _ _ (w.alloc (.cells Lib.zeros24 154)) _
   refine hfmt.mono ?_
   rintro e w' ⟨rfl,k,v',dk,rfl,hF⟩
   refine⟨rfl,?_,fun j hj=>?_⟩
   ·obtain⟨os,eo⟩:=Lib.fin_at w (.cells Lib.zeros24 154) dk k 0
    rw[eo]
    exact Lib.below_grow _ _ (Nat.le_refl _) _ _
   ·rw[Lib.row_is_numeral hF j hj,World.cell?_drewN]
    have:=cell?_putRow (fun(b:UInt8)=>Value.int .u8 (b.toNat:Int)) (w.alloc (.cells Lib.zeros24 154)) w.heap.size 0 _ dk hH0 (by rw[hF.size,Array.size_replicate]) j (by rw[hF.size];rw[Lib.decDigits_length] at hj;exact hj)
    rw[Nat.zero_add] at this
    exact this
  have hal:Tryz.prog.arrayLen 154=24:=by kernel_rfl
  have q0:¬(u:Int)<100:=by omega
  have HN:Hid (n=(Lib.decDigits u).length):=by show _=_;rw[hn,Lib.decDigits_length]
  have hsl:∀W,(Instr.sliceAt 154 (.pointer (some ⟨g,0,none⟩)) none (some (.int .i64 (n:Int))) none).run Tryz.prog W=.ok (.slice (some ⟨g,0,none⟩) n 24) W:=fun W=>by
   rw[run_sliceAt_array_h W 154 ⟨g,0,none⟩ (by kernel_rfl) .i64 (n:Int) (by omega) (by rw[hal];omega)]
   go_simp
  clear hH0 hfmt hal hnd20 hL hn hs
  go_enter Tryz.func148,Tryz.ntmps148
  go_upto_region 5 with fail
  rw[←hw1,←hg]
  clear hw1 hg
  go_wp2_with fail
  refine(CN.out).mono ?_
  rintro e w' ⟨rfl,rfl⟩
  go_wp2_with fail
  refine(CF.out).mono ?_
  rintro e w3 ⟨rfl,hb3,hc3⟩
  have X3:Hid (Below w.heap.size w w3):=hb3
  have hcv:(convert 71 9 (.slice (some ⟨g,0,none⟩) n 24)).run Tryz.prog w3=.ok (.string (Lx.bs (Lib.decDigits u))) w3:=by
   have h:=run_convert_bytes_back (P:=Tryz.prog) w3 71 9 5 ⟨g,0,none⟩ 24 (Lib.decDigits u) Tryz.underlying71 Tryz.underlying5 Tryz.underlying9 (fun j hj=>by
    rw[Lib.add_plain,Nat.zero_add]
    exact hc3 j hj)
   rw[←HN.out] at h
   exact h
  clear hb3 hc3 CF CN
  go_wp2
  go_ret
  exact⟨rfl,X3.out⟩
theorem isNumber_c (q:Bs) (hl:q.length≤100000) (w:World) (hL:HasL w):Calls Tryz.prog 86 #[.string (Lx.bs q)] w fun e w'=>e=.returned (.bool (isNb q))∧Below w.heap.size w w':=by
 have CP:=hidp (ppu_c q hl w hL)
 have HL:=hidp hL
 have HI:=hidp (isNb_lib q)
 obtain⟨t,ht⟩:∃t,t=Lx.bs q:=⟨_,rfl⟩
 rw[←ht] at CP ⊢
 have HT:=hidp ht
 clear hL hl
 cases hp:Lib.parseUintB 63 q with
 | ok u =>
  rw[hp] at CP HI
  have hu:u<18446744073709551616:=by
   have:=Lib.parseUintB_le hp
   omega
  have CF:Hid (∀W,Below w.heap.size w W→Calls Tryz.prog 148 #[.int .u64 u,.int .i64 10] W fun e w'=>e=.returned (.string (Lx.bs (Lib.decDigits u)))∧Below W.heap.size W w'):=fun W hW=>fuint_c u hu W (HL.out.stays hW)
  have CG:Hid (∀W,Below w.heap.size w W→Calls Tryz.prog 118 #[.int .u64 u,.int .i64 10] W fun e w'=>e=.returned (.string (Lx.bs (Lib.decDigits u)))∧Below W.heap.size W w'):=fun W hW=>by
   have CF2:=hidp (CF.out W hW)
   obtain⟨d,hd⟩:∃d,d=Lx.bs (Lib.decDigits u):=⟨_,rfl⟩
   rw[←hd] at CF2 ⊢
   clear CF CP HI hW hu hd hp HT ht
   go_enter Tryz.func118,Tryz.ntmps118
   go_wp2_with fail
   refine(CF2.out).mono ?_
   rintro e w1 ⟨rfl,hb1⟩
   have B1:=hidp hb1
   clear hb1 CF2
   go_wp2
   go_ret
   exact⟨rfl,B1.out⟩
  obtain⟨d,hd⟩:∃d,d=Lx.bs (Lib.decDigits u):=⟨_,rfl⟩
  rw[←hd] at CG
  obtain⟨b,hb⟩:∃b,b=isNb q:=⟨_,rfl⟩
  have HB:Hid ((d.toList==t.toList)=b):=by
   show _=_
   rw[hd,ht,Lx.bs_toList,Lx.bs_toList,hb]
   by_cases e:Lib.decDigits u=q
   ·rw[HI.out.2 ⟨u,rfl,e⟩,e];simp
   ·have:isNb q=false:=by
     rw[←Bool.not_eq_true]
     intro z
     obtain⟨u',q1,q2⟩:=HI.out.1 z
     cases q1
     exact e q2
    rw[this]
    simpa using e
  rw[←hb]
  clear CF hp hd hb ht hu HT HI
  obtain bq:=HB.out
  go_enter Tryz.func86,Tryz.ntmps86
  go_wp2_with fail
  refine(CP.out).mono ?_
  rintro e w1 ⟨h1,hb1⟩
  have h1':e=.returned (.tuple #[.int .u64 u,.nilIface]):=h1.out
  subst h1'
  have CG1:=hidp (CG.out w1 hb1)
  have B1:=hidp hb1
  clear hb1 CP CG h1
  go_wp2_with fail
  refine(CG1.out).mono ?_
  rintro e w2 ⟨rfl,hb2⟩
  have B2:Hid (Below w.heap.size w w2):=B1.out.trans (hb2.mono B1.out.size)
  clear hb2 CG1
  go_wp2
  go_ret
  exact⟨by first | rfl | rw[bq],B2.out⟩
 | «syntax» =>
  rw[hp] at CP HI
  have HB:Hid (isNb q=false):=by
   show _=_
   rw[←Bool.not_eq_true]
   intro z
   obtain⟨u',q1,_⟩:=HI.out.1 z
   cases q1
  clear hp ht HT HI
  go_enter Tryz.func86,Tryz.ntmps86
  go_wp2_with fail
  refine(CP.out).mono ?_
  rintro e w1 ⟨h1,hb1⟩
  have h1':∃r T p,e=.returned (.tuple #[.int .u64 r,.iface T p]):=h1.out
  obtain⟨r,T,p,rfl⟩:=h1'
  have B1:=hidp hb1
  clear hb1 CP h1
  go_wp2
  go_ret
  exact⟨by rw[HB.out];rfl,B1.out⟩
 | range =>
  rw[hp] at CP HI
  have HB:Hid (isNb q=false):=by
   show _=_
   rw[←Bool.not_eq_true]
   intro z
   obtain⟨u',q1,_⟩:=HI.out.1 z
   cases q1
  clear hp ht HT HI
  go_enter Tryz.func86,Tryz.ntmps86
  go_wp2_with fail
  refine(CP.out).mono ?_
  rintro e w1 ⟨h1,hb1⟩
  have h1':∃r T p,e=.returned (.tuple #[.int .u64 r,.iface T p]):=h1.out
  obtain⟨r,T,p,rfl⟩:=h1'
  have B1:=hidp hb1
  clear hb1 CP h1
  go_wp2
  go_ret
  exact⟨by rw[HB.out];rfl,B1.out⟩
theorem num_c:NumC:=fun q w h hL=>isNumber_c q (by omega) w hL
end Ps
end Go.Proofs.YtfhkaffakniioaaGreatDoor
