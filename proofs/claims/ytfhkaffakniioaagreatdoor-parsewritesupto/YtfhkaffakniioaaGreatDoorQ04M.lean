/- Several texts, joined. -/
import Derived.Test.YtfhkaffakniioaaGreatDoorQ03M
import Derived.Lib.ParseIntBTie
import Derived.Lib.SmallJoins
set_option maxHeartbeats 4000000
set_option maxRecDepth 100000
namespace Go.Proofs.YtfhkaffakniioaaGreatDoor
open Go.RowKit
theorem Lx.below_drewN (w:World):∀k,Below w.heap.size w (w.drewN k)
 | 0=>Below.refl _ _
 | k+1=>(Lx.below_drewN w k).drew
theorem Lx.below_grow {w W:World} (h:Below w.heap.size w W) (os:Array Obj):Below w.heap.size w (Go.Sort.grow W os):=by
 refine⟨h.os,h.tape,h.output,?_,fun k hk=>?_⟩
 ·have:=h.size
  simp only[Go.Sort.grow,Array.size_append]
  omega
 ·have h1:k<W.heap.size:=Nat.lt_of_lt_of_le hk h.size
  have e:(Go.Sort.grow W os).heap[k]?=W.heap[k]?:=by
   simp only[Go.Sort.grow]
   rw[Array.getElem?_append_left h1]
  exact e.trans (h.block k hk)
theorem parseOk_c (s:ByteArray) (hs:s.size≤16384) (v:Int) (h:Lib.parseIntB 64 s.data.toList=.ok v) (w:World):Calls Tryz.prog 127 #[.string s,.int .i64 10,.int .i64 64] w fun e w'=>e=.returned (.tuple #[.int .i64 v,.nilIface])∧Below w.heap.size w w':=by
 refine(Tryz.strconv_ParseInt_10_at64_ok s (by omega) v h w).mono ?_
 rintro e w' ⟨rfl,h1⟩
 refine⟨rfl,?_⟩
 rcases h1 with rfl | ⟨t,rfl⟩
 ·exact Below.refl _ _
 ·exact Go.Joins.below_bytesWorld _ _ _ _ (Nat.le_refl _)
theorem format_c (v:Int) (h0:-9223372036854775808≤v) (h1:v≤9223372036854775807) (w:World) (hL:HasL w):Calls Tryz.prog 80 #[.int .i64 v,.int .i64 10] w fun e w'=>e=.returned (.string (Lx.bs (Lib.itoa v)))∧Below w.heap.size w w':=by
 refine(Tryz.strconv_FormatInt_10 v h0 h1 w hL.pow).mono ?_
 rintro e w' ⟨rfl,k,os,rfl⟩
 exact⟨rfl,Lx.below_grow (Lx.below_drewN w k) os⟩
theorem Lx.str_ne {a b:Lx.Bs} (h:a≠b):((Lx.bs a).toList==(Lx.bs b).toList)=false:=by
 rw[Lx.bs_toList,Lx.bs_toList,beq_eq_false_iff_ne]
 exact h
theorem Lx.str_eq {a b:Lx.Bs} (h:a=b):((Lx.bs a).toList==(Lx.bs b).toList)=true:=by
 rw[h];exact beq_self_eq_true _
theorem take_len {l:Lx.Bs}:(l.take (Lx.wsz l)).length=Lx.wsz l:=by rw[List.length_take];have:=Lx.wsz_le l;omega
theorem readWord_c (l:Lx.Bs) (hl:l.length≤16384) (w:World):Calls Tryz.prog 92 #[.string (Lx.bs l)] w fun e w'=>e=Lx.gave (Lx.word l)∧Below w.heap.size w w':=by
 obtain⟨w1,hw1⟩:∃w1,w1=w.alloc (.cells #[.int .u8 0,.string ⟨#[]⟩,.int .i64 0,.int .i64 0] 92):=⟨_,rfl⟩
 have X1:Hid (T4 w w1):=by rw[hw1];exact T4.start w
 obtain⟨s,hs⟩:∃s,s=Lx.bs l:=⟨_,rfl⟩
 obtain⟨z,hz⟩:∃z,z=Lx.wsz l:=⟨_,rfl⟩
 obtain⟨d,hd⟩:∃d,d=Lx.bs (l.take z):=⟨_,rfl⟩
 have hle:=Lx.wsz_le l
 have hzl:z≤16384:=by omega
 have hdl:(l.take z).length=z:=by rw[hz];exact take_len
 have hsl:∀wx,(Instr.slice 9 (.string s) none (some (.int .i64 (z:Int))) none).run Tryz.prog wx=.ok (.string d) wx:=fun wx=>by rw[hs,hd];exact Lx.slice_to l (z:Int) z rfl (by omega) wx
 have CW:Hid (Calls Tryz.prog 124 #[.string s] w1 fun e w'=>e=.returned (.int .i64 (z:Int))∧w'=w1):=by
  have h:=wordSize_c s (by rw[hs,Lx.bs_size];unfold maxLen;omega) w1
  rw[hs,Lx.bs_data,←hz,←hs] at h
  exact h
 obtain⟨k,hk⟩:∃k,k=Lx.isKey (l.take z):=⟨_,rfl⟩
 have CK:Hid (Calls Tryz.prog 125 #[.string d] w1 fun e w'=>e=.returned (.bool k)∧Below w1.heap.size w1 w'):=by
  have h:=keyword_c d w1
  rw[hd,Lx.bs_data,←hk,←hd] at h
  exact h
 obtain⟨g,hg⟩:∃g,g=Lx.bs (Lx.great (l.take z)):=⟨_,rfl⟩
 have CG:Hid (∀W,Calls Tryz.prog 126 #[.string d] W fun e w'=>e=.returned (.string g)∧Below W.heap.size W w'):=fun W=>by
  have h:=great_c d (by rw[hd,Lx.bs_size,hdl];exact hzl) W
  rw[hd,Lx.bs_data,←hd] at h
  rw[hg]
  exact h
 have CC:Hid (∀W,Calls Tryz.prog 26 #[.string d] W fun e w'=>e=.returned (.string d)∧Below W.heap.size W w'):=fun W=>sclone_c d (by rw[hd,Lx.bs_size,hdl];omega) W
 have hds:(d.size:Int)=(z:Int):=by rw[hd,Lx.bs_size,hdl]
 have HR:Hid (Lx.word l=if k then ⟨0,2,Lx.great (l.take z),0,z⟩ else if 64<z then Lx.no 13 else ⟨0,1,l.take z,0,z⟩):=by show _=_;rw[Lx.word,←hz,←hk]
 have HG:Hid (g=Lx.bs (Lx.great (l.take z))):=hg
 have HD:Hid (d=Lx.bs (l.take z)):=hd
 rw[←hs]
 clear hs hz hd hk hg hle hdl hl
 go_enter Tryz.func92,Tryz.ntmps92
 go_upto_region 1 with fail
 rw[←hw1]
 clear hw1
 go_wp2_with fail
 refine CW.out.mono ?_
 rintro e w2 ⟨rfl,rfl⟩
 go_wp2_with fail
 refine CK.out.mono ?_
 rintro e w3 ⟨rfl,hb3⟩
 have X3:Hid (T4 w w3):=X1.out.call hb3
 clear hb3 X1 CK CW
 cases k with
 | true =>
  go_wp2_with fail
  refine(CG.out _).mono ?_
  rintro e w4 ⟨rfl,hb4⟩
  have X4:Hid (T4 w w4):=X3.out.call hb4
  obtain⟨p0,p1,p2,p3,fz⟩:=X4.out.cells
  clear hb4
  go_wp2
  rw[HR.out,HG.out,if_pos trivial]
  exact zaZ (r:=⟨0,2,Lx.great (l.take z),0,z⟩) rfl X4.out rfl rfl rfl
 | false =>
  by_cases h64:64<z
  ·have q1:(64:Int)<(d.size:Int):=by omega
   obtain⟨p0,p1,p2,p3,fz⟩:=X3.out.cells
   go_wp2
   rw[HR.out,if_neg (by decide),if_pos h64]
   exact zaZ (r:=Lx.no 13) rfl X3.out rfl rfl rfl
  ·have q1:¬(64:Int)<(d.size:Int):=by omega
   go_wp2_with fail
   refine(CC.out _).mono ?_
   rintro e w4 ⟨rfl,hb4⟩
   have X4:Hid (T4 w w4):=X3.out.call hb4
   obtain⟨p0,p1,p2,p3,fz⟩:=X4.out.cells
   clear hb4
   go_wp2
   rw[HR.out,HD.out,if_neg (by decide),if_neg h64]
   exact zaZ (r:=⟨0,1,l.take z,0,z⟩) rfl X4.out rfl rfl rfl
theorem readSign_c (x:UInt8) (r:Lx.Bs) (hl:(x :: r).length≤16384) (w:World):Calls Tryz.prog 100 #[.string (Lx.bs (x :: r))] w fun e w'=>e=Lx.gave (Lx.sign (x :: r))∧Below w.heap.size w w':=by
 obtain⟨w1,hw1⟩:∃w1,w1=w.alloc (.cells #[.int .u8 0,.string ⟨#[]⟩,.int .i64 0,.int .i64 0] 92):=⟨_,rfl⟩
 have X1:Hid (T4 w w1):=by rw[hw1];exact T4.start w
 obtain⟨s,hs⟩:∃s,s=Lx.bs (x :: r):=⟨_,rfl⟩
 obtain⟨z,hz⟩:∃z,z=Lx.sgn (x :: r):=⟨_,rfl⟩
 obtain⟨d,hd⟩:∃d,d=Lx.bs ((x :: r).take z):=⟨_,rfl⟩
 have hle:z≤(x :: r).length:=by
  rw[hz,Lx.sgn]
  cases r with
  | nil=>simp[Lx.pre2];split<;>omega
  | cons y r=>simp;split<;>(try split)<;>omega
 have hdl:((x :: r).take z).length=z:=by rw[List.length_take];omega
 have hsl:∀wx,(Instr.slice 9 (.string s) none (some (.int .i64 (z:Int))) none).run Tryz.prog wx=.ok (.string d) wx:=fun wx=>by rw[hs,hd];exact Lx.slice_to (x :: r) (z:Int) z rfl hle wx
 have CW:Hid (Calls Tryz.prog 99 #[.string s] w1 fun e w'=>e=.returned (.int .i64 (z:Int))∧w'=w1):=by rw[hs,hz];exact signSize_c x r w1
 have CC:Hid (∀W,Calls Tryz.prog 26 #[.string d] W fun e w'=>e=.returned (.string d)∧Below W.heap.size W w'):=fun W=>sclone_c d (by rw[hd,Lx.bs_size,hdl];omega) W
 have HR:Hid (Lx.sign (x :: r)=⟨0,5,(x :: r).take z,0,z⟩):=by show _=_;rw[Lx.sign,←hz]
 have HD:Hid (d=Lx.bs ((x :: r).take z)):=hd
 rw[←hs]
 clear hs hz hd hle hdl hl
 go_enter Tryz.func100,Tryz.ntmps100
 go_upto_region 1 with fail
 rw[←hw1]
 clear hw1
 go_wp2_with fail
 refine CW.out.mono ?_
 rintro e w2 ⟨rfl,rfl⟩
 go_wp2_with fail
 refine(CC.out _).mono ?_
 rintro e w4 ⟨rfl,hb4⟩
 have X4:Hid (T4 w w4):=X1.out.call hb4
 obtain⟨p0,p1,p2,p3,fz⟩:=X4.out.cells
 clear hb4
 go_wp2
 rw[HR.out,HD.out]
 exact zaZ (r:=⟨0,5,(x :: r).take z,0,z⟩) rfl X4.out rfl rfl rfl
theorem readNumber_c (l:Lx.Bs) (hl:l.length≤16384) (w:World) (hL:HasL w):Calls Tryz.prog 95 #[.string (Lx.bs l)] w fun e w'=>e=Lx.gave (Lx.numb l)∧Below w.heap.size w w':=by
 obtain⟨w1,hw1⟩:∃w1,w1=w.alloc (.cells #[.int .u8 0,.string ⟨#[]⟩,.int .i64 0,.int .i64 0] 92):=⟨_,rfl⟩
 have X1:Hid (T4 w w1):=by rw[hw1];exact T4.start w
 have HL:Hid (∀W,Below w.heap.size w W→HasL W):=fun W hW=>hL.stays hW
 obtain⟨s,hs⟩:∃s,s=Lx.bs l:=⟨_,rfl⟩
 obtain⟨z,hz⟩:∃z,z=Lx.wsz l:=⟨_,rfl⟩
 obtain⟨d,hd⟩:∃d,d=Lx.bs (l.take z):=⟨_,rfl⟩
 have hle:=Lx.wsz_le l
 have hdl:(l.take z).length=z:=by rw[hz];exact take_len
 have hsl:∀wx,(Instr.slice 9 (.string s) none (some (.int .i64 (z:Int))) none).run Tryz.prog wx=.ok (.string d) wx:=fun wx=>by rw[hs,hd];exact Lx.slice_to l (z:Int) z rfl (by omega) wx
 have CW:Hid (Calls Tryz.prog 124 #[.string s] w1 fun e w'=>e=.returned (.int .i64 (z:Int))∧w'=w1):=by
  have h:=wordSize_c s (by rw[hs,Lx.bs_size];unfold maxLen;omega) w1
  rw[hs,Lx.bs_data,←hz,←hs] at h
  exact h
 have hds:(d.size:Int)=(z:Int):=by rw[hd,Lx.bs_size,hdl]
 have hdn:d.size≤16384:=by omega
 have HD:Hid (d=Lx.bs (l.take z)):=hd
 have HDL:Hid (d.data.toList=l.take z):=by show _=_;rw[hd,Lx.bs_data]
 have HR:Hid (Lx.numb l=match Lx.numOf (l.take z) with
  | some v=>⟨0,3,[],v,z⟩
  | none=>Lx.no 13):=by show _=_;rw[Lx.numb,←hz];cases Lx.numOf (l.take z)<;>rfl
 rw[←hs]
 clear hs hz hd hle hdl hl hL
 go_enter Tryz.func95,Tryz.ntmps95
 go_upto_region 1 with fail
 rw[←hw1]
 clear hw1
 go_wp2_with fail
 refine CW.out.mono ?_
 rintro e w2 ⟨rfl,rfl⟩
 clear CW
 cases hp:Lib.parseIntB 64 (l.take z) with
 | ok v =>
  have CP:Hid (Calls Tryz.prog 127 #[.string d,.int .i64 10,.int .i64 64] w2 fun e w'=>e=.returned (.tuple #[.int .i64 v,.nilIface])∧Below w2.heap.size w2 w'):=parseOk_c d hdn v (by rw[HDL.out];exact hp) w2
  have hb:=Lib.parseIntB_bounds hp
  obtain⟨f,hf⟩:∃f,f=Lx.bs (Lib.itoa v):=⟨_,rfl⟩
  have CF:Hid (∀W,Below w.heap.size w W→Calls Tryz.prog 80 #[.int .i64 v,.int .i64 10] W fun e w'=>e=.returned (.string f)∧Below W.heap.size W w'):=fun W hW=>by
   rw[hf]
   exact format_c v (by have:=hb.1;simp at this;omega) (by have:=hb.2;simp at this;omega) W (HL.out W hW)
  have HN:Hid (Lx.numOf (l.take z)=if Lib.itoa v=l.take z then some v else none):=by show _=_;rw[Lx.numOf,hp]
  clear hb hp
  go_wp2_with fail
  refine CP.out.mono ?_
  rintro e w3 ⟨rfl,hb3⟩
  have X3:Hid (T4 w w3):=X1.out.call hb3
  clear hb3 CP X1
  by_cases he:Lib.itoa v=l.take z
  ·have q1:(f.toList==d.toList)=true:=by rw[hf,HD.out];exact Lx.str_eq he
   clear hf
   go_wp2_with fail
   refine(CF.out _ X3.out.1).mono ?_
   rintro e w4 ⟨rfl,hb4⟩
   have X4:Hid (T4 w w4):=X3.out.call hb4
   obtain⟨p0,p1,p2,p3,fz⟩:=X4.out.cells
   clear hb4
   go_wp2
   rw[HR.out,HN.out,if_pos he]
   exact zaZ (r:=⟨0,3,[],v,z⟩) rfl X4.out rfl rfl rfl
  ·have q1:(f.toList==d.toList)=false:=by rw[hf,HD.out];exact Lx.str_ne he
   clear hf
   go_wp2_with fail
   refine(CF.out _ X3.out.1).mono ?_
   rintro e w4 ⟨rfl,hb4⟩
   have X4:Hid (T4 w w4):=X3.out.call hb4
   obtain⟨p0,p1,p2,p3,fz⟩:=X4.out.cells
   clear hb4
   go_wp2
   rw[HR.out,HN.out,if_neg he]
   exact zaZ (r:=Lx.no 13) rfl X4.out rfl rfl rfl
 | «syntax» =>
  have HN:Hid (Lx.numOf (l.take z)=none):=by show _=_;rw[Lx.numOf,hp]
  obtain⟨ev,hev,hev2⟩:=(HL.out _ X1.out.1).syn
  have CP:Hid (Calls Tryz.prog 127 #[.string d,.int .i64 10,.int .i64 64] w2 fun e w'=>∃N,e=.returned (.tuple #[.int .i64 0,.iface 181 (.pointer (some ⟨N,0,none⟩))])∧Below w2.heap.size w2 w'):=by
   refine(Tryz.strconv_ParseInt_10_at64_syntax d (by omega) (by rw[HDL.out];exact hp) ev w2 hev hev2).mono ?_
   rintro e w' ⟨N,h1,_,_,h4⟩
   exact⟨N,h1,h4⟩
  clear hp hev hev2
  go_wp2_with fail
  refine CP.out.mono ?_
  rintro e w3 ⟨N,rfl,hb3⟩
  have X3:Hid (T4 w w3):=X1.out.call hb3
  obtain⟨p0,p1,p2,p3,fz⟩:=X3.out.cells
  clear hb3
  go_wp2
  rw[HR.out,HN.out]
  exact zaZ (r:=Lx.no 13) rfl X3.out rfl rfl rfl
 | range =>
  have HN:Hid (Lx.numOf (l.take z)=none):=by show _=_;rw[Lx.numOf,hp]
  obtain⟨ev,hev,hev2⟩:=(HL.out _ X1.out.1).rng
  have CP:Hid (Calls Tryz.prog 127 #[.string d,.int .i64 10,.int .i64 64] w2 fun e w'=>∃N,e=.returned (.tuple #[.int .i64 (Lib.intSat 64 d.data.toList),.iface 181 (.pointer (some ⟨N,0,none⟩))])∧Below w2.heap.size w2 w'):=by
   refine(Tryz.strconv_ParseInt_10_at64_range d (by omega) (by rw[HDL.out];exact hp) ev w2 hev hev2).mono ?_
   rintro e w' ⟨N,h1,_,_,h4⟩
   exact⟨N,h1,h4⟩
  clear hp hev hev2
  go_wp2_with fail
  refine CP.out.mono ?_
  rintro e w3 ⟨N,rfl,hb3⟩
  obtain⟨sat,hsat⟩:∃sat,sat=Lib.intSat 64 d.data.toList:=⟨_,rfl⟩
  rw[←hsat]
  clear hsat
  have X3:Hid (T4 w w3):=X1.out.call hb3
  obtain⟨p0,p1,p2,p3,fz⟩:=X3.out.cells
  clear hb3
  go_wp2
  rw[HR.out,HN.out]
  exact zaZ (r:=Lx.no 13) rfl X3.out rfl rfl rfl
end Go.Proofs.YtfhkaffakniioaaGreatDoor
namespace Go.Proofs.YtfhkaffakniioaaGreatDoor
open Go.RowKit
namespace Lx
inductive Part (r:Bs):Bs→Nat→Prop
 | none:Part r [] 0
 | plain {t:Bs} {i:Nat} {b:UInt8} (h:Part r t i) (hb:r[i]?=some b) (hn:b≠39):Part r (t++[b]) (i+1)
 | twice {t:Bs} {i:Nat} (h:Part r t i) (h1:r[i]?=some 39) (h2:r[i+1]?=some 39):Part r (t++[39]) (i+2)
theorem drop_at {r:Bs} {i:Nat} {b:UInt8} (h:r[i]?=some b):r.drop i=b :: r.drop (i+1):=by
 obtain⟨hi,e⟩:=List.getElem?_eq_some_iff.1 h
 rw[List.drop_eq_getElem_cons hi,e]
theorem quo_plain {b:UInt8} {r:Bs} (h:b≠39):quo (b :: r)=(quo r).map fun x=>(b :: x.1,x.2+1):=by
 conv=>lhs;rw[quo.eq_def]
 split
 ·rename_i e;cases e
 ·rename_i e;cases e;exact absurd rfl h
 ·rename_i e;cases e;exact absurd rfl h
 ·rename_i e;cases e;rfl
theorem quo_twice {r:Bs}:quo (39 :: 39 :: r)=(quo r).map fun x=>(39 :: x.1,x.2+2):=by rw[quo]
theorem quo_end {r:Bs} (h:∀b,r[0]?=some b→b≠39):quo (39 :: r)=some ([],1):=by
 cases r with
 | nil=>rfl
 | cons b r =>
  have:=h b rfl
  rw[quo.eq_def]
  split
  ·rename_i e;cases e
  ·rename_i e;cases e;exact absurd rfl this
  ·rfl
  ·rename_i e;cases e;exact absurd rfl (by assumption)
theorem Part.quo {r t:Bs} {i:Nat} (h:Part r t i):quo r=(quo (r.drop i)).map fun x=>(t++x.1,x.2+i):=by
 induction h with
 | none=>simp
 | plain h hb hn ih =>
  rw[ih,drop_at hb,quo_plain hn,Option.map_map]
  congr 1
  funext x
  simp
  omega
 | twice h h1 h2 ih =>
  rw[ih,drop_at h1,drop_at h2,quo_twice,Option.map_map]
  congr 1
  funext x
  simp
  omega
theorem Part.len {r t:Bs} {i:Nat} (h:Part r t i):t.length≤i∧i≤r.length:=by
 induction h with
 | none=>simp
 | plain h hb hn ih=>have:=(List.getElem?_eq_some_iff.1 hb).1;simp;omega
 | twice h h1 h2 ih=>have:=(List.getElem?_eq_some_iff.1 h2).1;simp;omega
end Lx
structure RT (w W:World) (t:Lx.Bs):Prop where
 t4:T4 w W
 bld:Lib.IsBuilder 73 5 (w.heap.size+1) (w.heap.size+1) (Lib.byteCells t) W
theorem T4.low {w W W':World} {B:Nat} (h:T4 w W) (hB:w.heap.size<B) (hb:Below B W W'):T4 w W':=⟨h.1.trans (hb.mono (by omega)),(hb.block _ hB).trans h.2⟩
theorem RT.size {w W:World} {t:Lx.Bs} (h:RT w W t):w.heap.size+1≤W.heap.size:=(Array.getElem?_eq_some_iff.1 h.t4.2).1
theorem RT.more {w W W':World} {t:Lx.Bs} {b:UInt8} (h:RT w W t) (h1:Lib.BuilderAt 73 5 (w.heap.size+1) (w.heap.size+1) (.pointer (some ⟨w.heap.size+1,0,none⟩)) (Lib.byteCells t++[.int .u8 (b.toNat:Int)]) W') (hb:Below (w.heap.size+1) W W'):RT w W' (t++[b]):=by
 refine⟨h.t4.low (by omega) hb,.inr ?_⟩
 have e:Lib.byteCells (t++[b])=Lib.byteCells t++[.int .u8 (b.toNat:Int)]:=by simp[Lib.byteCells]
 rw[e]
 exact h1
theorem RT.start (w:World):RT w ((w.alloc (.cells #[.int .u8 0,.string ⟨#[]⟩,.int .i64 0,.int .i64 0] 92)).alloc (.cells #[.pointer none,.slice none 0 0] 73)) []:=by
 obtain⟨w1,hw1⟩:∃w1,w1=w.alloc (.cells #[.int .u8 0,.string ⟨#[]⟩,.int .i64 0,.int .i64 0] 92):=⟨_,rfl⟩
 have h1:T4 w w1:=by rw[hw1];exact T4.start w
 have hs:w1.heap.size=w.heap.size+1:=by rw[hw1];simp
 rw[←hw1]
 refine⟨h1.call ((Below.refl _ _).alloc (Nat.le_refl _) _),.inl ⟨Nat.le_refl _,.slice none 0 0,?_,World.ownsRow_nil _ _ _ _,by simp[Value.ownBlock]⟩⟩
 rw[←hs]
 exact heap_alloc_new w1 _
theorem readText_c (r:Lx.Bs) (hl:r.length<16384) (w:World) (hL:HasL w):Calls Tryz.prog 97 #[.string (Lx.bs (39 :: r))] w fun e w'=>e=Lx.gave (Lx.text (39 :: r))∧Below w.heap.size w w':=by
 obtain⟨w1,hw1⟩:∃w1,w1=(w.alloc (.cells #[.int .u8 0,.string ⟨#[]⟩,.int .i64 0,.int .i64 0] 92)).alloc (.cells #[.pointer none,.slice none 0 0] 73):=⟨_,rfl⟩
 have X1:Hid (RT w w1 []):=by rw[hw1];exact RT.start w
 have HL:Hid (∀W,Below w.heap.size w W→HasL W):=fun W hW=>hL.stays hW
 obtain⟨s,hs⟩:∃s,s=Lx.bs (39 :: r):=⟨_,rfl⟩
 obtain⟨n,hn⟩:∃n:Int,n=(r.length:Int)+1:=⟨_,rfl⟩
 have hsz:(s.size:Int)=n:=by rw[hs,Lx.bs_size,hn];simp
 have HN:Hid (n=(r.length:Int)+1):=hn
 have HIX:Hid (∀(k:Nat) (b:UInt8),r[k]?=some b→∀(j:Int),j=(k:Int)+1→∀wx,(Instr.index 9 (.string s) (.int .i64 j)).run Tryz.prog wx=.ok (.int .u8 ((b.toNat:Nat):Int)) wx):=fun k b hb j hj wx=>by
  rw[hs]
  exact Lx.index_at (39 :: r) j (k+1) b (by omega) (by simpa using hb) wx
 have CW:Hid (∀(t:Lx.Bs) (b:UInt8) (W:World),t.length≤16384→RT w W t→Calls Tryz.prog 129 #[.pointer (some ⟨w.heap.size+1,0,none⟩),.int .u8 ((b.toNat:Nat):Int)] W fun e w'=>e=.returned .nilIface∧RT w w' (t++[b])):=fun t b W ht hW=>by
  refine(writeByte_c _ _ _ _ W hW.bld (by simp[Lib.byteCells];omega) hW.size).mono ?_
  rintro e w' ⟨rfl,h1,h2⟩
  exact⟨rfl,hW.more h1 h2⟩
 have CS:Hid (∀(t:Lx.Bs) (W:World),RT w W t→Calls Tryz.prog 45 #[.pointer (some ⟨w.heap.size+1,0,none⟩)] W fun e w'=>e=.returned (.string (Lx.bs t))∧T4 w w'):=fun t W hW=>by
  refine(Tryz.Builder_String_any (w.heap.size+1) (w.heap.size+1) t W hW.bld hW.size).mono ?_
  rintro e w' ⟨rfl,h2⟩
  exact⟨rfl,hW.t4.low (by omega) h2⟩
 have CT:Hid (∀(t:Lx.Bs) (n:Nat) (W:World),t.length≤16384→T4 w W→Calls Tryz.prog 128 #[.string (Lx.bs t),.int .i64 (n:Int)] W fun e w'=>e=Lx.gave (Lx.tok t n)∧T4 w w'):=fun t n W ht hW=>by
  refine(textToken_c t n ht W (HL.out W hW.1)).mono ?_
  rintro e w' ⟨rfl,h2⟩
  exact⟨rfl,hW.call h2⟩
 rw[←hs]
 clear hs hL hn
 go_enter Tryz.func97,Tryz.ntmps97
 go_upto_region 2 with fail
 rw[←hw1]
 clear hw1
 go_wp2
 go_loopw [6] (fun i wr=>∃(t:Lx.Bs) (k:Nat) (i1:Int),Lx.Part r t k∧i=.int .i64 i1∧i1=(k:Int)+1∧RT w wr t) (fun i _=>r.length+1 - (intOf i).toNat)
 case atStart=>exact⟨[],0,1,.none,rfl,rfl,X1.out⟩
 case round =>
  obtain⟨t,k,i1,hp,rfl,hi1,hS⟩:=hrel
  have HI1:Hid (i1=(k:Int)+1):=hi1
  have S:Hid (RT w wr t):=hS
  have HP:Hid (Lx.Part r t k):=hp
  have hlen:=hp.len
  clear hS hp X1 hi1
  have HTX:Hid ((r[k]?=some 39∧∀b,r[k+1]?=some b→b≠39)→Lx.text (39 :: r)=Lx.tok t (k+2)):=fun h=>by
   have e:Lx.quo r=some (t,1+k):=by
    rw[HP.out.quo,Lx.drop_at h.1,Lx.quo_end (fun b hb=>h.2 b (by simpa using hb))]
    simp
   show(match Lx.quo r with
    | some (t,n)=>Lx.tok t (n+1)
    | none=>Lx.no 13)=_
   rw[e]
   show Lx.tok t (1+k+1)=_
   rw[show 1+k+1=k+2 by omega]
  by_cases hlt:k<r.length
  ·have q0:i1<n:=by rw[HI1.out,HN.out];omega
   obtain⟨i2,hi2⟩:∃i2:Int,i2=(k:Int)+2:=⟨_,rfl⟩
   have HI2:Hid (i2=(k:Int)+2):=hi2
   clear hi2
   obtain⟨b,hb⟩:∃b,r[k]?=some b:=⟨_,List.getElem?_eq_getElem hlt⟩
   have hix:=HIX.out k b hb i1 HI1.out
   have HB:Hid (r[k]?=some b):=hb
   clear hb
   have hw1:wrap64 (i1+1)=i2:=by rw[HI1.out,HI2.out];unfold wrap64;omega
   by_cases hq:b=39
   ·subst hq
    have e39:((39:UInt8).toNat:Int)=39:=rfl
    rw[e39] at hix
    clear e39
    by_cases hend:k+1=r.length
    ·have q1:(i2==n)=true:=by rw[beq_iff_eq,HI2.out,HN.out];omega
     have HE:Hid (r[k]?=some 39∧∀b,r[k+1]?=some b→b≠39):=⟨HB.out,fun b hb=>by have:=(List.getElem?_eq_some_iff.1 hb).1;omega⟩
     clear hend
     obtain⟨R,hR⟩:∃R,R=Lx.tok t (k+2):=⟨_,rfl⟩
     have HR:Hid (Lx.text (39 :: r)=R):=by
      show _=_
      rw[hR]
      exact HTX.out HE.out
     have CTT:Hid (∀W,T4 w W→Calls Tryz.prog 128 #[.string (Lx.bs t),.int .i64 i2] W fun e w'=>e=Lx.gave R∧T4 w w'):=fun W hW=>by
      have h:=CT.out t (k+2) W (by omega) hW
      rw[show((k+2:Nat):Int)=i2 by rw[HI2.out];omega,←hR] at h
      exact h
     clear hR
     obtain⟨er,kd,tx,nn,sz⟩:=R
     go_wp2_with fail
     refine(CS.out t _ S.out).mono ?_
     rintro e w2 ⟨rfl,h2⟩
     have X2:Hid (T4 w w2):=h2
     clear h2
     go_wp2_with fail
     refine(CTT.out _ X2.out).mono ?_
     rintro e w3 ⟨rfl,h3⟩
     have X3:Hid (T4 w w3):=h3
     clear h3 X2
     obtain⟨p0,p1,p2,p3,fz⟩:=X3.out.cells
     simp only[Lx.gave,Lx.tc]
     go_wp2
     rw[HR.out]
     exact zaZ (r:=⟨er,kd,tx,nn,sz⟩) rfl X3.out rfl rfl rfl
    ·have q1:(i2==n)=false:=by rw[beq_eq_false_iff_ne,HI2.out,HN.out];omega
     obtain⟨b2,hb2⟩:∃b,r[k+1]?=some b:=⟨_,List.getElem?_eq_getElem (by omega)⟩
     have hix2:=HIX.out (k+1) b2 hb2 i2 (by rw[HI2.out];omega)
     have HB2:Hid (r[k+1]?=some b2):=hb2
     clear hb2
     by_cases hq2:b2=39
     ·subst hq2
      have e39:((39:UInt8).toNat:Int)=39:=rfl
      have hw2:wrap64 (i2+1)=(k:Int)+3:=by rw[HI2.out];unfold wrap64;omega
      have CWW:=CW.out t 39 wr (by omega) S.out
      rw[e39] at CWW hix2
      have CW2:Hid _:=CWW
      clear e39 CWW
      have q2:((39:Int) != 39)=false:=rfl
      go_wp2_with fail
      refine Calls.mono CW2.out ?_
      rintro e w2 ⟨rfl,h2⟩
      have S2:Hid (RT w w2 (t++[39])):=h2
      clear h2
      go_wp2
      rw[hw2]
      refine⟨⟨t++[39],k+2,(k:Int)+3,.twice HP.out HB.out HB2.out,rfl,by omega,S2.out⟩,?_⟩
      show r.length+1 - ((k:Int)+3).toNat<r.length+1 - i1.toNat
      rw[HI1.out]
      omega
     ·have hne:(b2.toNat:Int)≠39:=fun e=>hq2 (by apply UInt8.toNat_inj.1;show b2.toNat=39;omega)
      have q2:((b2.toNat:Int)==39)=false:=by rw[beq_eq_false_iff_ne];exact hne
      have q3:((b2.toNat:Int) != 39)=true:=by rw[bne,q2];rfl
      have HE:Hid (r[k]?=some 39∧∀b,r[k+1]?=some b→b≠39):=⟨HB.out,fun b hb=>by rw[HB2.out] at hb;cases hb;exact hq2⟩
      obtain⟨R,hR⟩:∃R,R=Lx.tok t (k+2):=⟨_,rfl⟩
      have HR:Hid (Lx.text (39 :: r)=R):=by
       show _=_
       rw[hR]
       exact HTX.out HE.out
      have CTT:Hid (∀W,T4 w W→Calls Tryz.prog 128 #[.string (Lx.bs t),.int .i64 i2] W fun e w'=>e=Lx.gave R∧T4 w w'):=fun W hW=>by
       have h:=CT.out t (k+2) W (by omega) hW
       rw[show((k+2:Nat):Int)=i2 by rw[HI2.out];omega,←hR] at h
       exact h
      clear hR
      obtain⟨er,kd,tx,nn,sz⟩:=R
      go_wp2_with fail
      refine(CS.out t _ S.out).mono ?_
      rintro e w2 ⟨rfl,h2⟩
      have X2:Hid (T4 w w2):=h2
      clear h2
      go_wp2_with fail
      refine(CTT.out _ X2.out).mono ?_
      rintro e w3 ⟨rfl,h3⟩
      have X3:Hid (T4 w w3):=h3
      clear h3 X2
      obtain⟨p0,p1,p2,p3,fz⟩:=X3.out.cells
      simp only[Lx.gave,Lx.tc]
      go_wp2
      rw[HR.out]
      exact zaZ (r:=⟨er,kd,tx,nn,sz⟩) rfl X3.out rfl rfl rfl
   ·have hne:(b.toNat:Int)≠39:=fun e=>hq (by apply UInt8.toNat_inj.1;show b.toNat=39;omega)
    have q2:((b.toNat:Int)==39)=false:=by rw[beq_eq_false_iff_ne];exact hne
    have CW2:Hid _:=CW.out t b wr (by omega) S.out
    go_wp2_with fail
    refine Calls.mono CW2.out ?_
    rintro e w2 ⟨rfl,h2⟩
    have S2:Hid (RT w w2 (t++[b])):=h2
    clear h2
    go_wp2
    rw[hw1]
    refine⟨⟨t++[b],k+1,i2,.plain HP.out HB.out hq,rfl,by rw[HI2.out];omega,S2.out⟩,?_⟩
    show r.length+1 - i2.toNat<r.length+1 - i1.toNat
    rw[HI1.out,HI2.out]
    omega
  ·have q0:¬i1<n:=by rw[HI1.out,HN.out];omega
   have HR:Hid (Lx.text (39 :: r)=Lx.no 13):=by
    have e:Lx.quo r=none:=by
     rw[HP.out.quo,List.drop_of_length_le (by omega)]
     rfl
    show(match Lx.quo r with
     | some (t,n)=>Lx.tok t (n+1)
     | none=>Lx.no 13)=_
    rw[e]
   obtain⟨p0,p1,p2,p3,fz⟩:=S.out.t4.cells
   go_wp2
   rw[HR.out]
   exact zaZ (r:=Lx.no 13) rfl S.out.t4 rfl rfl rfl
end Go.Proofs.YtfhkaffakniioaaGreatDoor
