/- Several texts, joined: JnCm, JnCa, JnCh -/
import Derived.Test.YtggnfejjcgbebaaGreatDoorQKM
import Derived.Test.YtggnfejjcgbebaaGreatDoorXEM
import Derived.Test.YtggnfejjcgbebaaGreatDoorJIM
import Derived.Test.YtggnfejjcgbebaaGreatDoorXGM
/- Blocks that are read out of bytes, once and again: plain mathematics. -/
namespace Go.Proofs.YtggnfejjcgbebaaGreatDoor
open Go.RowKit
open Vl (V)
namespace Jn
theorem cnt_unc (l:List UInt8) (h:l.length=4):cnt (unc l)=l:=by
  match l,h with
  | [a,b,c,d],_ =>
    have ha:=UInt8.toNat_lt a
    have hb:=UInt8.toNat_lt b
    have hc:=UInt8.toNat_lt c
    have hd:=UInt8.toNat_lt d
    have e:∀(k:Nat) (x:UInt8),low (unc [a,b,c,d]) k=x.toNat→UInt8.ofNat (low (unc [a,b,c,d]) k)=x:=fun k x hx=>by rw [hx];simp
    have u:unc [a,b,c,d]=a.toNat+256*(b.toNat+256*(c.toNat+256*(d.toNat+256*0))):=rfl
    rw [cnt,e 0 a (by rw [u,low];omega),e 1 b (by rw [u,low];omega),e 2 c (by rw [u,low];omega),e 3 d (by rw [u,low];omega)]
theorem ff_aux (S:ByteArray→ByteArray→ByteArray) {s t:ByteArray} (hsz:12+t.size≤s.size) (h:(if s.size<12 then none
  else if (min (s.size - 12) 16384)<unc (s.extract 0 4).data.toList then none
  else if S (s.extract 0 4) ((s.extract 12 s.size).extract 0 (unc (s.extract 0 4).data.toList))=s.extract 4 12 then some ((s.extract 12 s.size).extract 0 (unc (s.extract 0 4).data.toList))
  else none)=some t):s=((bs (cnt t.size)++S (bs (cnt t.size)) t)++t)++s.extract (12+t.size) s.size:=by
  by_cases h12:s.size<12
  · rw [if_pos h12] at h;cases h
  rw [if_neg h12] at h
  by_cases hmin:(min (s.size - 12) 16384)<unc (s.extract 0 4).data.toList
  · rw [if_pos hmin] at h;cases h
  rw [if_neg hmin] at h
  by_cases hseal:S (s.extract 0 4) ((s.extract 12 s.size).extract 0 (unc (s.extract 0 4).data.toList))=s.extract 4 12
  · rw [if_pos hseal] at h
    replace h:=Option.some.inj h
    obtain ⟨c,hc⟩:∃c,c=s.extract 0 4:=⟨_,rfl⟩
    rw [←hc] at h hseal hmin
    rw [h] at hseal
    have hcs:c.size=4:=by rw [hc,ByteArray.size_extract];omega
    have hcl:c.data.toList.length=4:=by rw [←Lib.size_eq];exact hcs
    have hts:t.size=unc c.data.toList:=by rw [←h,ByteArray.size_extract,ByteArray.size_extract];omega
    have hcc:bs (cnt t.size)=c:=ba_ext (by rw [hts,cnt_unc _ hcl])
    rw [hcc,hseal]
    refine ba_ext ?_
    have htl:t.data.toList=((s.data.toList.drop 12).take (s.size - 12)).take (t.size - 0):=by
      have h3:=congrArg (fun x:ByteArray=>x.data.toList) h
      simp only [ext_list] at h3
      rw [←h3,←hts,List.drop_zero]
    rw [app_list,app_list,app_list,hc,htl]
    simp only [ext_list]
    have hl:s.data.toList.length=s.size:=by rw [←Lib.size_eq]
    obtain ⟨l,hle⟩:∃l,l=s.data.toList:=⟨_,rfl⟩
    rw [←hle] at hl ⊢
    rw [List.drop_zero,List.take_take]
    have e1:l.drop (12+t.size)=(l.drop 12).drop t.size:=by rw [List.drop_drop]
    rw [e1,List.take_of_length_le (l:=(l.drop 12).drop t.size) (by rw [List.length_drop,List.length_drop];omega)]
    rw [show min (t.size - 0) (s.size - 12)=t.size by omega,List.append_assoc,List.append_assoc,List.take_append_drop]
    have e2:l.drop 4=(l.drop 4).take 8++(l.drop 4).drop 8:=(List.take_append_drop _ _).symm
    rw [List.drop_drop] at e2
    have e3:l=l.take 4++l.drop 4:=(List.take_append_drop _ _).symm
    rw [e2] at e3
    exact e3
  · rw [if_neg hseal] at h;cases h
theorem ff_back {s t:ByteArray} (h:ff s=some t):s=frameOf t++s.extract (12+t.size) s.size:=by
  have hsz:=ff_size h
  rw [ff] at h
  rw [frameOf]
  exact ff_aux sealOf hsz h
theorem snoc_inj {α:Type} {a b:List α} {x y:α} (h:a++[x]=b++[y]):a=b∧x=y:=by
  have:=List.append_inj' h rfl
  exact ⟨this.1,by simpa using this.2⟩
theorem Took.same {ts:List ByteArray} {bs:List B} (h:Took ts bs):∀{bs':List B},Took ts bs'→bs=bs':=by
  induction h with
  | none =>
    intro bs' h'
    have:=h'.len
    simp at this
    exact (List.eq_nil_of_length_eq_zero this.symm).symm
  | more h1 h2 h3 h4 h5 ih =>
    intro bs' h'
    generalize he:(_++[_]:List ByteArray)=l at h'
    cases h' with
    | none=>simp at he
    | more k1 k2 k3 k4 k5 =>
      obtain ⟨e1,e2⟩:=snoc_inj he
      subst e1
      rw [ih k1,btext_inj h2 k2 h3 k3 e2]
theorem Took.cut {ts:List ByteArray} {bs:List B} (h:Took ts bs):∀{pre:List ByteArray} {x:ByteArray},pre++[x] <+: ts→∃bs' b,Took pre bs'∧berr b=0∧rngB b∧btext b=x∧b.seq=bs'.length+1∧b.prev=prevOf bs':=by
  induction h with
  | none =>
    intro pre x hp
    have:=hp.length_le
    simp at this
  | more h1 h2 h3 h4 h5 ih =>
    intro pre x hp
    rcases List.prefix_concat_iff.1 hp with h | h
    · obtain ⟨e1,e2⟩:=snoc_inj h
      subst e1
      exact ⟨_,_,h1,h2,h3,e2.symm,h4,h5⟩
    · exact ih h
theorem again {ts ts2:List ByteArray} {bs bs2:List B} (h:Took ts bs) (h2:Took ts2 bs2) (hp:ts2 <+: ts) (he:ts2=ts∨∃x,ts2++[x] <+: ts∧Ends bs2 x):ts2=ts∧bs2=bs:=by
  rcases he with rfl | ⟨x,hx,hE⟩
  · exact ⟨rfl,h2.same h⟩
  · exfalso
    obtain ⟨bs',b,k1,k2,k3,k4,k5,k6⟩:=h.cut hx
    have e:=k1.same h2
    subst e
    exact hE b k2 k3 k4 k5 k6
theorem Took.at {ts:List ByteArray} {bs:List B} (h:Took ts bs):∀(i:Nat) (b:B),bs[i]?=some b→berr b=0∧rngB b∧b.seq=i+1∧b.prev=prevOf (bs.take i):=by
  induction h with
  | none=>intro i b hb;simp at hb
  | @more ts bs b0 h1 h2 h3 h4 h5 ih =>
    intro i b hb
    by_cases hi:i<bs.length
    · rw [List.getElem?_append_left hi] at hb
      obtain ⟨k1,k2,k3,k4⟩:=ih i b hb
      exact ⟨k1,k2,k3,by rw [k4,List.take_append_of_le_length (by omega)]⟩
    · rw [List.getElem?_append_right (by omega)] at hb
      have h0:i - bs.length=0:=by
        have:=(List.getElem?_eq_some_iff.1 hb).1
        simpa using this
      rw [h0] at hb
      simp only [List.getElem?_cons_zero,Option.some.injEq] at hb
      subst hb
      have hie:i=bs.length:=by omega
      subst hie
      exact ⟨h2,h3,h4,by rw [h5,List.take_left]⟩
end Jn
end Go.Proofs.YtggnfejjcgbebaaGreatDoor
/- Blocks in a row, as they are looked at; the document's SameAll of blocks that are the same. -/
namespace Go.Proofs.YtggnfejjcgbebaaGreatDoor
open Go.RowKit
open Vl (V)
attribute [local go_sem ↓] Go.wp_at_zero Go.wp_at_succ
structure BAt (W:World) (g j:Nat) (b:Jn.B) (sa:Option Addr) (sn sc:Nat) (ra:Option Addr) (rn rc:Nat):Prop where
  c0:W.cell? ⟨g,j*5,none⟩=some (.int .u64 (b.seq:Int))
  c1:W.cell? ⟨g,j*5+1,none⟩=some (.string b.prev)
  c2:W.cell? ⟨g,j*5+2,none⟩=some (.string b.root)
  c3:W.cell? ⟨g,j*5+3,none⟩=some (.slice sa sn sc)
  c4:W.cell? ⟨g,j*5+4,none⟩=some (.slice ra rn rc)
  bk:Bk W W.heap.size b sa sn sc ra rn rc
theorem BAt.call {W W':World} {g j:Nat} {b:Jn.B} {sa:Option Addr} {sn sc:Nat} {ra:Option Addr} {rn rc:Nat} (h:BAt W g j b sa sn sc ra rn rc) (hg:g<W.heap.size) (hb:Below W.heap.size W W'):BAt W' g j b sa sn sc ra rn rc :=
  ⟨(hb.cell (p:=⟨g,_,none⟩) hg).trans h.c0,(hb.cell (p:=⟨g,_,none⟩) hg).trans h.c1,(hb.cell (p:=⟨g,_,none⟩) hg).trans h.c2,(hb.cell (p:=⟨g,_,none⟩) hg).trans h.c3,(hb.cell (p:=⟨g,_,none⟩) hg).trans h.c4,h.bk.stays hb hb.size⟩
def BV (W:World) (v:Value) (bs:List Jn.B):Prop:=∃a c,v=.slice a bs.length c∧(0<bs.length→∃g,a=some ⟨g,0,none⟩∧g<W.heap.size∧∀j b,bs[j]?=some b→∃sa sn sc ra rn rc,BAt W g j b sa sn sc ra rn rc)
theorem BV.call {W W':World} {v:Value} {bs:List Jn.B} (h:BV W v bs) (hb:Below W.heap.size W W'):BV W' v bs:=by
  obtain ⟨a,c,e,h1⟩:=h
  refine ⟨a,c,e,fun hp=>?_⟩
  obtain ⟨g,e2,hg,hc⟩:=h1 hp
  refine ⟨g,e2,Nat.lt_of_lt_of_le hg hb.size,fun j b hj=>?_⟩
  obtain ⟨sa,sn,sc,ra,rn,rc,h2⟩:=hc j b hj
  exact ⟨sa,sn,sc,ra,rn,rc,h2.call hg hb⟩
theorem own_cellsJ {W:World} {B n size:Nat} {t:TypeId} {v:Value} {L:List Value} (hn:0<n) (h:W.ownsRow B t size v n L):∃g cap,v=.slice (some ⟨g,0,none⟩) n cap∧g<W.heap.size∧∀(j:Nat) (u:Value),L[j]?=some u→W.cell? ⟨g,j,none⟩=some u:=by
  have hL:=h.1
  rcases h.2 with ⟨_,h1⟩ | ⟨g,cap,cur,rfl,hb,hrow,_,_,_,htk⟩
  · omega
  · refine ⟨g,cap,rfl,(Array.getElem?_eq_some_iff.1 hrow).1,fun j u hu=>?_⟩
    rw [cell_of_row _ _ _ _ _ _ hrow]
    have hj:j<n*size:=by have:=(List.getElem?_eq_some_iff.1 hu).1;omega
    rw [←htk,List.getElem?_take_of_lt (by omega),Array.getElem?_toList] at hu
    exact hu
theorem BV.of {W:World} {n₀:Nat} {lv:Value} {bs:List Jn.B} (h:BlkRow W n₀ lv bs):BV W lv bs:=by
  obtain ⟨cs,ho,hl,hc⟩:=h
  obtain ⟨a,c,e⟩:=own_slc ho
  refine ⟨a,c,e,fun hp=>?_⟩
  obtain ⟨g,cap,e2,hg,hcell⟩:=own_cellsJ hp ho
  rw [e] at e2
  injection e2 with e2 _ _
  refine ⟨g,e2,hg,fun j b hj=>?_⟩
  obtain ⟨sv,rv,A,k1,k2,_⟩:=hc j b hj
  obtain ⟨sa,sc,es⟩:=own_slc k2.row3
  obtain ⟨cs4,k4,_⟩:=k2.row4
  obtain ⟨ra,rc,er⟩:=own_slc k4
  subst es er
  refine ⟨sa,_,sc,ra,_,rc,hcell _ _ (k1 0 _ rfl),hcell _ _ (k1 1 _ rfl),hcell _ _ (k1 2 _ rfl),hcell _ _ (k1 3 _ rfl),hcell _ _ (k1 4 _ rfl),k2.bkn.bk⟩
theorem arJ {j m:Nat} (h:j<m):m - (((j:Int)+1)).toNat<m - ((j:Int)).toNat:=by omega
set_option maxHeartbeats 8000000 in
set_option maxRecDepth 100000 in
theorem sameAll_c (bs:List Jn.B) (hn:bs.length≤140737488355328) (hst:∀b∈bs,b.sts.length≤1048576) (v1 v2:Value) (w:World) (h1:BV w v1 bs) (h2:BV w v2 bs):Calls Tryz.prog 23 #[v1,v2] w fun e w'=>e=.returned (.bool true)∧Below w.heap.size w w':=by
  have H1:Hid (∀W,Below w.heap.size w W→BV W v1 bs):=fun W hW=>h1.call hW
  have H2:Hid (∀W,Below w.heap.size w W→BV W v2 bs):=fun W hW=>h2.call hW
  obtain ⟨a1,c1,rfl,_⟩:=h1
  obtain ⟨a2,c2,rfl,_⟩:=h2
  obtain ⟨m,hm⟩:∃m,m=bs.length:=⟨_,rfl⟩
  have HM:Hid (m=bs.length):=hm
  have HST:Hid (∀b∈bs,b.sts.length≤1048576):=hst
  rw [←hm] at H1 H2 hn
  rw [←hm]
  clear hm hst
  have q0:((m:Int)==(m:Int))=true:=beq_self_eq_true _
  have q0b:((m:Int) != (m:Int))=false:=by rw [bne,q0];rfl
  go_enter Tryz.func23,Tryz.ntmps23
  go_wp2
  go_loopw [13] (fun i wr=>∃j:Nat,j≤m∧i=.int .i64 (j:Int)∧Below w.heap.size w wr) (fun i _=>m - (intOf i).toNat)
  case atStart=>exact ⟨0,Nat.zero_le _,rfl,Below.refl _ _⟩
  case round =>
    obtain ⟨j,hj,rfl,hbr⟩:=hrel
    have HB:Hid (Below w.heap.size w wr):=hbr
    clear hbr
    by_cases hlt:j<m
    · have q1:(j:Int)<(m:Int):=by omega
      obtain ⟨a1',c1',e1,k1⟩:=H1.out wr HB.out
      obtain ⟨a2',c2',e2,k2⟩:=H2.out wr HB.out
      rw [HM.out] at e1 e2
      injection e1 with e1 _ _
      injection e2 with e2 _ _
      subst e1 e2
      obtain ⟨g1,rfl,hg1,hc1⟩:=k1 (by rw [←HM.out];omega)
      obtain ⟨g2,rfl,hg2,hc2⟩:=k2 (by rw [←HM.out];omega)
      obtain ⟨b,hb⟩:∃b,bs[j]?=some b:=⟨_,List.getElem?_eq_getElem (by rw [←HM.out];exact hlt)⟩
      obtain ⟨sa,sn,sc,ra,rn,rc,B1⟩:=hc1 j b hb
      obtain ⟨sa',sn',sc',ra',rn',rc',B2⟩:=hc2 j b hb
      have hstb:=HST.out b (List.mem_of_getElem? hb)
      have HC1:Hid (∀p:BelowOf wr.heap.size wr,BAt p.W g1 j b sa sn sc ra rn rc):=fun p=>B1.call hg1 p.h
      have HC2:Hid (∀p:BelowOf wr.heap.size wr,BAt p.W g2 j b sa' sn' sc' ra' rn' rc'):=fun p=>B2.call hg2 p.h
      have CS:Hid (∀p:BelowOf wr.heap.size wr,Calls Tryz.prog 16 #[.agg #[.int .u64 (b.seq:Int),.string b.prev,.string b.root,.slice sa sn sc,.slice ra rn rc],.agg #[.int .u64 (b.seq:Int),.string b.prev,.string b.root,.slice sa' sn' sc',.slice ra' rn' rc']] p.W fun e w''=>e=.returned (.bool true)∧∃q:BelowOf wr.heap.size wr,w''=q.W):=fun p=>below_call p (Nat.le_refl _) (sameB_c b sa sn sc ra rn rc sa' sn' sc' ra' rn' rc' p.W hstb (HC1.out p).bk (HC2.out p).bk)
      have d0:=fun p=>(HC1.out p).c0
      have d1:=fun p=>(HC1.out p).c1
      have d2:=fun p=>(HC1.out p).c2
      have d3:=fun p=>(HC1.out p).c3
      have d4:=fun p=>(HC1.out p).c4
      have f0:=fun p=>(HC2.out p).c0
      have f1:=fun p=>(HC2.out p).c1
      have f2:=fun p=>(HC2.out p).c2
      have f3:=fun p=>(HC2.out p).c3
      have f4:=fun p=>(HC2.out p).c4
      clear hc1 hc2 hb B1 B2 hg1 hg2 hstb k1 k2
      go_upto_region 6 with fail
      refine wp_region_below wr.heap.size wr (Below.refl _ _) (by kernel_rfl) (by kernel_rfl) ?_
      repeat (go_big_quiet_step ((go_at_call 16;exact CS.out _)))
      refine wpQuiet_nil ?_
      intro _ hw'
      obtain ⟨pq,hw''⟩:=hw'
      subst hw''
      have HB2:Hid (Below w.heap.size w pq.W):=HB.out.trans (pq.h.mono HB.out.size)
      clear d0 d1 d2 d3 d4 f0 f1 f2 f3 f4 HC1 HC2 CS
      go_wp2
      go_roundw
      case rel=>first | exact ⟨j+1,Nat.succ_le_of_lt hlt,by go_num,HB2.out⟩ | ((repeat apply Exists.intro);exact ⟨⟨j+1,Nat.succ_le_of_lt hlt,by go_num,HB2.out⟩,rfl⟩)
      case measure =>
        simp only [intOf]
        exact arJ hlt
    · have q1:¬(j:Int)<(m:Int):=by omega
      have HF:=HB.out
      go_wp2
      go_ret
      exact ⟨rfl,HF⟩
end Go.Proofs.YtggnfejjcgbebaaGreatDoor
/- JournalChained, walked: what is read of any bytes is in a row. -/
namespace Go.Proofs.YtggnfejjcgbebaaGreatDoor
open Go.RowKit
open Vl (V)
attribute [local go_sem ↓] Go.wp_at_zero Go.wp_at_succ
structure TX (w0 W:World) (l:List (List UInt8)) (v:Value):Prop where
  below:Below w0.heap.size w0 W
  row:W.ownsRow w0.heap.size 9 1 v l.length (scs l)
theorem TX.call {w0 W W':World} {l:List (List UInt8)} {v:Value} (h:TX w0 W l v) (hb:Below W.heap.size W W'):TX w0 W' l v :=
  ⟨h.below.trans (hb.mono h.below.size),own_call h.row hb⟩
theorem TX.next {w0 W W1:World} {o:Obj} {l:List (List UInt8)} {v v':Value} {x:List UInt8} (h:TX w0 W l v) (hg:(W.alloc o).grownBy W1 v.ownBlock) (hn:W1.ownsRow w0.heap.size 9 1 v' (l.length+1) (scs l++[.string (bs x)])):TX w0 W1 (l++[x]) v':=by
  have hs:=h.below.size
  refine ⟨?_,?_⟩
  · exact (h.below.alloc (by omega) o).grown hg (by simp;omega) (fun k hk=>(own_in h.row k hk).1)
  · rw [List.length_append]
    have e:scs (l++[x])=scs l++[.string (bs x)]:=by simp [scs,encS]
    rw [e]
    exact hn
theorem Jn.rtext_size (r:Jn.R):(Jn.rtext r).size≤16384:=by
  rw [Jn.rtext]
  split
  · exact Jn.wtext_size _
  · exact Nat.zero_le _
theorem arW {k:Nat} (h:(k:Int)+1≤9223372036854775807):wrap64 ((k:Int)+1)=(k:Int)+1:=by unfold wrap64;omega
theorem hd_of {b:Jn.B} (h:Jn.berr b=0):hcells (if Jn.berr b=0 then Jn.headOf b else ⟨0,⟨#[]⟩,⟨#[]⟩,0,⟨#[]⟩⟩)=.agg #[.int .u64 (b.seq:Int),.string b.prev,.string b.root,.int .u64 (b.revs.length:Int),.string (Jn.headOf b).sts]:=by
  rw [if_pos h]
  rfl
end Go.Proofs.YtggnfejjcgbebaaGreatDoor
