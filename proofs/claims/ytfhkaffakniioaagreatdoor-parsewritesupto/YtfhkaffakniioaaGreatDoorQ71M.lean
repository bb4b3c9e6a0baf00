/- Several texts, joined. -/
import Derived.Test.YtfhkaffakniioaaGreatDoorQ70M
import Derived.Test.YtfhkaffakniioaaGreatDoorLxRuM
import Derived.Test.YtfhkaffakniioaaGreatDoorQ09M
import Derived.Laws.BytesArg
import Derived.Lib.SmallJoins
import Derived.Lib.SlBytesConst
set_option maxHeartbeats 4000000
set_option maxRecDepth 100000
namespace Go.Proofs.YtfhkaffakniioaaGreatDoor
open Go.RowKit
structure BO (w W:World) (out:Lx.Bs) (lv:Value):Prop where
 below:Below w.heap.size w W
 row:W.ownsRow w.heap.size 5 1 lv out.length (Lib.byteCells out)
theorem BO.next {w W W1:World} {o:Obj} {out:Lx.Bs} {lv lv':Value} {c:UInt8} (h:BO w W out lv) (hg:(W.alloc o).grownBy W1 lv.ownBlock) (hn:W1.ownsRow w.heap.size 5 1 lv' (out.length+1) (Lib.byteCells out++[.int .u8 (c.toNat:Int)])):BO w W1 (out++[c]) lv':=by
 have hs:=h.below.size
 refine⟨?_,?_⟩
 ·exact(h.below.alloc (by omega) o).grown hg (by simp;omega) (fun k hk=>(own_lt h.row k hk).1)
 ·rw[List.length_append]
  have e:Lib.byteCells (out++[c])=Lib.byteCells out++[.int .u8 (c.toNat:Int)]:=by simp[Lib.byteCells]
  rw[e]
  exact hn
theorem BO.text {w W:World} {out:Lx.Bs} {lv:Value} (h:BO w W out lv):(Go.convert 71 9 lv).run Tryz.prog W=.ok (.string (Lx.bs out)) W:=by
 rcases h.row.2 with ⟨e1,h'⟩ | ⟨g,cap,cur,rfl,_⟩
 ·have:out=[]:=List.eq_nil_of_length_eq_zero h'
  subst this
  rw[e1]
  exact run_convert_bytes_nil (P:=Tryz.prog) W 71 5 Tryz.underlying71 Tryz.underlying5 0 0 9 Tryz.underlying9
 ·refine run_convert_bytes_back W 71 9 5 ⟨g,0,none⟩ cap out Tryz.underlying71 Tryz.underlying5 Tryz.underlying9 (fun j hj=>?_)
  have e:(⟨g,0,none⟩:Addr).add j=⟨g,j,none⟩:=by rw[Addr.add_mid];simp
  rw[e,h.row.cellAt j (by omega)]
  simp[Lib.byteCells,hj]
namespace Lx
theorem quo_other {c:UInt8} (h:c≠39) (r:Bs):quo (c :: r)=(quo r).map fun x=>(c :: x.1,x.2+1):=by
 rw[quo.eq_def]
 split
 ·rename_i h1;cases h1
 ·rename_i h1;cases h1;exact absurd rfl h
 ·rename_i h1;cases h1;exact absurd rfl h
 ·rename_i h1;cases h1;rfl
def Qu (l:Bs) (k:Nat) (out:Bs):Prop:=quo (l.drop 1)=(quo (l.drop k)).map fun x=>(out++x.1,x.2+(k - 1))
theorem Qu.start (l:Bs):Qu l 1 []:=by
 show _=_
 cases quo (l.drop 1)<;>simp
theorem Qu.other {l out:Bs} {k:Nat} {c:UInt8} (h:Qu l k out) (hk:1≤k) (hc:l[k]?=some c) (h39:c≠39):Qu l (k+1) (out++[c]):=by
 show _=_
 rw[show quo (l.drop 1)=_ from h,drop_at hc,quo_other h39]
 cases quo (l.drop (k+1)) with
 | none=>rfl
 | some x=>simp;omega
theorem Qu.two {l out:Bs} {k:Nat} (h:Qu l k out) (hk:1≤k) (hc:l[k]?=some 39) (hd:l[k+1]?=some 39):Qu l (k+2) (out++[39]):=by
 show _=_
 rw[show quo (l.drop 1)=_ from h,drop_at hc,drop_at hd,quo]
 cases quo (l.drop (k+1+1)) with
 | none=>rfl
 | some x=>simp;omega
theorem Qu.fin {l out:Bs} {k:Nat} (h:Qu l k out) (hk:1≤k) (hc:l[k]?=some 39) (hd:l[k+1]?≠some 39):quo (l.drop 1)=some (out,k):=by
 rw[show quo (l.drop 1)=_ from h,drop_at hc,quo_end (fun b hb e=>hd (by rw[e] at hb;simpa using hb))]
 simp;omega
theorem Qu.none {l out:Bs} {k:Nat} (h:Qu l k out) (hk:l.length≤k):quo (l.drop 1)=none:=by
 rw[show quo (l.drop 1)=_ from h,List.drop_of_length_le hk,quo]
 rfl
def textGave:Option (Bs × Nat)→Ending
 | none=>.returned (.tuple #[.string ⟨#[]⟩,.int .i64 0])
 | some (t,n)=>.returned (.tuple #[.string (bs t),.int .i64 ((n+1:Nat):Int)])
theorem arQ {j m:Nat} (h:j<m) (hm:m≤140737488351232):wrap64 ((j:Int)+1)=((j+1:Nat):Int)∧wrap64 (((j+1:Nat):Int)+1)=((j+2:Nat):Int)∧IntKind.i64.wrap ((j:Int)+1)=((j+1:Nat):Int):=by
 refine⟨by unfold wrap64;omega,by unfold wrap64;omega,by rw[IntKind.wrap_i64];omega⟩
end Lx
theorem rtext_c (x:UInt8) (r:Lx.Bs) (hl:(x :: r).length≤16384) (w:World):Calls Tryz.prog 154 #[.string (Lx.bs (x :: r))] w fun e w'=>e=Lx.textGave (Lx.quo r)∧Below w.heap.size w w':=by
 obtain⟨l,hxl⟩:∃l,l=x :: r:=⟨_,rfl⟩
 obtain⟨s,hs⟩:∃s,s=Lx.bs l:=⟨_,rfl⟩
 obtain⟨n,hn⟩:∃n:Int,n=(l.length:Int):=⟨_,rfl⟩
 have hsz:(s.size:Int)=n:=by rw[hs,Lx.bs_size,hn]
 have HNL:Hid (n=(l.length:Int)):=hn
 have HIX:Hid (∀(k:Nat) (b:UInt8),l[k]?=some b→∀wx,(Instr.index 9 (.string s) (.int .i64 (k:Int))).run Tryz.prog wx=.ok (.int .u8 (b.toNat:Int)) wx):=fun k b hb wx=>by rw[hs];exact Lx.index_at l (k:Int) k b rfl hb wx
 have HR:Hid (Lx.quo r=Lx.quo (l.drop 1)∧1≤l.length):=⟨by rw[hxl];rfl,by rw[hxl];simp⟩
 rw[←hxl] at hl ⊢
 rw[←hs]
 clear hs hxl hn
 obtain⟨i0,hi,hz0,hz1,hz2⟩:=Go.info_parts zdQ
 go_enter Tryz.func154,Tryz.ntmps154
 go_wp2
 go_loopw [4,5] (fun o i wr=>∃(k:Nat) (out:Lx.Bs) (lv:Value),lv=o∧i=.int .i64 (k:Int)∧1≤k∧k≤l.length∧Lx.Qu l k out∧out.length<k∧BO w wr out lv) (fun _ i _=>l.length - (intOf i).toNat)
 case atStart=>exact⟨1,[],_,rfl,rfl,Nat.le_refl _,HR.out.2,Lx.Qu.start l,by decide,Below.refl _ _,World.ownsRow_nil _ _ _ _⟩
 case round =>
  obtain⟨k,out,lv,hlv,rfl,hk1,hk,hQ,hol,hB⟩:=hrel
  subst hlv
  have Q:Hid (Lx.Qu l k out):=hQ
  have B:Hid (BO w wr out lv):=hB
  clear hQ hB
  by_cases hlt:k<l.length
  ·have q0:(k:Int)<n:=by rw[HNL.out];omega
   obtain⟨a1,a2,a3⟩:=Lx.arQ hlt (by omega)
   obtain⟨c,hc⟩:∃c,l[k]?=some c:=⟨_,List.getElem?_eq_getElem hlt⟩
   have hix:=HIX.out k c hc
   have HC:Hid (l[k]?=some c):=hc
   obtain⟨m,hm⟩:∃m,m=out.length:=⟨_,rfl⟩
   have HOWN:Hid (wr.ownsRow w.heap.size 5 1 lv m (Lib.byteCells out)):=by rw[hm];exact B.out.row
   have fit63:Hid (m+1≤maxLen):=by show _≤_;unfold maxLen;omega
   have fit47:Hid ((m+1)*1≤140737488355328):=by show _≤_;omega
   have HSZ2:Hid (∀o,w.heap.size≤(wr.alloc o).heap.size):=fun o=>by have:=B.out.below.size;simp;omega
   have HNX:Hid (∀(b:UInt8) gg cap w5 o,(wr.alloc o).grownBy w5 lv.ownBlock→w5.ownsRow w.heap.size 5 1 (.slice (some ⟨gg,0,none⟩) (m+1) cap) (m+1) (Lib.byteCells out++[.int .u8 (b.toNat:Int)])→BO w w5 (out++[b]) (.slice (some ⟨gg,0,none⟩) (m+1) cap)):=by
    intro b gg cap w5 o hgr hno
    rw[hm] at hno ⊢
    exact B.out.next hgr hno
   clear hc hm
   by_cases h39:c=39
   ·have q1:((c.toNat:Int) != 39)=false:=by rw[h39];rfl
    rw[h39] at HC
    clear h39
    by_cases hd:l[k+1]?=some 39
    ·have hlt2:k+1<l.length:=(List.getElem?_eq_some_iff.1 hd).1
     have q2:(k:Int)+1<n:=by rw[HNL.out];omega
     have hix2:∀wx,(Instr.index 9 (.string s) (.int .i64 ((k:Int)+1))).run Tryz.prog wx=.ok (.int .u8 39) wx:=HIX.out (k+1) 39 hd
     have HQ2:Hid (Lx.Qu l (k+2) (out++[39])):=Q.out.two hk1 HC.out hd
     clear hd
     go_upto_region 9 with (first | (at_builtin;refine wpList_append_lies _ rfl _ _ 71 rfl w.heap.size 5 i0 _ 1 1 Tryz.underlying71 hi hz0 hz1 hz2 rfl (by decide) _ _ _ rfl (HOWN.out.alloc _) ⟨wr.heap.size,0,none⟩ 1 1 [.int .u8 39] rfl rfl (World.news_of_block (heap_alloc_new wr _)) (by intro u hu;simp at hu;subst hu;rfl) (by decide) fit63.out fit47.out (HSZ2.out _) _ rfl ?_;intro gg cap w5 hown5 hgrow hat hglt;have S5:Hid (BO w w5 (out++[39]) (.slice (some ⟨gg,0,none⟩) (m+1) cap)):=HNX.out 39 gg cap w5 _ hgrow hown5;clear hown5 hgrow hat hglt))
     go_wp2
     go_roundw
     case rel=>exact⟨k+2,out++[39],_,rfl,by go_num,by omega,by omega,HQ2.out,by simp;omega,S5.out⟩
     case measure=>simp[intOf];omega
    ·have HF:Hid (Lx.quo r=some (out,k)):=by show _=_;rw[HR.out.1];exact Q.out.fin hk1 HC.out hd
     have htx:=B.out.text
     have HB:=B.out.below
     by_cases hlt2:k+1<l.length
     ·have q2:(k:Int)+1<n:=by rw[HNL.out];omega
      obtain⟨d,hdd⟩:∃d,l[k+1]?=some d:=⟨_,List.getElem?_eq_getElem hlt2⟩
      have hix2:∀wx,(Instr.index 9 (.string s) (.int .i64 ((k:Int)+1))).run Tryz.prog wx=.ok (.int .u8 (d.toNat:Int)) wx:=HIX.out (k+1) d hdd
      have q3:((d.toNat:Int)==39)=false:=by
       rw[beq_eq_false_iff_ne]
       intro e
       refine hd ?_
       rw[hdd]
       have:d=39:=by rw[←UInt8.toNat_inj];show d.toNat=39;omega
       rw[this]
      clear hd hdd
      go_wp2
      refine bodyPost_ret (zaD rfl _ _) rfl ?_
      rw[HF.out]
      exact⟨rfl,HB⟩
     ·have q2:¬(k:Int)+1<n:=by rw[HNL.out];omega
      clear hd
      go_wp2
      refine bodyPost_ret (zaD rfl _ _) rfl ?_
      rw[HF.out]
      exact⟨rfl,HB⟩
   ·have q1:((c.toNat:Int) != 39)=true:=by
     have:c.toNat≠39:=fun e=>h39 (by rw[←UInt8.toNat_inj];exact e)
     simp;omega
    have HQ2:Hid (Lx.Qu l (k+1) (out++[c])):=Q.out.other hk1 HC.out h39
    clear h39
    go_upto_region 4 with (first | (at_builtin;refine wpList_append_lies _ rfl _ _ 71 rfl w.heap.size 5 i0 _ 1 1 Tryz.underlying71 hi hz0 hz1 hz2 rfl (by decide) _ _ _ rfl (HOWN.out.alloc _) ⟨wr.heap.size,0,none⟩ 1 1 [.int .u8 (c.toNat:Int)] rfl rfl (World.news_of_block (heap_alloc_new wr _)) (by intro u hu;simp at hu;subst hu;rfl) (by decide) fit63.out fit47.out (HSZ2.out _) _ rfl ?_;intro gg cap w5 hown5 hgrow hat hglt;have S5:Hid (BO w w5 (out++[c]) (.slice (some ⟨gg,0,none⟩) (m+1) cap)):=HNX.out c gg cap w5 _ hgrow hown5;clear hown5 hgrow hat hglt))
    go_wp2
    go_roundw
    case rel=>exact⟨k+1,out++[c],_,rfl,by go_num,by omega,by omega,HQ2.out,by simp;omega,S5.out⟩
    case measure=>simp[intOf];omega
  ·have q0:¬(k:Int)<n:=by rw[HNL.out];omega
   have HN:Hid (Lx.quo r=none):=by show _=_;rw[HR.out.1];exact Q.out.none (by omega)
   have HB:=B.out.below
   go_wp2
   refine bodyPost_ret (zaD rfl _ _) rfl ?_
   rw[HN.out]
   exact⟨rfl,HB⟩
end Go.Proofs.YtfhkaffakniioaaGreatDoor
namespace Go.Proofs.YtfhkaffakniioaaGreatDoor
open Go.RowKit
def SG (w W:World):Prop:=Below w.heap.size w W∧∀(j:Nat) (k:UInt8),Lx.signs[j]?=some k→W.cell? ⟨w.heap.size,j,none⟩=some (.int .u8 (k.toNat:Int))
theorem SG.start (w:World) (t:TypeId) (fr:Nat × Nat):SG w (w.alloc (.cells #[.int .u8 61,.int .u8 60,.int .u8 62,.int .u8 43,.int .u8 45,.int .u8 42,.int .u8 40,.int .u8 41,.int .u8 91,.int .u8 93,.int .u8 123,.int .u8 125,.int .u8 44,.int .u8 58,.int .u8 46] t fr)):=by
 refine⟨(Below.refl _ _).alloc (Nat.le_refl _) _,fun j k hk=>?_⟩
 rw[cell_of_row _ _ _ _ _ _ (heap_alloc_new w _)]
 have e:(#[.int .u8 61,.int .u8 60,.int .u8 62,.int .u8 43,.int .u8 45,.int .u8 42,.int .u8 40,.int .u8 41,.int .u8 91,.int .u8 93,.int .u8 123,.int .u8 125,.int .u8 44,.int .u8 58,.int .u8 46]:Array Value)=(Lx.signs.map fun k=>Value.int .u8 (k.toNat:Int)).toArray:=rfl
 rw[e]
 simp[hk]
namespace Lx
theorem rsgn_one (x:UInt8) (r:Bs) (h:(pre2 60 62 (x :: r) || pre2 60 61 (x :: r) || pre2 62 61 (x :: r))=false):sgn (x :: r)=if signs.contains x then 1 else 0:=by
 rw[sgn,if_neg (by rw[h];decide)]
theorem pre2_eq (a b x y:UInt8) (r:Bs):pre2 a b (x :: y :: r)=(([x,y]:Bs)==[a,b]):=by
 rw[pre2]
 simp
end Lx
theorem rsign_c (x:UInt8) (r:Lx.Bs) (w:World):Calls Tryz.prog 155 #[.string (Lx.bs (x :: r))] w fun e w'=>e=.returned (.string (Lx.bs ((x :: r).take (Lx.sgn (x :: r)))))∧Below w.heap.size w w':=by
 obtain⟨l,hxl⟩:∃l,l=x :: r:=⟨_,rfl⟩
 obtain⟨s,hs⟩:∃s,s=Lx.bs l:=⟨_,rfl⟩
 obtain⟨n,hn⟩:∃n:Int,n=(l.length:Int):=⟨_,rfl⟩
 have hsz:(s.size:Int)=n:=by rw[hs,Lx.bs_size,hn]
 have HX:Hid (l=x :: r∧n=(l.length:Int)):=⟨hxl,hn⟩
 have hx0:∀wx,(Instr.index 9 (.string s) (.int .i64 0)).run Tryz.prog wx=.ok (.int .u8 (x.toNat:Int)) wx:=fun wx=>by rw[hs];exact Lx.index_at l 0 0 x rfl (by rw[hxl];rfl) wx
 have hs1:∀wx,(Instr.slice 9 (.string s) none (some (.int .i64 1)) none).run Tryz.prog wx=.ok (.string (Lx.bs [x])) wx:=fun wx=>by
  have h:=Lx.slice_to l 1 1 rfl (by rw[hxl];simp) wx
  rw[hxl] at h
  rw[hs,hxl];exact h
 have HS2:Hid (∀(y:UInt8) (t:Lx.Bs),r=y :: t→∀wx,(Instr.slice 9 (.string s) none (some (.int .i64 2)) none).run Tryz.prog wx=.ok (.string (Lx.bs [x,y])) wx):=fun y t hr wx=>by
  have h:=Lx.slice_to l 2 2 rfl (by rw[hxl,hr];simp) wx
  rw[hxl,hr] at h
  rw[hs,hxl,hr];exact h
 rw[←hxl,←hs]
 clear hs hxl hn
 have kc:=fun(W:World) (C:Array Value) (m c:Nat)=>Lib.run_convert_bytes_const (P:=Tryz.prog) W 71 5 C m c Tryz.underlying71 Tryz.underlying5
 by_cases hm:(Lx.pre2 60 62 (x :: r) || Lx.pre2 60 61 (x :: r) || Lx.pre2 62 61 (x :: r))=true
 ·cases r with
  | nil=>exact absurd hm (by simp[Lx.pre2])
  | cons y t =>
   have hs2:=HS2.out y t rfl
   have HF:Hid (l.take (Lx.sgn l)=[x,y]):=by
    show _=_
    rw[HX.out.1,Lx.sgn,if_pos hm];rfl
   have q0:(1:Int)<n:=by rw[HX.out.2,HX.out.1];simp;omega
   rw[Lx.pre2_eq,Lx.pre2_eq,Lx.pre2_eq] at hm
   obtain⟨tb,htb⟩:∃tb,tb=Lx.bs [x,y]:=⟨_,rfl⟩
   have hl2:tb.toList=[x,y]:=by rw[htb,Lx.bs_toList]
   rw[←hl2] at hm
   rw[←htb] at hs2
   have HTB:Hid (tb=Lx.bs [x,y]):=htb
   clear htb hl2 kc hx0 hs1
   obtain⟨b1,h1⟩:∃b,b=(tb.toList==[60,62]):=⟨_,rfl⟩
   obtain⟨b2,h2⟩:∃b,b=(tb.toList==[60,61]):=⟨_,rfl⟩
   obtain⟨b3,h3⟩:∃b,b=(tb.toList==[62,61]):=⟨_,rfl⟩
   rw[←h1,←h2,←h3] at hm
   have k1:=h1.symm
   have k2:=h2.symm
   have k3:=h3.symm
   clear h1 h2 h3
   go_enter Tryz.func155,Tryz.ntmps155
   cases b1 with
   | true =>
    go_wp2
    go_ret
    exact⟨by rw[HF.out,←HTB.out];rfl,Below.refl _ _⟩
   | false =>
    cases b2 with
    | true =>
     go_wp2
     go_ret
     exact⟨by rw[HF.out,←HTB.out];rfl,Below.refl _ _⟩
    | false =>
     cases b3 with
     | true =>
      go_wp2
      go_ret
      exact⟨by rw[HF.out,←HTB.out];rfl,Below.refl _ _⟩
     | false=>cases hm
 ·have hm2:(Lx.pre2 60 62 (x :: r) || Lx.pre2 60 61 (x :: r) || Lx.pre2 62 61 (x :: r))=false:=by simpa using hm
  have HF:Hid (l.take (Lx.sgn l)=if Lx.signs.contains x then [x] else []):=by
   show _=_
   rw[HX.out.1,Lx.rsgn_one x r hm2]
   split<;>rfl
  clear hm
  obtain⟨w1,hw1⟩:∃w1,w1=w.alloc (.cells #[.int .u8 61,.int .u8 60,.int .u8 62,.int .u8 43,.int .u8 45,.int .u8 42,.int .u8 40,.int .u8 41,.int .u8 91,.int .u8 93,.int .u8 123,.int .u8 125,.int .u8 44,.int .u8 58,.int .u8 46] 5 (15,16)):=⟨_,rfl⟩
  have S1:Hid (SG w w1):=by rw[hw1];exact SG.start w 5 _
  have hc1:(convert 71 71 (.slice (some ⟨w.heap.size,0,none⟩) 15 15)).run Tryz.prog (w.alloc (.cells #[.int .u8 61,.int .u8 60,.int .u8 62,.int .u8 43,.int .u8 45,.int .u8 42,.int .u8 40,.int .u8 41,.int .u8 91,.int .u8 93,.int .u8 123,.int .u8 125,.int .u8 44,.int .u8 58,.int .u8 46] 5))=.ok (.slice (some ⟨w.heap.size,0,none⟩) 15 15) w1:=by rw[hw1];exact kc w _ 15 15
  clear hw1 kc
  go_enter Tryz.func155,Tryz.ntmps155
  cases r with
  | nil =>
   have q0:¬(1:Int)<n:=by rw[HX.out.2,HX.out.1];simp
   clear hm2
   go_upto_region 4 with fail
   go_loopw [28] (fun i wr=>∃j:Nat,j≤15∧i=.int .i64 (j:Int)∧wr=w1∧∀b∈Lx.signs.take j,b≠x) (fun i _=>15 - (intOf i).toNat)
   case atStart=>exact⟨0,Nat.zero_le _,rfl,rfl,fun b hb=>by simp at hb⟩
   case round =>
    obtain⟨j,hj,rfl,hwr,hno⟩:=hrel
    subst hwr
    have HNO:Hid (∀b∈Lx.signs.take j,b≠x):=hno
    have HB:=S1.out.1
    clear hno
    by_cases hlt:j<15
    ·have q1:(j:Int)<15:=by omega
     obtain⟨k,hk⟩:∃k,Lx.signs[j]?=some k:=⟨_,List.getElem?_eq_getElem (show j<Lx.signs.length from hlt)⟩
     have p0:=S1.out.2 j k hk
     have HK:Hid (Lx.signs[j]?=some k):=hk
     clear hk
     by_cases he:x=k
     ·have q2:((x.toNat:Int)==(k.toNat:Int))=true:=by rw[he];simp
      have HFF:Hid (l.take (Lx.sgn l)=[x]):=by
       show _=_
       rw[HF.out,if_pos]
       have:=List.mem_of_getElem? HK.out
       rw[he]
       simpa using this
      clear he
      go_wp2
      go_ret
      exact⟨by rw[HFF.out];rfl,HB⟩
     ·have q2:((x.toNat:Int)==(k.toNat:Int))=false:=by
       rw[beq_eq_false_iff_ne]
       intro e
       exact he (by rw[←UInt8.toNat_inj];omega)
      have HN:Hid (∀b∈Lx.signs.take (j+1),b≠x):=fun b hb=>by
       rw[List.take_add_one,HK.out] at hb
       rcases List.mem_append.1 hb with h | h
       ·exact HNO.out b h
       ·simp at h
        subst h
        exact fun e=>he e.symm
      clear he
      go_wp2
      go_roundw
      case rel=>first | exact⟨j+1,by omega,by go_num,rfl,HN.out⟩ | exact⟨j+1,by omega,by go_num,trivial,HN.out⟩
      case measure=>simp[intOf];omega
    ·have q1:¬(j:Int)<15:=by omega
     have HFF:Hid (l.take (Lx.sgn l)=[]):=by
      show _=_
      rw[HF.out,if_neg]
      intro h
      have h1:x∈Lx.signs:=by simpa using h
      refine HNO.out x ?_ rfl
      rw[List.take_of_length_le (show Lx.signs.length≤j by show 15≤j;omega)]
      exact h1
     go_wp2
     go_ret
     exact⟨by rw[HFF.out];rfl,HB⟩
  | cons y t =>
   have hs2:=HS2.out y t rfl
   have q0:(1:Int)<n:=by rw[HX.out.2,HX.out.1];simp;omega
   rw[Lx.pre2_eq,Lx.pre2_eq,Lx.pre2_eq] at hm2
   obtain⟨tb,htb⟩:∃tb,tb=Lx.bs [x,y]:=⟨_,rfl⟩
   have hl2:tb.toList=[x,y]:=by rw[htb,Lx.bs_toList]
   rw[←hl2] at hm2
   rw[←htb] at hs2
   obtain⟨hm3,k3⟩:=Bool.or_eq_false_iff.1 hm2
   obtain⟨k1,k2⟩:=Bool.or_eq_false_iff.1 hm3
   clear htb hl2 hm2 hm3
   go_upto_region 4 with fail
   go_loopw [28] (fun i wr=>∃j:Nat,j≤15∧i=.int .i64 (j:Int)∧wr=w1∧∀b∈Lx.signs.take j,b≠x) (fun i _=>15 - (intOf i).toNat)
   case atStart=>exact⟨0,Nat.zero_le _,rfl,rfl,fun b hb=>by simp at hb⟩
   case round =>
    obtain⟨j,hj,rfl,hwr,hno⟩:=hrel
    subst hwr
    have HNO:Hid (∀b∈Lx.signs.take j,b≠x):=hno
    have HB:=S1.out.1
    clear hno
    by_cases hlt:j<15
    ·have q1:(j:Int)<15:=by omega
     obtain⟨k,hk⟩:∃k,Lx.signs[j]?=some k:=⟨_,List.getElem?_eq_getElem (show j<Lx.signs.length from hlt)⟩
     have p0:=S1.out.2 j k hk
     have HK:Hid (Lx.signs[j]?=some k):=hk
     clear hk
     by_cases he:x=k
     ·have q2:((x.toNat:Int)==(k.toNat:Int))=true:=by rw[he];simp
      have HFF:Hid (l.take (Lx.sgn l)=[x]):=by
       show _=_
       rw[HF.out,if_pos]
       have:=List.mem_of_getElem? HK.out
       rw[he]
       simpa using this
      clear he
      go_wp2
      go_ret
      exact⟨by rw[HFF.out];rfl,HB⟩
     ·have q2:((x.toNat:Int)==(k.toNat:Int))=false:=by
       rw[beq_eq_false_iff_ne]
       intro e
       exact he (by rw[←UInt8.toNat_inj];omega)
      have HN:Hid (∀b∈Lx.signs.take (j+1),b≠x):=fun b hb=>by
       rw[List.take_add_one,HK.out] at hb
       rcases List.mem_append.1 hb with h | h
       ·exact HNO.out b h
       ·simp at h
        subst h
        exact fun e=>he e.symm
      clear he
      go_wp2
      go_roundw
      case rel=>first | exact⟨j+1,by omega,by go_num,rfl,HN.out⟩ | exact⟨j+1,by omega,by go_num,trivial,HN.out⟩
      case measure=>simp[intOf];omega
    ·have q1:¬(j:Int)<15:=by omega
     have HFF:Hid (l.take (Lx.sgn l)=[]):=by
      show _=_
      rw[HF.out,if_neg]
      intro h
      have h1:x∈Lx.signs:=by simpa using h
      refine HNO.out x ?_ rfl
      rw[List.take_of_length_le (show Lx.signs.length≤j by show 15≤j;omega)]
      exact h1
     go_wp2
     go_ret
     exact⟨by rw[HFF.out];rfl,HB⟩
end Go.Proofs.YtfhkaffakniioaaGreatDoor
