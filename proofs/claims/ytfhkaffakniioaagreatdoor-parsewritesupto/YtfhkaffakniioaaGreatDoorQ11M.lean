/- Several texts, joined. -/
import Derived.Test.YtfhkaffakniioaaGreatDoorQ10M
import Derived.Lib.AppendStr
import Derived.Test.YtfhkaffakniioaaGreatDoorCards
import Derived.Test.YtfhkaffakniioaaGreatDoorTie
import Derived.ProofKit
import Derived.OpenShut
import Derived.Deep.Slices
import Derived.Deep.DeepHandedRow
import Derived.SizedLaws
import Derived.Lib.LaidU8T
import Derived.Lay
import Derived.Deep.DeepWitnessRowRef
import Derived.HandedShaped
set_option maxHeartbeats 2000000
set_option maxRecDepth 100000
namespace Go.Proofs.YtfhkaffakniioaaGreatDoor
open Go.RowKit
namespace Ps
theorem zdH (B b:Nat) (l s:Bs) (w:World) (h:Lib.IsBuilder 73 5 B b (Lib.byteCells l) w) (hlen:l.length+s.length≤140737488355328) (hBw:B≤w.heap.size) :
  Calls Tryz.prog 44 #[.pointer (some ⟨b,0,none⟩),.string (Lx.bs s)] w fun e w'=>e=.returned (.tuple #[.int .i64 (s.length:Int),.nilIface])∧Lib.BuilderAt 73 5 B b (.pointer (some ⟨b,0,none⟩)) (Lib.byteCells (l++s)) w'∧Below B w w':=by
 obtain⟨i0,hi,hz0,hz1,hz2⟩:=Go.info_parts zdQ
 have C:Hid (Calls Tryz.prog 78 #[.pointer (some ⟨b,0,none⟩)] w fun e w'=>e=.returned (.tuple #[])∧Lib.BuilderAt 73 5 B b (.pointer (some ⟨b,0,none⟩)) (Lib.byteCells l) w'∧Below B w w'):=cc_c B b _ w h
 obtain⟨n,hn⟩:∃n,n=l.length:=⟨_,rfl⟩
 have hbl:(Lib.byteCells l).length=n:=by rw[Lib.byteCells_length,hn]
 obtain⟨m,hm⟩:∃m,m=s.length:=⟨_,rfl⟩
 have hsz:(Lx.bs s).size=m:=by rw[Lx.bs_size,hm]
 have HSZ:Hid ((Lx.bs s).size=m∧n+m≤140737488355328∧Lib.strCells (Lx.bs s)=Lib.byteCells s):=⟨hsz,by omega,by rw[Lib.strCells_eq,Lx.bs_data]⟩
 obtain⟨xs,hxs⟩:∃xs,xs=Lx.bs s:=⟨_,rfl⟩
 have hxz:(xs.size:Int)=(m:Int):=by rw[hxs,hsz]
 rw[←hxs] at HSZ ⊢
 rw[←hm]
 clear h hn hm hxs hlen hsz
 go_enter Tryz.func44,Tryz.ntmps44
 go_wp2_with fail
 refine C.out.mono ?_
 rintro e w1 ⟨rfl,h1,hb1⟩
 obtain⟨hB,v,hbk,hown,hne⟩:=h1
 rw[hbl] at hown
 have c0:w1.cell? ⟨b,0,none⟩=some (.pointer (some ⟨b,0,none⟩)):=by rw[Lib.cell_of_heap hbk];rfl
 have c1:w1.cell? ⟨b,1,none⟩=some v:=by rw[Lib.cell_of_heap hbk];rfl
 go_wp2_with (at_builtin;refine Lib.wpList_append_own_string _ rfl _ _ 71 9 rfl B 5 i0 Tryz.underlying71 Tryz.underlying9 hi hz0 hz1 hz2 _ _ _ rfl hown xs rfl ?c3 ?c4 ?c5 ?_)
 case c3=>rw[HSZ.out.1];have:=HSZ.out.2.1;unfold maxLen;omega
 case c4=>rw[HSZ.out.1];exact HSZ.out.2.1
 case c5=>have:=hb1.size;omega
 intro v' w2 hown' hgrow _
 have hlt:b<w1.heap.size:=(Array.getElem?_eq_some_iff.1 hbk).1
 have hb2:w2.heap[b]?=some (.cells #[.pointer (some ⟨b,0,none⟩),v] 73 (0,0)):=by
  rw[hgrow.block b hlt (fun e=>hne e.symm)]
  exact hbk
 have d0:w2.cell? ⟨b,0,none⟩=some (.pointer (some ⟨b,0,none⟩)):=by rw[Lib.cell_of_heap hb2];rfl
 have d1:w2.cell? ⟨b,1,none⟩=some v:=by rw[Lib.cell_of_heap hb2];rfl
 have f1:w2.frozen? ⟨b,1,none⟩=false:=Lib.frozen_of_heap hb2 1
 have HF:Hid (Lib.BuilderAt 73 5 B b (.pointer (some ⟨b,0,none⟩)) (Lib.byteCells (l++s)) (w2.setCell ⟨b,1,none⟩ v')∧Below B w (w2.setCell ⟨b,1,none⟩ v')):=by
  refine⟨Lib.BuilderAt.put (T:=73) (e:=5) hB hb2 (bs':=Lib.byteCells (l++s)) ?_ (by decide),(hb1.grown hgrow (by have:=hb1.size;omega) (fun k hk=>(hown.lt k hk).1)).setCell (p:=⟨b,1,none⟩) hB _⟩
  have e1:Lib.byteCells (l++s)=Lib.byteCells l++Lib.strCells xs:=by rw[HSZ.out.2.2];simp[Lib.byteCells]
  rw[e1,List.length_append,hbl,Lib.strCells_length]
  exact hown'
 obtain⟨sa,sn,sca,rfl⟩:∃sa sn sca,v'=.slice sa sn sca:=by
  rcases hown'.2 with ⟨hv,h0⟩ | ⟨g,cap,cur,hv,_⟩
  ·exact⟨none,0,0,hv⟩
  ·exact⟨_,_,cap,hv⟩
 clear hown hown' hgrow hb2 hbk hb1 C
 go_wp2
 go_ret2
 exact⟨by first | rfl | rw[hxz],HF.out.1,HF.out.2⟩
end Ps
end Go.Proofs.YtfhkaffakniioaaGreatDoor
namespace Go.Proofs.YtfhkaffakniioaaGreatDoor.Lx
inductive Toks:Bs→Nat→List Tk→Prop
 | nil {l:Bs} {a:Nat} (h:l.drop (bl l)=[]):Toks l a []
 | cons {l:Bs} {a:Nat} {x:UInt8} {r:Bs} {ts:List Tk} (h:l.drop (bl l)=x :: r) (he:(frst (x :: r)).err=0) (ht:Toks ((x :: r).drop (frst (x :: r)).size) (a+bl l+(frst (x :: r)).size) ts) :
   Toks l a (⟨(frst (x :: r)).kind,(frst (x :: r)).text,(frst (x :: r)).n,a+bl l⟩ :: ts)
theorem drop_lt {l:Bs} {x:UInt8} {r:Bs} (h:l.drop (bl l)=x :: r) (he:(frst (x :: r)).err=0):((x :: r).drop (frst (x :: r)).size).length<l.length:=by
 have h1:=(frst_size he).1
 have h2:=congrArg List.length h
 rw[List.length_drop] at h2
 rw[List.length_drop]
 simp at h2 ⊢
 omega
theorem lx_of_toks {l:Bs} {a:Nat} {ts:List Tk} (h:Toks l a ts):∀n,l.length<n→lx n l a=⟨ts,0,0⟩:=by
 induction h with
 | nil h =>
  intro n hn
  cases n with
  | zero=>omega
  | succ n=>rw[lx,h]
 | cons h he _ ih =>
  intro n hn
  cases n with
  | zero=>omega
  | succ n =>
   have h1:=drop_lt h he
   rw[lx,h]
   simp only
   rw[if_neg (by simp[he]),ih n (by omega)]
   rfl
theorem toks_of_lx:∀(n:Nat) (l:Bs) (a:Nat),l.length<n→(lx n l a).err=0→Toks l a (lx n l a).toks:=by
 intro n
 induction n with
 | zero=>intro l a h;omega
 | succ n ih =>
  intro l a hn he
  rw[lx] at he ⊢
  cases hd:l.drop (bl l) with
  | nil=>simp only;exact .nil hd
  | cons x r =>
   rw[hd] at he
   simp only at he ⊢
   by_cases h0:(frst (x :: r)).err=0
   ·rw[if_neg (by simp[h0])] at he ⊢
    have h1:=drop_lt hd h0
    have h2:=ih ((x :: r).drop (frst (x :: r)).size) (a+bl l+(frst (x :: r)).size) (by omega)
    rw[join] at he ⊢
    by_cases h3:(lx n ((x :: r).drop (frst (x :: r)).size) (a+bl l+(frst (x :: r)).size)).err=0
    ·rw[if_neg (by simp[h3])]
     exact .cons hd h0 (h2 h3)
    ·rw[if_pos h3] at he
     exact absurd he h3
   ·rw[if_pos h0] at he
    exact absurd he h0
theorem lex_toks {l:Bs} (h:(lex l).err=0):l.length≤16384∧Toks l 0 (lex l).toks:=by
 rw[lex] at h ⊢
 by_cases hb:16384<l.length
 ·rw[if_pos hb] at h;cases h
 ·rw[if_neg hb] at h ⊢
  exact⟨by omega,toks_of_lx _ _ _ (by omega) h⟩
theorem toks_lex {l:Bs} {ts:List Tk} (hl:l.length≤16384) (h:Toks l 0 ts):lex l=⟨ts,0,0⟩:=by
 rw[lex,if_neg (by omega)]
 exact lx_of_toks h _ (by omega)
def sh (c:Nat) (t:Tk):Tk:=⟨t.kind,t.text,t.n,t.at'+c⟩
theorem toks_at {l:Bs} {a:Nat} {ts:List Tk} (h:Toks l a ts):∀i t,ts[i]?=some t→a≤t.at'∧t.at'<a+l.length∧Toks (l.drop (t.at' - a)) t.at' (ts.drop i)∧(∃x r,(frst (x :: r)).err=0∧t.kind=(frst (x :: r)).kind∧t.text=(frst (x :: r)).text∧t.n=(frst (x :: r)).n∧x :: r=l.drop (t.at' - a))∧∀u,ts[i+1]?=some u→t.at'<u.at':=by
 induction h with
 | nil h=>intro i t ht;simp at ht
 | @cons l a x r ts h he hts ih =>
  intro i t ht
  have hb:=bl_le l
  have h2:=congrArg List.length h
  rw[List.length_drop] at h2
  simp at h2
  have hs:=frst_size he
  simp at hs
  cases i with
  | zero =>
   simp at ht
   subst ht
   simp only[List.drop_zero]
   have e:a+bl l - a=bl l:=by omega
   refine⟨by omega,by omega,?_,⟨x,r,he,rfl,rfl,rfl,by rw[e,h]⟩,fun u hu=>?_⟩
   ·rw[e,h]
    have hz:bl (x :: r)=0:=by rw[←h];exact bl_drop l
    have h3:=Toks.cons (l:=x :: r) (a:=a+bl l) (x:=x) (r:=r) (ts:=ts) (by rw[hz];rfl) he (by rw[hz];exact hts)
    rw[hz] at h3
    exact h3
   ·have:=(ih 0 u (by simpa using hu)).1
    omega
  | succ i =>
   have h3:=ih i t (by simpa using ht)
   obtain⟨k1,k2,k3,k4,k5⟩:=h3
   have e:l.drop (t.at' - a)=((x :: r).drop (frst (x :: r)).size).drop (t.at' - (a+bl l+(frst (x :: r)).size)):=by
    have hd:∀s,(x :: r).drop s=l.drop (bl l+s):=fun s=>by rw[←h,List.drop_drop]
    rw[hd,List.drop_drop]
    congr 1
    omega
   rw[List.length_drop] at k2
   simp at k2
   refine⟨by omega,by omega,?_,?_,fun u hu=>k5 u (by simpa using hu)⟩
   ·rw[e];simpa using k3
   ·rw[e];exact k4
end Go.Proofs.YtfhkaffakniioaaGreatDoor.Lx
namespace Go.Proofs.YtfhkaffakniioaaGreatDoor
open Go.ChangeShapes Go.WideShapes Go.ChangeAt Go.RowKit
theorem u8x:U8Extra Tryz.prog Tryz.laysValid_ren:=⟨by kernel_rfl,by kernel_rfl,by kernel_rfl,by kernel_rfl,by kernel_rfl,by kernel_rfl,by kernel_rfl⟩
theorem first_is:Rows.laid_unicode_utf8_first=Lib.firstData:=by kernel_rfl
theorem accept_is:(Rows.laid_unicode_utf8_acceptRanges:DataW Unit)=Lib.acceptData:=by kernel_rfl
theorem own:ownKnob Tryz.prog.godebug=none:=by kernel_rfl
theorem laidOut:laidOutB Tryz.prog=true:=by kernel_rfl
theorem law_post {H:Type} {enc:TypeId × Value→H} {f:Func} {sp:ChangeSpec} {W W':World} {args:Array Value} {ds gs:List (DataW H)} {before pa:List MemPlace}
  (hW:DataW.Whole enc Tryz.prog f.params.toList sp.vars false W args.toList ds gs before) (hb:Below W.heap.size W W')
  (hres:f.resultTypes=#[4]) (hfr:(sp.fn H (ds++gs)).results=[.lit (.bool true)]) (hfa:(sp.fn H (ds++gs)).args=ds) (hfv:sp.vars=[]) (hfv2:(sp.fn H (ds++gs)).vars=[])
  (hargs:DataW.TrodAll enc Tryz.prog W' 0 (fun b=>decide (b<W.heap.size)) true f.params.toList args.toList ds pa) :
  sp.post enc Tryz.prog f false true false false W args (.bool true) W':=by
 refine⟨ds,gs,before,[],pa,[],hW,?_,?_,?_,hb.frame _,fun h=>by cases h⟩
 ·rw[hres,hfr]
  exact trodAll_cons_mk (shut_bool Tryz.underlying4 _) trodAll_mk0
 ·rw[hfa];exact hargs
 ·rw[hfv,hfv2];rfl
theorem met_of {W:World} {L:List (String × DataW Unit)} (hn:(L.filter fun x=>x.2.handleName?.isSome)=[]) (h:laidMetH Tryz.prog L W):laidMet Tryz.prog L W:=by
 unfold laidMetH at h
 rw[hn] at h
 exact h
theorem pow_is:(Rows.laid_internal_strconv_uint64pow10:DataW Unit)=Lib.tabData .u64 Lib.pow10Tab:=by kernel_rfl
theorem gPowL:Tryz.prog.globalNamed "internal/strconv.uint64pow10"=some 4:=by kernel_rfl
theorem gSynL:Tryz.prog.globalNamed "strconv.ErrSyntax"=some 5:=by kernel_rfl
theorem gRngL:Tryz.prog.globalNamed "strconv.ErrRange"=some 6:=by kernel_rfl
theorem ySyn:(Tryz.prog.globals[5]?).map (·.type)=some 76:=by kernel_rfl
theorem yRng:(Tryz.prog.globals[6]?).map (·.type)=some 76:=by kernel_rfl
theorem yPow:(Tryz.prog.globals[4]?).map (·.type)=some 173:=by kernel_rfl
theorem open_iface {H:Type} {enc:TypeId × Value→H} {W:World} {base:Nat} {sp:Nat→Bool} {held:Bool} {fuel:Nat} {cs:List Value} {x:DataW H × List MemPlace} (h:DataW.trod enc Tryz.prog W base sp held fuel 76 cs=some x):∃c,cs=[c]∧(c=.nilIface∨∃u v,c=.iface u v):=by
 cases fuel with
 | zero=>simp[DataW.trod] at h
 | succ n =>
  unfold DataW.trod at h
  rw[Tryz.underlying76] at h
  split at h<;>simp_all
theorem err_of {W:World} {name:String} {g:Nat} (hn:Tryz.prog.globalNamed name=some g) (hy:(Tryz.prog.globals[g]?).map (·.type)=some 76) {d:DataW Unit} (h:Lib.VarReads Tryz.prog W name d):∃ev,W.cell? ⟨g,0,none⟩=some ev∧(ev=.nilIface∨∃te pe,ev=.iface te pe):=by
 obtain⟨g',t,cs,fuel,p,hg,hty,hvar,hd⟩:=h
 obtain rfl:=Option.some.inj (hn.symm.trans hg)
 obtain rfl:=Option.some.inj (hy.symm.trans hty)
 obtain⟨c,hc,hor⟩:=open_iface hd
 refine⟨c,?_,hor⟩
 have:=World.var?_cell hg hvar 0
 rw[this,←Array.getElem?_toList,hc]
 rfl
theorem hasL_of {W:World} {L:List (String × DataW Unit)} (h:laidMet Tryz.prog L W) (h1:("unicode/utf8.first",Rows.laid_unicode_utf8_first)∈L) (h2:("unicode/utf8.acceptRanges",(Rows.laid_unicode_utf8_acceptRanges:DataW Unit))∈L) (h3:("strconv.ErrSyntax",(Rows.laid_strconv_ErrSyntax:DataW Unit))∈L) (h4:("strconv.ErrRange",(Rows.laid_strconv_ErrRange:DataW Unit))∈L) (h5:("internal/strconv.uint64pow10",(Rows.laid_internal_strconv_uint64pow10:DataW Unit))∈L) (hSh:W.ShapedOpen Tryz.prog):HasL W:=by
 have r1:=Lib.laidMet.reads h h1
 have r2:=Lib.laidMet.reads h h2
 have r3:=Lib.laidMet.reads h h3
 have r4:=Lib.laidMet.reads h h4
 have r5:=Lib.laidMet.reads h h5
 rw[first_is] at r1
 rw[accept_is] at r2
 rw[pow_is] at r5
 refine⟨utf8Tabs_of_readsT (U8Types.of196 Tryz.laysValid) u8x r1 r2,?_,err_of gSynL ySyn r3,err_of gRngL yRng r4,Tryz.laysM219.s1_3 W hSh⟩
 obtain⟨g,t,cs,fuel,p,hg,hty,hvar,hd⟩:=r5
 obtain rfl:=Option.some.inj (gPowL.symm.trans hg)
 obtain rfl:=Option.some.inj (yPow.symm.trans hty)
 have hcs:=Lib.cells_of_tab (n:=20) (e:=133) Tryz.underlying173 Tryz.underlying133 (by kernel_rfl) (by kernel_rfl) hd
 unfold Lib.TabIs
 rw[hvar]
 congr 1
 rw[←hcs]
end Go.Proofs.YtfhkaffakniioaaGreatDoor
