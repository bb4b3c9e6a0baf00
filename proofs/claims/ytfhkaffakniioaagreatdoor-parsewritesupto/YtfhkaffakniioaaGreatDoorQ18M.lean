/- Several texts, joined. -/
import Derived.Test.YtfhkaffakniioaaGreatDoorPsJM
import Derived.Test.YtfhkaffakniioaaGreatDoorQ12M
import Derived.Test.YtfhkaffakniioaaGreatDoorQ09M
set_option maxHeartbeats 8000000
set_option maxRecDepth 100000
namespace Go.Proofs.YtfhkaffakniioaaGreatDoor
open Go.RowKit
namespace Ps
theorem zbE:(Tryz.prog.info? 9).map (fun i=>(i.zero,i.size,i.bytes))=some (some (.string ⟨#[]⟩),1,16):=by kernel_rfl
section
variable {W0 Wst:World} {pb:Nat} {W W' W1:World} {s s':S} {sb sb0 sb1:Option Nat} {X:Nat→Prop}
theorem PS.sbty (h:PS W0 W pb s sb) {g:Nat} (hg:sb=some g):∃C,W.heap[g]?=some (.cells C 29 (0,0)):=by
 obtain⟨ra,rc,sv,e1,e2,e3,e4,e5,e6⟩:=h.ex
 rcases e4.2 with ⟨q,_⟩ | ⟨g',cap,cur,q,_,q2,_⟩
 ·rw[q] at e5;rw[hg] at e5;cases e5
 ·rw[q,hg] at e5
  cases e5
  exact⟨cur,q2⟩
theorem PS.pbty (h:PS W0 W pb s sb):∃C,W.heap[pb]?=some (.cells C 67 (0,0)):=by
 obtain⟨ra,rc,sv,e1,_⟩:=h.ex
 exact⟨_,e1⟩
theorem PS.other (h:PS W0 W pb s sb) {g:Nat} {C:Array Value} {t:TypeId} (hg:W.heap[g]?=some (.cells C t (0,0))) (h1:t≠67) (h2:t≠29):g≠pb∧sb≠some g:=by
 constructor
 ·intro e
  obtain⟨D,hD⟩:=h.pbty
  rw[←e,hg] at hD
  cases hD
  exact h1 rfl
 ·intro e
  obtain⟨D,hD⟩:=h.sbty e
  rw[hg] at hD
  cases hD
  exact h2 rfl
theorem PS.keep (h:PS W0 W pb s sb) (k:Kp X W W') (hX:∀g,g<W.heap.size→X g→W0.heap.size≤g∧g≠pb∧sb≠some g):PS W0 W' pb s sb:=by
 obtain⟨ra,rc,sv,e1,e2,e3,e4,e5,e6⟩:=h.ex
 have hl:=h.blt
 have blk:∀g,g<W.heap.size→(g<W0.heap.size∨g=pb∨sb=some g)→W'.heap[g]?=W.heap[g]?:=fun g hg q=>k.block g hg fun x=>by
  obtain⟨x1,x2,x3⟩:=hX g hg x
  rcases q with q | q | q
  ·omega
  ·exact x2 q
  ·exact x3 q
 have hlt:=h.lt
 refine⟨h.lt,⟨k.os.trans h.below.os,k.tape.trans h.below.tape,k.output.trans h.below.output,Nat.le_trans h.below.size k.size,fun g hg=>(blk g (by have:=h.below.size;omega) (.inl hg)).trans (h.below.block g hg)⟩,⟨ra,rc,sv,(blk pb hl (.inr (.inl rfl))).trans e1,e2.stays fun g hg=>blk g (by omega) (.inl hg),e3,?_,e5,e6⟩,h.lim,h.fit,h.around,h.nums⟩
 refine⟨e4.1,?_⟩
 rcases e4.2 with q | ⟨g,cap,cur,q,q1,q2,q3⟩
 ·exact .inl q
 ·exact .inr ⟨g,cap,cur,q,q1,(blk g (row_lt q2) (.inr (.inr (by rw[←e5,q];rfl)))).trans q2,q3⟩
theorem PCh.keep (h:PCh pb Wst sb0 W sb) (k:Kp X W W') (hX:∀g,g<W.heap.size→X g→Wst.heap.size≤g):PCh pb Wst sb0 W' sb:=by
 refine⟨h.kept.trans k fun g hg q=>by have:=hX g (Nat.lt_of_lt_of_le hg h.kept.size) q;omega,h.new,fun h1=>?_⟩
 obtain⟨a1,a2⟩:=h.stp h1
 have e:slen W' pb=slen W pb:=slen_of (k.block pb (Nat.lt_of_lt_of_le h1 h.kept.size) fun q=>by have:=hX pb (Nat.lt_of_lt_of_le h1 h.kept.size) q;omega)
 refine⟨by omega,fun h2 q=>?_⟩
 obtain⟨c1,c2⟩:=a2 h2 (by omega)
 exact⟨c1,fun g z=>(k.block g (Nat.lt_of_lt_of_le (h2 g z) h.kept.size) fun x=>by have:=hX g (Nat.lt_of_lt_of_le (h2 g z) h.kept.size) x;have:=h2 g z;omega).trans (c2 g z)⟩
theorem zdA {v:Option Nat} (h:W.grownBy W' v):Kp (fun g=>v=some g) W W':=by
 have g0:Below 0 W W':=(Below.refl 0 _).grown h (Nat.zero_le _) (fun k hk=>Nat.zero_le _)
 exact⟨g0.os,g0.tape,g0.output,g0.size,fun k hk q=>h.block k hk fun e=>q e.symm⟩
def OwnT (W:World) (B:Nat) (sv:Value) (l:List Bs):Prop:=W.ownsRow B 9 1 sv l.length (l.map fun x=>.string (Lx.bs x))
theorem OwnT.sr {B:Nat} {l:List Bs} {a:Option Addr} {n c:Nat} (h:OwnT W B (.slice a n c) l):n=l.length∧n≤c∧SR W a l∧c≤maxLen:=by
 rcases h.2 with ⟨e,h0⟩ | ⟨g,cap,cur,e,h1,h2,h3,h4,h5,h6⟩
 ·cases e
  exact⟨h0.symm,Nat.le_refl _,fun j x hx=>by have:=(List.getElem?_eq_some_iff.1 hx).1;omega,by decide⟩
 ·cases e
  refine⟨rfl,h3,fun j x hx=>⟨g,0,rfl,?_⟩,h4⟩
  rw[Nat.zero_add,cell_of_row _ _ _ _ _ _ h2]
  have hj:=(List.getElem?_eq_some_iff.1 hx).1
  have e2:(l.map fun x=>Value.string (Lx.bs x))[j]?=some (.string (Lx.bs x)):=by rw[List.getElem?_map,hx];rfl
  rw[←h6,List.getElem?_take_of_lt (by omega),Array.getElem?_toList] at e2
  exact e2
theorem OwnT.kp {B:Nat} {l:List Bs} {sv:Value} (h:OwnT W B sv l) (k:Kp X W W') (hX:∀g,sv.ownBlock=some g→¬X g):OwnT W' B sv l:=by
 refine⟨h.1,?_⟩
 rcases h.2 with q | ⟨g,cap,cur,q,q1,q2,q3⟩
 ·exact .inl q
 ·exact .inr ⟨g,cap,cur,q,q1,(k.block g (row_lt q2) (hX g (by rw[q];rfl))).trans q2,q3⟩
theorem OwnT.ty {B:Nat} {l:List Bs} {sv:Value} (h:OwnT W B sv l) {g:Nat} (hg:sv.ownBlock=some g):B≤g∧∃C,W.heap[g]?=some (.cells C 9 (0,0)):=by
 rcases h.2 with ⟨q,_⟩ | ⟨g',cap,cur,q,q1,q2,q3⟩
 ·rw[q] at hg;cases hg
 ·rw[q] at hg
  cases hg
  exact⟨q1,cur,q2⟩
theorem OwnT.pg {B:Nat} {l:List Bs} {sv:Value} (h:OwnT W B sv l) (hp:PS W0 W pb s sb) (hg:PG W0 pb W sb s' W'):OwnT W' B sv l:=by
 obtain⟨sb1,k1,k2⟩:=hg
 refine h.kp k2.kept fun g e q=>?_
 obtain⟨_,C,hC⟩:=h.ty e
 obtain⟨n1,n2⟩:=hp.other hC (by decide) (by decide)
 exact q.elim n1 n2
theorem OwnT.form {B:Nat} {l:List Bs} {sv:Value} (h:OwnT W B sv l):∃a c,sv=.slice a l.length c:=by
 rcases h.2 with ⟨q,h0⟩ | ⟨g',cap,cur,q,_⟩
 ·exact⟨none,0,by rw[q,h0]⟩
 ·exact⟨_,cap,q⟩
theorem OwnT.call {B:Nat} {l:List Bs} {sv:Value} (h:OwnT W B sv l) (hb:Below W.heap.size W W'):OwnT W' B sv l:=h.kp (X:=fun _=>False) (Kp.of_below hb) (fun _ _ q=>q)
end
attribute [local go_sem] zaR
structure PI (W0:World) (pb:Nat) (W:World) (sb:Option Nat) (s:S) (sv:Value) (l:List Bs) (s':S) (wr:World):Prop where
 pg:PG W0 pb W sb s' wr
 own:OwnT wr W.heap.size sv l
 less:Less s s'
 few:l.length+s'.rest.length≤20000∧∀x∈l,x.length≤20000
theorem zdM {W0:World} {pb:Nat} {W:World} {s:S} {sb:Option Nat} (h:PS W0 W pb s sb) (l:List Bs):(nameT l s).length≤20000:=by
 have h1:=(token_fits h).2.2.1
 unfold nameT nextT
 split
 ·split
  ·exact Nat.zero_le _
  ·split
   ·exact Nat.zero_le _
   ·exact h1
 ·exact Nat.zero_le _
section
variable {W0:World} {pb:Nat} {W:World} {s:S} {sb:Option Nat}
theorem PI.next {sv v':Value} {l:List Bs} {x:Bs} {s1 s2:S} {w1 w3 w4 w5:World} (h:PI W0 pb W sb s sv l s1 w1) (hP:PS W0 W pb s sb) (h2:PG W0 pb W sb s2 w3) (hl:Less s1 s2) (hr:s2.rest.length+1≤s1.rest.length) (ho:OwnT w3 W.heap.size sv l) (hb:Below w3.heap.size w3 w4) (hg:w4.grownBy w5 sv.ownBlock) (hx:x.length≤20000)
  (hn:w5.ownsRow W.heap.size 9 1 v' (l.length+1) ((l.map fun x=>Value.string (Lx.bs x))++[.string (Lx.bs x)])):PI W0 pb W sb s v' (l++[x]) s2 w5:=by
 obtain⟨sb1,k1,k2⟩:=h2
 have ho4:=ho.call hb
 have p4:=k1.call hb
 have c4:=k2.trans (PCh.of_below hb)
 refine⟨⟨sb1,p4.keep (zdA hg) fun g _ e=>?_,c4.keep (zdA hg) fun g _ e=>(ho4.ty e).1⟩,?_,h.less.trans hl,?_,?_⟩
 ·obtain⟨q1,C,hC⟩:=ho4.ty e
  obtain⟨n1,n2⟩:=p4.other hC (by decide) (by decide)
  exact⟨Nat.le_trans hP.base_le q1,n1,n2⟩
 ·show w5.ownsRow W.heap.size 9 1 v' (l++[x]).length _
  rw[List.length_append,List.map_append]
  exact hn
 ·have:=h.few.1
  rw[List.length_append,List.length_singleton]
  omega
 ·intro y hy
  rcases List.mem_append.1 hy with q | q
  ·exact h.few.2 y q
  ·rw[List.mem_singleton.1 q];exact hx
theorem path_c (h:PS W0 W pb s sb) (hne:s.rest≠[]) (hL:HasL W0):Calls Tryz.prog 199 #[.pointer (some ⟨pb,0,none⟩)] W fun e W'=>e=.returned (.string (Lx.bs (join [46] (path s).2)))∧PG W0 pb W sb (path s).1 W':=by
 obtain⟨i0,hi,hz0,hz1,hz2⟩:=zaJ zbE
 have HP:Hid (PS W0 W pb s sb):=h
 have HL:Hid (∀W' s' sb',PS W0 W' pb s' sb'→HasL W'):=fun W' s' sb' h'=>hL.stays h'.below
 have CN:Hid (∀W' s' sb',PS W0 W' pb s' sb'→Calls Tryz.prog 72 #[.pointer (some ⟨pb,0,none⟩),.slice none 0 0] W' fun e W''=>e=.returned (.string (Lx.bs (nameT [] s')))∧Hid (PG W0 pb W' sb' (name [] s') W'')):=fun W' s' sb' h'=>name_c h' (SR.nil _ _) rfl (by decide)
 obtain⟨x0,hx0⟩:∃x0,x0=nameT [] s:=⟨_,rfl⟩
 have CN1:=hidp (CN.out W s sb h)
 rw[←hx0] at CN1
 have HX0:Hid (x0.length≤20000∧path s=pathL (name [] s).rest.length (name [] s) [x0]∧(name [] s).rest.length+1≤s.rest.length):=⟨by rw[hx0];exact zdM h [],by rw[path,hx0],(name_shrinks hne).1⟩
 clear h hne hL hx0
 go_enter Tryz.func199,Tryz.ntmps199
 go_wp2_with fail
 refine(CN1.out).mono ?_
 rintro e w1 ⟨rfl,G1⟩
 clear CN1
 go_wp2
 obtain⟨w2,hw2⟩:∃w2,w2=w1.alloc (.cells #[.string (Lx.bs x0)] 9):=⟨_,rfl⟩
 obtain⟨g0,hg0⟩:∃g0,g0=w1.heap.size:=⟨_,rfl⟩
 have I1:Hid (PI W0 pb W sb s (.slice (some ⟨g0,0,none⟩) 1 1) [x0] (name [] s) w2):=by
  have hb:Below w1.heap.size w1 w2:=by rw[hw2];exact bnew _ _
  have hrow:w2.heap[g0]?=some (.cells #[.string (Lx.bs x0)] 9 (0,0)):=by rw[hw2,hg0];exact heap_alloc_new w1 _
  refine⟨G1.out.call hb,⟨rfl,.inr ⟨g0,1,_,rfl,by rw[hg0];exact G1.out.size,hrow,Nat.le_refl _,by decide,rfl,rfl⟩⟩,zbH _ _,?_,fun x hx=>by rw[List.mem_singleton.1 hx];exact HX0.out.1⟩
  have:=HX0.out.2.2
  have:=HP.out.lim
  simp
  omega
 rw[←hw2,←hg0]
 clear hw2 hg0 G1
 go_loopw [3,4] (fun v3 _ wr=>∃(f:Nat) (s':S) (l:List Bs),s'.rest.length≤f∧pathL f s' l=path s∧PI W0 pb W sb s v3 l s' wr) (fun _ _ W=>rlen W pb)
 case atStart=>exact⟨_,name [] s,[x0],Nat.le_refl _,HX0.out.2.1.symm,I1.out⟩
 case round =>
  clear I1
  obtain⟨f,s',l,hf,hpl,hI⟩:=hrel
  have I:=hidp hI
  have HF:Hid (s'.rest.length≤f∧pathL f s' l=path s):=⟨hf,hpl⟩
  obtain⟨a,c,rfl⟩:=hI.own.form
  obtain⟨n,hn⟩:∃n,n=l.length:=⟨_,rfl⟩
  rw[←hn] at I ⊢
  have HN:Hid (n=l.length∧n≤20000):=⟨hn,by have:=hI.few.1;omega⟩
  obtain⟨sb',k1,k2⟩:=hI.pg
  have HP1:Hid (PS W0 wr pb s' sb'∧PCh pb W sb wr sb'):=⟨k1,k2⟩
  have CM:Hid (Calls Tryz.prog 109 #[.pointer (some ⟨pb,0,none⟩),.slice (some ⟨wr.heap.size,0,none⟩) 1 1] (wr.alloc (.cells #[.string ⟨#[46]⟩] 9)) fun e W''=>e=.returned (.bool (is [[46]] s'))∧Hid (PG W0 pb wr sb' (may [[46]] s') W'')):=zbN k1 (ts:=[[46]]) rfl rfl (by decide)
  clear hf hpl hI k1 k2 hn
  cases hi:is [[46]] s' with
  | false =>
   rw[hi,may,hi] at CM
   have HE:Hid (path s=(s',l)):=by
    show _=_
    rw[←HF.out.2]
    cases f with
    | zero=>rfl
    | succ f=>rw[pathL,hi];rfl
   clear hi
   go_wp2_with fail
   refine(CM.out).mono ?_
   rintro en w2 ⟨rfl,G2⟩
   have O2:Hid (OwnT w2 W.heap.size (.slice a n c) l):=I.out.own.pg HP1.out.1 G2.out
   have CJ:Hid (Calls Tryz.prog 23 #[.slice a n c,.string ⟨#[46]⟩] w2 fun e W'=>e=.returned (.string (Lx.bs (join [46] l)))∧Below w2.heap.size w2 W'):=by
    obtain⟨_,q2,q3,q4⟩:=O2.out.sr
    exact join_c [46] l a n c w2 HN.out.1 (Nat.le_trans HN.out.2 (by decide)) q2 (by unfold maxLen at q4;omega) q3 (by decide) (fun x hx=>Nat.le_trans (I.out.few.2 x hx) (by decide))
   go_wp2_with fail
   refine(CJ.out).mono ?_
   rintro en w3 ⟨rfl,hb3⟩
   have G3:Hid (PG W0 pb W sb s' w3):=(PG.trans HP1.out.2 G2.out).call hb3
   clear hb3
   go_wp2
   go_ret
   exact⟨by rw[HE.out];rfl,by rw[HE.out];exact G3.out⟩
  | true =>
   rw[hi,may,if_pos hi] at CM
   have HS:Hid ((next s').rest.length+1≤s'.rest.length):=(zaA (is_ne hi)).1
   obtain⟨f0,hf0⟩:∃f0,f=f0+1:=⟨f - 1,by
    have:=List.length_pos_iff.2 (is_ne hi)
    have:=HF.out.1
    omega⟩
   have HE:Hid (path s=(if (token (next s')).kind=3 then pathL f0 (next (next s')) (l++[Lib.itoa (token (next s')).n]) else pathL f0 (name [] (next s')) (l++[nameT [] (next s')]))):=by
    show _=_
    rw[←HF.out.2,hf0,pathL,if_pos hi]
   have HF0:Hid (f=f0+1):=hf0
   clear hi hf0
   go_wp2_with fail
   refine(CM.out).mono ?_
   rintro en w2 ⟨rfl,G2⟩
   have O2:Hid (OwnT w2 W.heap.size (.slice a n c) l):=I.out.own.pg HP1.out.1 G2.out
   obtain⟨sb2,k1,k2⟩:=G2.out
   have HP2:Hid (PS W0 w2 pb (next s') sb2∧PCh pb W sb w2 sb2):=⟨k1,HP1.out.2.trans k2⟩
   obtain⟨t,ht⟩:∃t,t=token (next s'):=⟨_,rfl⟩
   have CT:Hid (Calls Tryz.prog 104 #[.pointer (some ⟨pb,0,none⟩)] w2 fun e W'=>e=.returned (.agg #[.int .u8 (t.kind:Int),.string (Lx.bs t.text),.int .i64 t.n,.int .i64 (t.at':Int)])∧Below w2.heap.size w2 W'):=by
    have:=token_c k1
    rw[←ht] at this
    exact this
   have HT:Hid (t=token (next s')∧fits t):=⟨ht,by rw[ht];exact token_fits k1⟩
   rw[←ht] at HE
   clear k1 k2 ht CM
   go_wp2_with fail
   refine(CT.out).mono ?_
   rintro e w3 ⟨rfl,hb3⟩
   have B3:Hid (Below w2.heap.size w2 w3):=hb3
   clear hb3 CT
   go_upto_region 4 with fail
   obtain⟨w4,hw4⟩:∃w4,w4=w3.alloc (.cells #[.int .u8 (t.kind:Int),.string (Lx.bs t.text),.int .i64 t.n,.int .i64 (t.at':Int)] 92):=⟨_,rfl⟩
   obtain⟨T,hT⟩:∃T,T=w3.heap.size:=⟨_,rfl⟩
   have X4:Hid (w4.heap[T]?=some (.cells #[.int .u8 (t.kind:Int),.string (Lx.bs t.text),.int .i64 t.n,.int .i64 (t.at':Int)] 92 (0,0))∧Below w2.heap.size w2 w4):=by
    have hb:Below w3.heap.size w3 w4:=by rw[hw4];exact bnew _ _
    exact⟨by rw[hw4,hT];exact heap_alloc_new w3 _,B3.out.trans (hb.mono B3.out.size)⟩
   rw[←hw4,←hT]
   clear hw4 hT
   have y0:w4.cell? ⟨T,0,none⟩=some (.int .u8 (t.kind:Int)):=by rw[cell_of_row _ _ _ _ _ _ X4.out.1];rfl
   have HP4:Hid (PS W0 w4 pb (next s') sb2∧PCh pb W sb w4 sb2):=⟨HP2.out.1.call X4.out.2,HP2.out.2.trans (PCh.of_below X4.out.2)⟩
   have O4:Hid (OwnT w4 W.heap.size (.slice a n c) l):=O2.out.call X4.out.2
   have fit63:Hid (n+1≤maxLen):=by show _≤_;have:=HN.out;unfold maxLen;omega
   have fit47:Hid ((n+1)*16≤140737488355328):=by show _≤_;have:=HN.out;omega
   by_cases hk:t.kind=3
   ·have q3:((t.kind:Int)==3)=true:=by rw[hk];rfl
    have hkk:(token (next s')).kind=3:=by rw[←HT.out.1];exact hk
    have hne2:(next s').rest≠[]:=zcT (by decide) hkk
    have HE1:Hid (path s=pathL f0 (next (next s')) (l++[Lib.itoa t.n])):=by show _=_;rw[HE.out,if_pos hk]
    have CN2:Hid (Calls Tryz.prog 103 #[.pointer (some ⟨pb,0,none⟩)] w4 fun e W''=>e=.returned (tv (nextT (next s')))∧Hid (PG W0 pb w4 sb2 (next (next s')) W'')):=next_c HP4.out.1 fun _=>hne2
    have HS2:Hid ((next (next s')).rest.length+1≤(next s').rest.length):=(zaA hne2).1
    clear hk hkk hne2
    go_wp2_with fail
    refine(CN2.out).mono ?_
    rintro e w5 ⟨rfl,G5⟩
    have O5:Hid (OwnT w5 W.heap.size (.slice a n c) l):=O4.out.pg HP4.out.1 G5.out
    have y2:w5.cell? ⟨T,2,none⟩=some (.int .i64 t.n):=by
     obtain⟨n1,n2⟩:=HP4.out.1.other X4.out.1 (by decide) (by decide)
     have hb:=G5.out.block (row_lt X4.out.1) n1 n2
     rw[cell_of_row _ _ _ _ _ _ (hb.trans X4.out.1)];rfl
    have CF:Hid (Calls Tryz.prog 80 #[.int .i64 t.n,.int .i64 10] w5 fun e w'=>e=.returned (.string (Lx.bs (Lib.itoa t.n)))∧Below w5.heap.size w5 w'):=by
     obtain⟨sb5,k1,_⟩:=G5.out
     exact format_c t.n HT.out.2.2.1.1 HT.out.2.2.1.2 w5 (HL.out _ _ _ k1)
    clear CN2 q3 y0
    go_wp2_with fail
    refine(CF.out).mono ?_
    rintro e w6 ⟨rfl,hb6⟩
    have B6:Hid (Below w5.heap.size w5 w6):=hb6
    clear hb6 CF y2
    have O6:Hid (w6.ownsRow W.heap.size 9 1 (.slice a n c) n (l.map fun x=>Value.string (Lx.bs x))):=by
     have:=O5.out.call B6.out
     show World.ownsRow _ _ _ _ _ _ _
     rw[HN.out.1]
     exact(by rw[HN.out.1] at this;exact this)
    go_wp2_with (at_builtin;refine wpList_append_own _ rfl _ _ 50 rfl W.heap.size 9 i0 (.string ⟨#[]⟩) 1 16 Tryz.underlying50 hi hz0 hz1 hz2 rfl (by decide) _ _ _ rfl (O6.out.alloc _) ⟨w6.heap.size,0,none⟩ 1 1 [.string (Lx.bs (Lib.itoa t.n))] rfl rfl ?c1 ?c2 fit63.out fit47.out ?c5 ?_)
    case c1 =>
     intro j u hj
     match j,hj with
     | 0,hj=>simp at hj;subst hj;simp[Addr.add]
    case c2=>intro u hu;simp at hu;subst hu;rfl
    case c5=>have h1:=HP4.out.2.kept.size;have h2:=G5.out.size;have h3:=B6.out.size;simp;omega
    intro v' w7 hown7 hgrow7 _
    have I7:Hid (PI W0 pb W sb s v' (l++[Lib.itoa t.n]) (next (next s')) w7):=by
     have h2:PG W0 pb W sb (next (next s')) w5:=PG.trans HP4.out.2 G5.out
     exact I.out.next HP.out h2 ((zaH s').trans (zaH _)) (by have:=HS.out;have:=HS2.out;omega) O5.out (B6.out.trans ((bnew w6 _).mono B6.out.size)) hgrow7 (by
      have:=Lib.itoa_length_le t.n HT.out.2.2.1.1 HT.out.2.2.1.2
      omega) (by rw[←HN.out.1];exact hown7)
    clear hown7 hgrow7
    go_wp2
    go_roundw
    case rel=>first | exact⟨f0,_,_,by have:=HS.out;have:=HS2.out;have:=HF.out.1;have:=HF0.out;omega,HE1.out.symm,I7.out⟩ | ((repeat apply Exists.intro);exact⟨⟨f0,_,_,by have:=HS.out;have:=HS2.out;have:=HF.out.1;have:=HF0.out;omega,HE1.out.symm,I7.out⟩,rfl⟩)
    case measure =>
     obtain⟨sb7,k7,_⟩:=I7.out.pg
     rw[k7.rlen,HP1.out.1.rlen]
     have:=HS.out
     have:=HS2.out
     omega
   ·have q3:((t.kind:Int)==3)=false:=by simp;omega
    have HE1:Hid (path s=pathL f0 (name [] (next s')) (l++[nameT [] (next s')])):=by show _=_;rw[HE.out,if_neg hk]
    obtain⟨x,hx⟩:∃x,x=nameT [] (next s'):=⟨_,rfl⟩
    have CN2:=hidp (CN.out w4 (next s') sb2 HP4.out.1)
    rw[←hx] at CN2 HE1
    have HX:Hid (x.length≤20000∧(name [] (next s')).rest.length≤(next s').rest.length):=⟨by rw[hx];exact zdM HP4.out.1 [],(zbH [] (next s')).rest⟩
    clear hk hx
    go_wp2_with fail
    refine(CN2.out).mono ?_
    rintro e w5 ⟨rfl,G5⟩
    have O6:Hid (w5.ownsRow W.heap.size 9 1 (.slice a n c) n (l.map fun x=>Value.string (Lx.bs x))):=by
     have:=O4.out.pg HP4.out.1 G5.out
     show World.ownsRow _ _ _ _ _ _ _
     rw[HN.out.1]
     exact(by rw[HN.out.1] at this;exact this)
    clear CN2 q3 y0
    go_wp2_with (at_builtin;refine wpList_append_own _ rfl _ _ 50 rfl W.heap.size 9 i0 (.string ⟨#[]⟩) 1 16 Tryz.underlying50 hi hz0 hz1 hz2 rfl (by decide) _ _ _ rfl (O6.out.alloc _) ⟨w5.heap.size,0,none⟩ 1 1 [.string (Lx.bs x)] rfl rfl ?c1 ?c2 fit63.out fit47.out ?c5 ?_)
    case c1 =>
     intro j u hj
     match j,hj with
     | 0,hj=>simp at hj;subst hj;simp[Addr.add]
    case c2=>intro u hu;simp at hu;subst hu;rfl
    case c5=>have h1:=HP4.out.2.kept.size;have h2:=G5.out.size;simp;omega
    intro v' w7 hown7 hgrow7 _
    have I7:Hid (PI W0 pb W sb s v' (l++[x]) (name [] (next s')) w7):=by
     have h2:PG W0 pb W sb (name [] (next s')) w5:=PG.trans HP4.out.2 G5.out
     exact I.out.next HP.out h2 ((zaH s').trans (zbH _ _)) (by have:=HS.out;have:=HX.out;omega) (O4.out.pg HP4.out.1 G5.out) (bnew w5 _) hgrow7 HX.out.1 (by rw[←HN.out.1];exact hown7)
    clear hown7 hgrow7
    go_wp2
    go_roundw
    case rel=>first | exact⟨f0,_,_,by have:=HS.out;have:=HX.out;have:=HF.out.1;have:=HF0.out;omega,HE1.out.symm,I7.out⟩ | ((repeat apply Exists.intro);exact⟨⟨f0,_,_,by have:=HS.out;have:=HX.out;have:=HF.out.1;have:=HF0.out;omega,HE1.out.symm,I7.out⟩,rfl⟩)
    case measure =>
     obtain⟨sb7,k7,_⟩:=I7.out.pg
     rw[k7.rlen,HP1.out.1.rlen]
     have:=HS.out
     have:=HX.out
     omega
end
end Ps
end Go.Proofs.YtfhkaffakniioaaGreatDoor
