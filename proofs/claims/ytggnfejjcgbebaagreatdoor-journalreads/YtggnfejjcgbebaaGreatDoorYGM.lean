/- Several texts, joined: RkK, RkL, RkM, RkN, RkO -/
import Derived.Test.YtggnfejjcgbebaaGreatDoorYEM
import Derived.Test.YtggnfejjcgbebaaGreatDoorQHM
import Derived.Test.YtggnfejjcgbebaaGreatDoorQIM
import Derived.Test.YtggnfejjcgbebaaGreatDoorQFM
import Derived.Test.YtggnfejjcgbebaaGreatDoorYFM
import Derived.Test.YtggnfejjcgbebaaGreatDoorJnSM
/- What the document's Read of a block holds a value to; its number. -/
namespace Go.Proofs.YtggnfejjcgbebaaGreatDoor
open Go.RowKit
open Vl (V)
attribute [local go_sem ↓] Go.wp_at_zero Go.wp_at_succ
namespace Jn
theorem fitL_mem:∀{l:List V},Bn.fitL l→∀x∈l,Bn.fit x
  | [],_,x,hx=>by cases hx
  | y :: r,h,x,hx=>by
    rw [Bn.fitL] at h
    rcases List.mem_cons.1 hx with rfl | hx
    · exact h.1
    · exact fitL_mem h.2 x hx
theorem i64_u64 {n:Int} (h0:0≤n) (h1:n≤9223372036854775807):i64 (u64 n)=n:=by
  have e:u64 n=n.toNat:=by unfold u64;omega
  rw [e,i64,if_pos (by omega)];omega
theorem fit_num {k:Nat} {b:Bool} {n:Int} {s:ByteArray} {l:List V} {f:List (ByteArray × V)} (h:Bn.fit ⟨k,b,n,s,l,f⟩) (hk:k=2) (hn:0≤n):(⟨k,b,n,s,l,f⟩:V)=num (u64 n):=by
  subst hk
  rw [Bn.fit] at h
  obtain ⟨_,h1,_,h3,h4,h5,h6,_⟩:=h
  rw [num,i64_u64 hn h6.2,h1 (by decide),h3 (by decide) (by decide),h4 (by decide),h5 (by decide)]
theorem fit_txt {k:Nat} {b:Bool} {n:Int} {s:ByteArray} {l:List V} {f:List (ByteArray × V)} (h:Bn.fit ⟨k,b,n,s,l,f⟩) (hk:k=3):(⟨k,b,n,s,l,f⟩:V)=txt s:=by
  subst hk
  rw [Bn.fit] at h
  obtain ⟨_,h1,h2,_,h4,h5,_⟩:=h
  rw [txt,h1 (by decide),h2 (by decide),h4 (by decide),h5 (by decide)]
theorem fit_blob {k:Nat} {b:Bool} {n:Int} {s:ByteArray} {l:List V} {f:List (ByteArray × V)} (h:Bn.fit ⟨k,b,n,s,l,f⟩) (hk:k=4):(⟨k,b,n,s,l,f⟩:V)=blob s:=by
  subst hk
  rw [Bn.fit] at h
  obtain ⟨_,h1,h2,_,h4,h5,_⟩:=h
  rw [blob,h1 (by decide),h2 (by decide),h4 (by decide),h5 (by decide)]
theorem fit_lst {k:Nat} {b:Bool} {n:Int} {s:ByteArray} {l:List V} {f:List (ByteArray × V)} (h:Bn.fit ⟨k,b,n,s,l,f⟩) (hk:k=5):(⟨k,b,n,s,l,f⟩:V)=lst l:=by
  subst hk
  rw [Bn.fit] at h
  obtain ⟨_,h1,h2,h3,_,h5,_⟩:=h
  rw [lst,h1 (by decide),h2 (by decide),h3 (by decide) (by decide),h5 (by decide)]
theorem fnum {x:V} (h:Bn.fit x) (hk:x.1=2) (hn:0≤x.3):x=num (u64 x.3):=by
  obtain ⟨k,b,n,s,l,f⟩:=x
  exact fit_num h hk hn
theorem ftxt {x:V} (h:Bn.fit x) (hk:x.1=3):x=txt x.4:=by
  obtain ⟨k,b,n,s,l,f⟩:=x
  exact fit_txt h hk
theorem fblob {x:V} (h:Bn.fit x) (hk:x.1=4):x=blob x.4:=by
  obtain ⟨k,b,n,s,l,f⟩:=x
  exact fit_blob h hk
theorem flst {x:V} (h:Bn.fit x) (hk:x.1=5):x=lst x.5:=by
  obtain ⟨k,b,n,s,l,f⟩:=x
  exact fit_lst h hk
def isN (v:V):Bool:=decide (v.1=2∧0≤v.3)
theorem isN_num {n:Nat} (h:n≤4611686018427387904):isN (num n)=true:=by
  rw [isN,num,decide_eq_true_eq]
  exact ⟨rfl,by show 0≤i64 n;rw [i64,if_pos (by omega)];omega⟩
def rev5 (a b c d e:V):R:=⟨u64 a.3 % 256,b.4,u64 c.3,u64 d.3,e⟩
def ok5 (a c d:V):Bool:=isN a && isN c && isN d && decide (u64 a.3<256)
theorem ok5_is {s:ByteArray} {k:Nat} {b0:Bool} {n0:Int} {s0:ByteArray} {f:List (ByteArray × V)} {a b c d e:V} (h:Bn.Is s ⟨k,b0,n0,s0,[a,b,c,d,e],f⟩) (hk:k=5) (hb:b.1=3) (hok:ok5 a c d=true):Bn.Is s (rv (rev5 a b c d e)):=by
  have hf:=h.2.1
  have e0:=fit_lst hf hk
  have hl:Bn.fitL [a,b,c,d,e]:=by rw [Bn.fit] at hf;exact hf.2.2.2.2.2.2.2.2.2.2.1
  simp only [ok5,isN,Bool.and_eq_true,decide_eq_true_eq] at hok
  obtain ⟨⟨⟨⟨a1,a2⟩,c1,c2⟩,d1,d2⟩,h256⟩:=hok
  have ea:a=num (u64 a.3):=fnum (fitL_mem hl a (by simp)) a1 a2
  have eb:b=txt b.4:=ftxt (fitL_mem hl b (by simp)) hb
  have ec:c=num (u64 c.3):=fnum (fitL_mem hl c (by simp)) c1 c2
  have ed:d=num (u64 d.3):=fnum (fitL_mem hl d (by simp)) d1 d2
  have e1:rv (rev5 a b c d e)=lst [a,b,c,d,e]:=by
    rw [rv,rev5]
    show lst [num (u64 a.3 % 256),txt b.4,num (u64 c.3),num (u64 d.3),e]=_
    rw [Nat.mod_eq_of_lt h256]
    rw [←ea,←eb,←ec,←ed]
  rw [e1,←e0]
  exact h
def Few (r:R):Prop:=r.kind<256∧r.doc≤4611686018427387904∧r.ver≤4611686018427387904
theorem isN_is {n:Nat} (h:n≤4611686018427387904):isN (num n)=true∧u64 (num n).3=n:=⟨isN_num h,u64_i64 n (by omega)⟩
theorem ok5_no {s:ByteArray} {v:V} (h:Bn.Is s v) {q:R} (hq:Few q) (hi:Bn.Is s (rv q)):v.1=5∧∃a b c d e,v.5=[a,b,c,d,e]∧b.1=3∧ok5 a c d=true:=by
  obtain rfl:=h.one hi
  refine ⟨rfl,_,_,_,_,_,rfl,rfl,?_⟩
  have h1:=isN_is (n:=q.kind) (by have:=hq.1;omega)
  have h2:=isN_is hq.2.1
  have h3:=isN_is hq.2.2
  simp only [ok5,h1.1,h2.1,h3.1,h1.2,hq.1,decide_true,Bool.and_self]
theorem rerr_few {r:R} (h:rerr r=0):Few r:=by
  have h1:=(rtext_ok h).1
  rw [rwhy] at h1
  split at h1
  · cases h1
  split at h1
  · cases h1
  split at h1
  · cases h1
  split at h1
  · cases h1
  rename_i a b c d
  have m:most r.kind≤4611686018427387904:=by unfold most;split<;>omega
  exact ⟨by omega,by omega,by omega⟩
end Jn
set_option maxHeartbeats 1000000 in
theorem rnum_c (k:Nat) (b:Bool) (n:Int) (s:ByteArray) (l f:Value) (g:Bool) (hg:g=(decide (k=2) && decide (0≤n))) (la:∃a m c,l=.slice a m c) (fa:∃a m c,f=.slice a m c) (w:World) :
    Calls Tryz.prog 61 #[.agg #[.int .u8 (k:Int),.bool b,.int .i64 n,.string s,l,f]] w fun e w'=>e=.returned (.tuple #[.int .u64 ((Jn.u64 n:Nat):Int),.bool g])∧Below w.heap.size w w':=by
  obtain ⟨_,_,_,rfl⟩:=la
  obtain ⟨_,_,_,rfl⟩:=fa
  have v:=Jn.u64_eq n
  obtain ⟨m,hm⟩:∃m,m=Jn.u64 n:=⟨_,rfl⟩
  rw [←hm] at v ⊢
  clear hm
  have HB:Hid (∀o n,Below w.heap.size w ((w.alloc o).drewN n)):=fun o n=>below_drewN2 (below_new _ _) n
  by_cases h2:k=2
  · subst h2
    by_cases h0:0≤n
    · have q0:decide (0≤n)=true:=by simp [h0]
      obtain rfl:g=true:=by rw [hg];simp [h0]
      clear hg
      go_enter Tryz.func61,Tryz.ntmps61
      go_upto_region 1 with fail
      go_quiet (fail)
      go_wp2
      go_ret2
      exact ⟨rfl,HB.out _ _⟩
    · have q0:decide (0≤n)=false:=by simp;omega
      obtain rfl:g=false:=by rw [hg];simp;omega
      clear hg
      go_enter Tryz.func61,Tryz.ntmps61
      go_upto_region 1 with fail
      go_quiet (fail)
      go_wp2
      go_ret2
      exact ⟨rfl,HB.out _ _⟩
  · have q1:((k:Int)==2)=false:=by rw [beq_eq_false_iff_ne];omega
    obtain rfl:g=false:=by rw [hg];simp [h2]
    clear hg
    go_enter Tryz.func61,Tryz.ntmps61
    go_upto_region 1 with fail
    go_quiet (fail)
    go_wp2
    go_ret2
    exact ⟨rfl,HB.out _ _⟩
end Go.Proofs.YtggnfejjcgbebaaGreatDoor
/- The document's reading of a revision's text. -/
namespace Go.Proofs.YtggnfejjcgbebaaGreatDoor
open Go.RowKit
open Vl (V)
attribute [local go_sem ↓] Go.wp_at_zero Go.wp_at_succ
def RevRead (s:ByteArray) (w:World) (en:Ending) (w':World):Prop:=Below w.heap.size w w'∧∃(r:Jn.R) (xk:Nat) (xb:Bool) (xn:Int) (xs:ByteArray) (xa:Option Addr) (xl xc:Nat) (ya:Option Addr) (yl yc:Nat) (ok:Bool),en=.returned (.tuple #[.agg #[.int .u8 (r.kind:Int),.string r.table,.int .u64 (r.doc:Int),.int .u64 (r.ver:Int),.int .u8 (xk:Int),.bool xb,.int .i64 xn,.string xs,.slice xa xl xc,.slice ya yl yc],.bool ok]) ∧
  (ok=true→Bn.Is s (Jn.rv r)∧Jn.Fits r∧RepA w' (fun g=>w.heap.size≤g∧g<w'.heap.size) r.val (.agg #[.int .u8 (xk:Int),.bool xb,.int .i64 xn,.string xs,.slice xa xl xc,.slice ya yl yc]))∧(ok=false→∀q,Jn.Few q→¬Bn.Is s (Jn.rv q))
theorem RevRead.drew {s:ByteArray} {w W:World} {en:Ending} (h:RevRead s w en W):RevRead s w en W.drew:=by
  obtain ⟨hb,r,xk,xb,xn,xs,xa,xl,xc,ya,yl,yc,ok,e,h1,h2⟩:=h
  exact ⟨hb.drew,r,xk,xb,xn,xs,xa,xl,xc,ya,yl,yc,ok,e,fun k=>⟨(h1 k).1,(h1 k).2.1,repA_stays (w:=W) (w':=W.drew) (A:=fun g=>w.heap.size≤g∧g<W.heap.size) (B:=fun g=>w.heap.size≤g∧g<W.drew.heap.size) (fun _ _=>rfl) (fun _ k=>k) _ _ (h1 k).2.2⟩,h2⟩
theorem RO.no {w W:World} {s:ByteArray} (h:RO w W) (hs:∀q,Jn.Few q→¬Bn.Is s (Jn.rv q)):(W.setCells w.heap.size 0 [.int .u8 0,.string ⟨#[]⟩,.int .u64 0,.int .u64 0,.int .u8 0,.bool false,.int .i64 0,.string ⟨#[]⟩,.slice none 0 0,.slice none 0 0]).heap[w.heap.size]?=some (.cells #[.int .u8 0,.string ⟨#[]⟩,.int .u64 0,.int .u64 0,.int .u8 0,.bool false,.int .i64 0,.string ⟨#[]⟩,.slice none 0 0,.slice none 0 0] 34 (0,0))∧RevRead s w (.returned (.tuple #[.agg #[.int .u8 0,.string ⟨#[]⟩,.int .u64 0,.int .u64 0,.int .u8 0,.bool false,.int .i64 0,.string ⟨#[]⟩,.slice none 0 0,.slice none 0 0],.bool false])) (W.setCells w.heap.size 0 [.int .u8 0,.string ⟨#[]⟩,.int .u64 0,.int .u64 0,.int .u8 0,.bool false,.int .i64 0,.string ⟨#[]⟩,.slice none 0 0,.slice none 0 0]) :=
  ⟨ten_put h.res _ _ _ _ _ _ _ _ _ _,below_setCellsV (Nat.le_refl _) _ _ h.below,Jn.R0,0,false,0,⟨#[]⟩,none,0,0,none,0,0,false,rfl,fun k=>(by cases k),fun _=>hs⟩
set_option maxHeartbeats 32000000 in
set_option maxRecDepth 100000 in
theorem readRev_c (s:ByteArray) (w:World):Calls Tryz.prog 62 #[.string s] w (RevRead s w):=by
  obtain ⟨w1,hw1⟩:∃w1,w1=w.alloc (.cells #[.int .u8 0,.string ⟨#[]⟩,.int .u64 0,.int .u64 0,.int .u8 0,.bool false,.int .i64 0,.string ⟨#[]⟩,.slice none 0 0,.slice none 0 0] 34):=⟨_,rfl⟩
  have S1:Hid (RO w w1):=by
    show RO _ _
    rw [hw1];exact ⟨below_new _ _,heap_alloc_new w _⟩
  have CR:Hid (Calls Tryz.prog 60 #[.string s] w1 (ReadGave s w1)):=rread21 s w1
  go_enter Tryz.func62,Tryz.ntmps62
  go_upto_region 1 with fail
  rw [←hw1]
  clear hw1
  go_wp2_with fail
  refine CR.out.mono ?_
  rintro en w2 ⟨hb2,h2⟩
  have S2:Hid (RO w w2):=S1.out.call hb2
  have hs12:Hid (w.heap.size<w1.heap.size):=(Array.getElem?_eq_some_iff.1 S1.out.res).1
  clear CR hb2 S1
  rcases h2 with ⟨t,zk,zb,zn,zs,za,zl,zc,ta,tl,tc,hIs,rfl,hr⟩ | ⟨hno,rfl⟩
  · obtain ⟨k0,b0,n0,s0,l,f⟩:=t
    rw [RepA] at hr
    obtain ⟨ao,lc,fo,fc,he,hk,hn,hs,hll,hfl,hL,hF⟩:=hr
    simp at he
    obtain ⟨hz,rfl,rfl,rfl,⟨rfl,rfl,rfl⟩,rfl,rfl,rfl⟩:=he
    obtain rfl:zk=k0:=by omega
    have eN:((0:Int) != 0)=false:=rfl
    by_cases h1:zk=5
    · by_cases h5:l.length=5
      · subst h1
        obtain ⟨va,vb,vc,vd,ve,rfl⟩:=Jn.list5 h5
        obtain ⟨g,o,rfl,hg,hR⟩:=hL (by simp)
        obtain ⟨ka,ba,na,sa,la,fa,aa,ca,ga,da,rfl,⟨qa0,qa1,qa2,qa3,qa4,qa5⟩,_,_,hR⟩:=repLA_first hR
        obtain ⟨kb,bb,nb,sb,lb,fb,ab,cb,gb,db,rfl,⟨qb0,qb1,qb2,qb3,qb4,qb5⟩,_,hsb,hR⟩:=repLA_first hR
        obtain ⟨kc,bc,nc,sc,lc',fc',ac,cc,gc,dc,rfl,⟨qc0,qc1,qc2,qc3,qc4,qc5⟩,_,_,hR⟩:=repLA_first hR
        obtain ⟨kd,bd,nd,sd,ld,fd,ad,cd,gd,dd,rfl,⟨qd0,qd1,qd2,qd3,qd4,qd5⟩,_,_,hR⟩:=repLA_first hR
        obtain ⟨ke,be,ne,se,le,fe,ae,ce,ge,de,rfl,⟨qe0,qe1,qe2,qe3,qe4,qe5⟩,hre,_,_⟩:=repLA_first hR
        by_cases h3:kb=3
        · subst h3
          obtain ⟨E,hE⟩:∃E,E=w2.heap.size:=⟨_,rfl⟩
          obtain ⟨w3,hw3⟩:∃w3,w3=w2.alloc (.cells #[.int .u8 5,.bool zb,.int .i64 zn,.string zs,.slice (some ⟨g,o,none⟩) 5 zc,.slice ta f.length tc] 32):=⟨_,rfl⟩
          have b3:Below w2.heap.size w2 w3:=by rw [hw3];exact below_new _ _
          have S3:Hid (RO w w3):=S2.out.call b3
          have B3:Hid (Row6 w3 E (.int .u8 5) (.bool zb) (.int .i64 zn) (.string zs) (.slice (some ⟨g,o,none⟩) 5 zc) (.slice ta f.length tc)):=by
            show Row6 _ _ _ _ _ _ _ _
            rw [hw3,hE];exact ⟨by simp,heap_alloc_new w2 _⟩
          have hgb:w3.heap[g]?=w2.heap[g]?:=b3.block _ hg.2
          have C3:Hid (∀W,Below w3.heap.size w3 W→W.cell? ⟨E,4,none⟩=some (.slice (some ⟨g,o,none⟩) 5 zc)∧W.cell? ⟨g,o,none⟩=some (.int .u8 (ka:Int))∧W.cell? ⟨g,o+1,none⟩=some (.bool ba)∧W.cell? ⟨g,o+2,none⟩=some (.int .i64 na)∧W.cell? ⟨g,o+3,none⟩=some (.string sa)∧W.cell? ⟨g,o+4,none⟩=some (.slice aa la.length ca)∧W.cell? ⟨g,o+5,none⟩=some (.slice ga fa.length da)∧W.cell? ⟨g,o+6,none⟩=some (.int .u8 3)∧W.cell? ⟨g,o+6+1,none⟩=some (.bool bb)∧W.cell? ⟨g,o+6+2,none⟩=some (.int .i64 nb)∧W.cell? ⟨g,o+6+3,none⟩=some (.string sb)∧W.cell? ⟨g,o+6+4,none⟩=some (.slice ab lb.length cb)∧W.cell? ⟨g,o+6+5,none⟩=some (.slice gb fb.length db)∧W.cell? ⟨g,o+12,none⟩=some (.int .u8 (kc:Int))∧W.cell? ⟨g,o+12+1,none⟩=some (.bool bc)∧W.cell? ⟨g,o+12+2,none⟩=some (.int .i64 nc)∧W.cell? ⟨g,o+12+3,none⟩=some (.string sc)∧W.cell? ⟨g,o+12+4,none⟩=some (.slice ac lc'.length cc)∧W.cell? ⟨g,o+12+5,none⟩=some (.slice gc fc'.length dc)∧W.cell? ⟨g,o+18,none⟩=some (.int .u8 (kd:Int))∧W.cell? ⟨g,o+18+1,none⟩=some (.bool bd)∧W.cell? ⟨g,o+18+2,none⟩=some (.int .i64 nd)∧W.cell? ⟨g,o+18+3,none⟩=some (.string sd)∧W.cell? ⟨g,o+18+4,none⟩=some (.slice ad ld.length cd)∧W.cell? ⟨g,o+18+5,none⟩=some (.slice gd fd.length dd)∧W.cell? ⟨g,o+24,none⟩=some (.int .u8 (ke:Int))∧W.cell? ⟨g,o+24+1,none⟩=some (.bool be)∧W.cell? ⟨g,o+24+2,none⟩=some (.int .i64 ne)∧W.cell? ⟨g,o+24+3,none⟩=some (.string se)∧W.cell? ⟨g,o+24+4,none⟩=some (.slice ae le.length ce)∧W.cell? ⟨g,o+24+5,none⟩=some (.slice ge fe.length de)):=fun W hW=>by
            have kE:∀(q:Nat) (v:Value),w3.cell? ⟨E,q,none⟩=some v→W.cell? ⟨E,q,none⟩=some v:=fun q v hv=>(hW.cell (p:=⟨E,q,none⟩) B3.out.1).trans hv
            have kG:∀(q:Nat) (v:Value),w2.cell? ⟨g,q,none⟩=some v→W.cell? ⟨g,q,none⟩=some v:=fun q v hv=>(hW.cell (p:=⟨g,q,none⟩) (Nat.lt_of_lt_of_le hg.2 b3.size)).trans ((cell_block hgb).trans hv)
            exact ⟨kE _ _ B3.out.cells.2.2.2.2.1,kG _ _ qa0,kG _ _ qa1,kG _ _ qa2,kG _ _ qa3,kG _ _ qa4,kG _ _ qa5,kG _ _ qb0,kG _ _ qb1,kG _ _ qb2,kG _ _ qb3,kG _ _ qb4,kG _ _ qb5,kG _ _ qc0,kG _ _ qc1,kG _ _ qc2,kG _ _ qc3,kG _ _ qc4,kG _ _ qc5,kG _ _ qd0,kG _ _ qd1,kG _ _ qd2,kG _ _ qd3,kG _ _ qd4,kG _ _ qd5,kG _ _ qe0,kG _ _ qe1,kG _ _ qe2,kG _ _ qe3,kG _ _ qe4,kG _ _ qe5⟩
          obtain ⟨kk,hkk⟩:∃kk,kk=Jn.u64 na % 256:=⟨_,rfl⟩
          have vu8:IntKind.u8.wrap ((Jn.u64 na:Nat):Int)=(kk:Int):=by rw [hkk,IntKind.wrap_u8];omega
          obtain ⟨fax,hfax⟩:∃g,g=(decide (ka=2) && decide (0≤na)):=⟨_,rfl⟩
          have Na:Hid (∀W,Calls Tryz.prog 61 #[.agg #[.int .u8 (ka:Int),.bool ba,.int .i64 na,.string sa,.slice aa la.length ca,.slice ga fa.length da]] W fun e w'=>e=.returned (.tuple #[.int .u64 ((Jn.u64 na:Nat):Int),.bool fax])∧Below W.heap.size W w'):=fun W=>rnum_c ka ba na sa _ _ fax hfax ⟨_,_,_,rfl⟩ ⟨_,_,_,rfl⟩ W
          obtain ⟨fcx,hfcx⟩:∃g,g=(decide (kc=2) && decide (0≤nc)):=⟨_,rfl⟩
          have Nc:Hid (∀W,Calls Tryz.prog 61 #[.agg #[.int .u8 (kc:Int),.bool bc,.int .i64 nc,.string sc,.slice ac lc'.length cc,.slice gc fc'.length dc]] W fun e w'=>e=.returned (.tuple #[.int .u64 ((Jn.u64 nc:Nat):Int),.bool fcx])∧Below W.heap.size W w'):=fun W=>rnum_c kc bc nc sc _ _ fcx hfcx ⟨_,_,_,rfl⟩ ⟨_,_,_,rfl⟩ W
          obtain ⟨fdx,hfdx⟩:∃g,g=(decide (kd=2) && decide (0≤nd)):=⟨_,rfl⟩
          have Nd:Hid (∀W,Calls Tryz.prog 61 #[.agg #[.int .u8 (kd:Int),.bool bd,.int .i64 nd,.string sd,.slice ad ld.length cd,.slice gd fd.length dd]] W fun e w'=>e=.returned (.tuple #[.int .u64 ((Jn.u64 nd:Nat):Int),.bool fdx])∧Below W.heap.size W w'):=fun W=>rnum_c kd bd nd sd _ _ fdx hfdx ⟨_,_,_,rfl⟩ ⟨_,_,_,rfl⟩ W
          have HOK:Hid (Jn.ok5 ⟨ka,ba,na,sa,la,fa⟩ ⟨kc,bc,nc,sc,lc',fc'⟩ ⟨kd,bd,nd,sd,ld,fd⟩=(fax && fcx && fdx && decide (Jn.u64 na<256))):=by
            show _=_
            rw [hfax,hfcx,hfdx]
            simp [Jn.ok5,Jn.isN,Bool.decide_and]
          have G3:Hid (∀W ok,Below w3.heap.size w3 W→ok=Jn.ok5 ⟨ka,ba,na,sa,la,fa⟩ ⟨kc,bc,nc,sc,lc',fc'⟩ ⟨kd,bd,nd,sd,ld,fd⟩→(W.setCells w.heap.size 0 [.int .u8 (kk:Int),.string sb,.int .u64 ((Jn.u64 nc:Nat):Int),.int .u64 ((Jn.u64 nd:Nat):Int),.int .u8 (ke:Int),.bool be,.int .i64 ne,.string se,.slice ae le.length ce,.slice ge fe.length de]).drew.heap[w.heap.size]?=some (.cells #[.int .u8 (kk:Int),.string sb,.int .u64 ((Jn.u64 nc:Nat):Int),.int .u64 ((Jn.u64 nd:Nat):Int),.int .u8 (ke:Int),.bool be,.int .i64 ne,.string se,.slice ae le.length ce,.slice ge fe.length de] 34 (0,0))∧RevRead s w (.returned (.tuple #[.agg #[.int .u8 (kk:Int),.string sb,.int .u64 ((Jn.u64 nc:Nat):Int),.int .u64 ((Jn.u64 nd:Nat):Int),.int .u8 (ke:Int),.bool be,.int .i64 ne,.string se,.slice ae le.length ce,.slice ge fe.length de],.bool ok])) (W.setCells w.heap.size 0 [.int .u8 (kk:Int),.string sb,.int .u64 ((Jn.u64 nc:Nat):Int),.int .u64 ((Jn.u64 nd:Nat):Int),.int .u8 (ke:Int),.bool be,.int .i64 ne,.string se,.slice ae le.length ce,.slice ge fe.length de]).drew):=by
            intro W ok hW hok
            have S4:=S3.out.call hW
            refine ⟨by rw [drew_heap];exact ten_put S4.res _ _ _ _ _ _ _ _ _ _,RevRead.drew ⟨below_setCellsV (Nat.le_refl _) _ _ S4.below,⟨kk,sb,Jn.u64 nc,Jn.u64 nd,⟨ke,be,ne,se,le,fe⟩⟩,ke,be,ne,se,ae,le.length,ce,ge,fe.length,de,ok,rfl,fun h=>⟨?_,⟨by show kk<256;omega,hsb,Jn.u64_lt _,Jn.u64_lt _⟩,?_⟩,fun h=>?_⟩⟩
            · rw [hkk]
              exact Jn.ok5_is hIs rfl rfl (by rw [←hok];exact h)
            · refine repA_stays (A:=fun g=>w1.heap.size≤g∧g<w2.heap.size) (fun q hq=>?_) (fun q hq=>?_) _ _ hre
              · rw [heap_setCells_neV _ _ (by have:=hs12.out;omega)]
                exact (hW.block _ (Nat.lt_of_lt_of_le hq.2 b3.size)).trans (b3.block _ hq.2)
              · have:=hs12.out
                have:=b3.size
                have:=hW.size
                have:=(below_setCellsV (Nat.le_refl w.heap.size) [.int .u8 (kk:Int),.string sb,.int .u64 ((Jn.u64 nc:Nat):Int),.int .u64 ((Jn.u64 nd:Nat):Int),.int .u8 (ke:Int),.bool be,.int .i64 ne,.string se,.slice ae le.length ce,.slice ge fe.length de] 0 (Below.refl w.heap.size W)).size
                exact ⟨by omega,by omega⟩
            · intro q hq hi
              obtain ⟨_,a1,b1,c1,d1,e1,e5,_,h9⟩:=Jn.ok5_no hIs hq hi
              simp only [List.cons.injEq,and_true] at e5
              obtain ⟨rfl,_,rfl,rfl,_⟩:=e5
              rw [←hok,h] at h9
              cases h9
          have nE:w.heap.size≠E:=by have:=(Array.getElem?_eq_some_iff.1 S2.out.res).1;omega
          have nG:w.heap.size≠g:=by have:=hs12.out;have:=hg.1;omega
          clear hkk hIs hL hF hre hgb hfax hfcx hfdx qa0 qa1 qa2 qa3 qa4 qa5 qb0 qb1 qb2 qb3 qb4 qb5 qc0 qc1 qc2 qc3 qc4 qc5 qd0 qd1 qd2 qd3 qd4 qd5 qe0 qe1 qe2 qe3 qe4 qe5
          have v1:((5:Int) != 5)=false:=rfl
          go_upto_region 2 with fail
          rw [←hw3,←hE]
          clear hw3 hE S2 b3
          obtain ⟨p4,qa0,qa1,qa2,qa3,qa4,qa5,qb0,qb1,qb2,qb3,qb4,qb5,qc0,qc1,qc2,qc3,qc4,qc5,qd0,qd1,qd2,qd3,qd4,qd5,qe0,qe1,qe2,qe3,qe4,qe5⟩:=C3.out w3 (Below.refl _ _)
          obtain ⟨p0,p1,p2,p3,-,p5⟩:=B3.out.cells
          go_wp2_with fail
          refine (Na.out _).mono ?_
          rintro e w4 ⟨rfl,hb⟩
          have X0:Hid (Below w3.heap.size w3 w4):=hb
          clear hb Na p4 qa0 qa1 qa2 qa3 qa4 qa5 qb0 qb1 qb2 qb3 qb4 qb5 qc0 qc1 qc2 qc3 qc4 qc5 qd0 qd1 qd2 qd3 qd4 qd5 qe0 qe1 qe2 qe3 qe4 qe5
          obtain ⟨p4,qa0,qa1,qa2,qa3,qa4,qa5,qb0,qb1,qb2,qb3,qb4,qb5,qc0,qc1,qc2,qc3,qc4,qc5,qd0,qd1,qd2,qd3,qd4,qd5,qe0,qe1,qe2,qe3,qe4,qe5⟩:=C3.out w4 X0.out
          go_wp2_with fail
          refine (Nc.out _).mono ?_
          rintro e w5 ⟨rfl,hb⟩
          have X1:Hid (Below w3.heap.size w3 w5):=X0.out.trans (hb.mono X0.out.size)
          clear hb Nc p4 qa0 qa1 qa2 qa3 qa4 qa5 qb0 qb1 qb2 qb3 qb4 qb5 qc0 qc1 qc2 qc3 qc4 qc5 qd0 qd1 qd2 qd3 qd4 qd5 qe0 qe1 qe2 qe3 qe4 qe5
          obtain ⟨p4,qa0,qa1,qa2,qa3,qa4,qa5,qb0,qb1,qb2,qb3,qb4,qb5,qc0,qc1,qc2,qc3,qc4,qc5,qd0,qd1,qd2,qd3,qd4,qd5,qe0,qe1,qe2,qe3,qe4,qe5⟩:=C3.out w5 X1.out
          go_wp2_with fail
          refine (Nd.out _).mono ?_
          rintro e w6 ⟨rfl,hb⟩
          have X2:Hid (Below w3.heap.size w3 w6):=X1.out.trans (hb.mono X1.out.size)
          clear hb Nd p4 qa0 qa1 qa2 qa3 qa4 qa5 qb0 qb1 qb2 qb3 qb4 qb5 qc0 qc1 qc2 qc3 qc4 qc5 qd0 qd1 qd2 qd3 qd4 qd5 qe0 qe1 qe2 qe3 qe4 qe5
          obtain ⟨p4,qa0,qa1,qa2,qa3,qa4,qa5,qb0,qb1,qb2,qb3,qb4,qb5,qc0,qc1,qc2,qc3,qc4,qc5,qd0,qd1,qd2,qd3,qd4,qd5,qe0,qe1,qe2,qe3,qe4,qe5⟩:=C3.out w6 X2.out
          have S6:=S3.out.call X2.out
          have hres:=S6.res
          have fz:=row_freeV hres
          have y0:=block_cells hres 0 _ rfl
          have y1:=block_cells hres 1 _ rfl
          have y2:=block_cells hres 2 _ rfl
          have y3:=block_cells hres 3 _ rfl
          have y4:=block_cells hres 4 _ rfl
          have y5:=block_cells hres 5 _ rfl
          have y6:=block_cells hres 6 _ rfl
          have y7:=block_cells hres 7 _ rfl
          have y8:=block_cells hres 8 _ rfl
          have y9:=block_cells hres 9 _ rfl
          clear hres S6
          go_upto_region 7 with fail
          cases fax
          · go_region
            go_wp2
            rw [sets10]
            exact bodyPost_ret (v:=.tuple #[.agg #[.int .u8 (kk:Int),.string sb,.int .u64 ((Jn.u64 nc:Nat):Int),.int .u64 ((Jn.u64 nd:Nat):Int),.int .u8 (ke:Int),.bool be,.int .i64 ne,.string se,.slice ae le.length ce,.slice ge fe.length de],.bool false]) ((results_row_tmpV (fn:=Tryz.f62) (p:=2) (u:=3) (ty:=34) (by rfl) _ _ w.heap.size 34 #[.int .u8 (kk:Int),.string sb,.int .u64 ((Jn.u64 nc:Nat):Int),.int .u64 ((Jn.u64 nd:Nat):Int),.int .u8 (ke:Int),.bool be,.int .i64 ne,.string se,.slice ae le.length ce,.slice ge fe.length de] (0,0) _ rfl (G3.out w6 false X2.out (by rw [HOK.out];simp)).1 Tryz.underlying34 rfl info_rev).trans (by rfl)) rfl (G3.out w6 false X2.out (by rw [HOK.out];simp)).2
          cases fcx
          · go_region
            go_wp2
            rw [sets10]
            exact bodyPost_ret (v:=.tuple #[.agg #[.int .u8 (kk:Int),.string sb,.int .u64 ((Jn.u64 nc:Nat):Int),.int .u64 ((Jn.u64 nd:Nat):Int),.int .u8 (ke:Int),.bool be,.int .i64 ne,.string se,.slice ae le.length ce,.slice ge fe.length de],.bool false]) ((results_row_tmpV (fn:=Tryz.f62) (p:=2) (u:=3) (ty:=34) (by rfl) _ _ w.heap.size 34 #[.int .u8 (kk:Int),.string sb,.int .u64 ((Jn.u64 nc:Nat):Int),.int .u64 ((Jn.u64 nd:Nat):Int),.int .u8 (ke:Int),.bool be,.int .i64 ne,.string se,.slice ae le.length ce,.slice ge fe.length de] (0,0) _ rfl (G3.out w6 false X2.out (by rw [HOK.out];simp)).1 Tryz.underlying34 rfl info_rev).trans (by rfl)) rfl (G3.out w6 false X2.out (by rw [HOK.out];simp)).2
          cases fdx
          · go_region
            go_wp2
            rw [sets10]
            exact bodyPost_ret (v:=.tuple #[.agg #[.int .u8 (kk:Int),.string sb,.int .u64 ((Jn.u64 nc:Nat):Int),.int .u64 ((Jn.u64 nd:Nat):Int),.int .u8 (ke:Int),.bool be,.int .i64 ne,.string se,.slice ae le.length ce,.slice ge fe.length de],.bool false]) ((results_row_tmpV (fn:=Tryz.f62) (p:=2) (u:=3) (ty:=34) (by rfl) _ _ w.heap.size 34 #[.int .u8 (kk:Int),.string sb,.int .u64 ((Jn.u64 nc:Nat):Int),.int .u64 ((Jn.u64 nd:Nat):Int),.int .u8 (ke:Int),.bool be,.int .i64 ne,.string se,.slice ae le.length ce,.slice ge fe.length de] (0,0) _ rfl (G3.out w6 false X2.out (by rw [HOK.out];simp)).1 Tryz.underlying34 rfl info_rev).trans (by rfl)) rfl (G3.out w6 false X2.out (by rw [HOK.out];simp)).2
          by_cases h9:Jn.u64 na<256
          · have z9:decide (((Jn.u64 na:Nat):Int)<256)=true:=by rw [decide_eq_true_eq];omega
            have H9:Hid (Jn.u64 na<256):=h9
            clear h9
            go_region
            go_wp2
            rw [sets10]
            exact bodyPost_ret (v:=.tuple #[.agg #[.int .u8 (kk:Int),.string sb,.int .u64 ((Jn.u64 nc:Nat):Int),.int .u64 ((Jn.u64 nd:Nat):Int),.int .u8 (ke:Int),.bool be,.int .i64 ne,.string se,.slice ae le.length ce,.slice ge fe.length de],.bool true]) ((results_row_tmpV (fn:=Tryz.f62) (p:=2) (u:=3) (ty:=34) (by rfl) _ _ w.heap.size 34 #[.int .u8 (kk:Int),.string sb,.int .u64 ((Jn.u64 nc:Nat):Int),.int .u64 ((Jn.u64 nd:Nat):Int),.int .u8 (ke:Int),.bool be,.int .i64 ne,.string se,.slice ae le.length ce,.slice ge fe.length de] (0,0) _ rfl (G3.out w6 true X2.out (by rw [HOK.out];simp [H9.out])).1 Tryz.underlying34 rfl info_rev).trans (by rfl)) rfl (G3.out w6 true X2.out (by rw [HOK.out];simp [H9.out])).2
          · have z9:decide (((Jn.u64 na:Nat):Int)<256)=false:=by rw [decide_eq_false_iff_not];omega
            have H9:Hid (¬Jn.u64 na<256):=h9
            clear h9
            go_region
            go_wp2
            rw [sets10]
            exact bodyPost_ret (v:=.tuple #[.agg #[.int .u8 (kk:Int),.string sb,.int .u64 ((Jn.u64 nc:Nat):Int),.int .u64 ((Jn.u64 nd:Nat):Int),.int .u8 (ke:Int),.bool be,.int .i64 ne,.string se,.slice ae le.length ce,.slice ge fe.length de],.bool false]) ((results_row_tmpV (fn:=Tryz.f62) (p:=2) (u:=3) (ty:=34) (by rfl) _ _ w.heap.size 34 #[.int .u8 (kk:Int),.string sb,.int .u64 ((Jn.u64 nc:Nat):Int),.int .u64 ((Jn.u64 nd:Nat):Int),.int .u8 (ke:Int),.bool be,.int .i64 ne,.string se,.slice ae le.length ce,.slice ge fe.length de] (0,0) _ rfl (G3.out w6 false X2.out (by rw [HOK.out];simp [H9.out])).1 Tryz.underlying34 rfl info_rev).trans (by rfl)) rfl (G3.out w6 false X2.out (by rw [HOK.out];simp [H9.out])).2
        · have HS:Hid (∀q,Jn.Few q→¬Bn.Is s (Jn.rv q)):=by
            intro q hq hi
            obtain ⟨_,a1,b1,c1,d1,e1,e5,h9,_⟩:=Jn.ok5_no hIs hq hi
            simp only [List.cons.injEq,and_true] at e5
            obtain ⟨_,rfl,_⟩:=e5
            exact h3 h9
          have q1:((kb:Int) != 3)=true:=by simp;omega
          have q2:((kb:Int)==3)=false:=by rw [beq_eq_false_iff_ne];omega
          obtain ⟨w3,hw3⟩:∃w3,w3=w2.alloc (.cells #[.int .u8 5,.bool zb,.int .i64 zn,.string zs,.slice (some ⟨g,o,none⟩) 5 zc,.slice ta f.length tc] 32):=⟨_,rfl⟩
          obtain ⟨E,hE⟩:∃E,E=w2.heap.size:=⟨_,rfl⟩
          have S3:Hid (RO w w3):=by rw [hw3];exact S2.out.call (below_new _ _)
          have B3:Hid (Row6 w3 E (.int .u8 5) (.bool zb) (.int .i64 zn) (.string zs) (.slice (some ⟨g,o,none⟩) 5 zc) (.slice ta f.length tc)):=by
            show Row6 _ _ _ _ _ _ _ _
            rw [hw3,hE];exact ⟨by simp,heap_alloc_new w2 _⟩
          have qb:w3.cell? ⟨g,o+6,none⟩=some (.int .u8 (kb:Int)):=by
            have hgb:w3.heap[g]?=w2.heap[g]?:=by rw [hw3];exact (below_new _ _).block _ hg.2
            exact (cell_block hgb).trans qb0
          clear hIs hL hF hre
          go_upto_region 2 with fail
          rw [←hw3,←hE]
          clear hw3 hE S2
          obtain ⟨p0,p1,p2,p3,p4,p5⟩:=B3.out.cells
          have hres:=S3.out.res
          have fz:=row_freeV hres
          have y0:=block_cells hres 0 _ rfl
          have y1:=block_cells hres 1 _ rfl
          have y2:=block_cells hres 2 _ rfl
          have y3:=block_cells hres 3 _ rfl
          have y4:=block_cells hres 4 _ rfl
          have y5:=block_cells hres 5 _ rfl
          have y6:=block_cells hres 6 _ rfl
          have y7:=block_cells hres 7 _ rfl
          have y8:=block_cells hres 8 _ rfl
          have y9:=block_cells hres 9 _ rfl
          have F:=S3.out.no HS.out
          have HF:Hid (_∧_):=F
          clear F hres
          go_wp2
          all_goals rw [sets10]
          all_goals exact bodyPost_ret (v:=.tuple #[.agg #[.int .u8 0,.string ⟨#[]⟩,.int .u64 0,.int .u64 0,.int .u8 0,.bool false,.int .i64 0,.string ⟨#[]⟩,.slice none 0 0,.slice none 0 0],.bool false]) ((results_row_tmpV (fn:=Tryz.f62) (p:=2) (u:=3) (ty:=34) (by rfl) _ _ w.heap.size 34 #[.int .u8 0,.string ⟨#[]⟩,.int .u64 0,.int .u64 0,.int .u8 0,.bool false,.int .i64 0,.string ⟨#[]⟩,.slice none 0 0,.slice none 0 0] (0,0) _ rfl HF.out.1 Tryz.underlying34 rfl info_rev).trans (by rfl)) rfl HF.out.2
      · have HS:Hid (∀q,Jn.Few q→¬Bn.Is s (Jn.rv q)):=by
          intro q hq hi
          obtain ⟨_,a1,b1,c1,d1,e1,e5,_⟩:=Jn.ok5_no hIs hq hi
          have e6:l=[a1,b1,c1,d1,e1]:=e5
          rw [e6] at h5
          exact h5 rfl
        have q1:((l.length:Int) != 5)=true:=by simp;omega
        have q2:((l.length:Int)==5)=false:=by rw [beq_eq_false_iff_ne];omega
        subst h1
        obtain ⟨w3,hw3⟩:∃w3,w3=w2.alloc (.cells #[.int .u8 5,.bool zb,.int .i64 zn,.string zs,.slice za l.length zc,.slice ta f.length tc] 32):=⟨_,rfl⟩
        obtain ⟨E,hE⟩:∃E,E=w2.heap.size:=⟨_,rfl⟩
        have S3:Hid (RO w w3):=by rw [hw3];exact S2.out.call (below_new _ _)
        have B3:Hid (Row6 w3 E (.int .u8 5) (.bool zb) (.int .i64 zn) (.string zs) (.slice za l.length zc) (.slice ta f.length tc)):=by
          show Row6 _ _ _ _ _ _ _ _
          rw [hw3,hE];exact ⟨by simp,heap_alloc_new w2 _⟩
        clear hIs hL hF
        go_upto_region 2 with fail
        rw [←hw3,←hE]
        clear hw3 hE S2
        obtain ⟨p0,p1,p2,p3,p4,p5⟩:=B3.out.cells
        have hres:=S3.out.res
        have fz:=row_freeV hres
        have y0:=block_cells hres 0 _ rfl
        have y1:=block_cells hres 1 _ rfl
        have y2:=block_cells hres 2 _ rfl
        have y3:=block_cells hres 3 _ rfl
        have y4:=block_cells hres 4 _ rfl
        have y5:=block_cells hres 5 _ rfl
        have y6:=block_cells hres 6 _ rfl
        have y7:=block_cells hres 7 _ rfl
        have y8:=block_cells hres 8 _ rfl
        have y9:=block_cells hres 9 _ rfl
        have F:=S3.out.no HS.out
        have HF:Hid (_∧_):=F
        clear F hres
        go_wp2
        all_goals rw [sets10]
        all_goals exact bodyPost_ret (v:=.tuple #[.agg #[.int .u8 0,.string ⟨#[]⟩,.int .u64 0,.int .u64 0,.int .u8 0,.bool false,.int .i64 0,.string ⟨#[]⟩,.slice none 0 0,.slice none 0 0],.bool false]) ((results_row_tmpV (fn:=Tryz.f62) (p:=2) (u:=3) (ty:=34) (by rfl) _ _ w.heap.size 34 #[.int .u8 0,.string ⟨#[]⟩,.int .u64 0,.int .u64 0,.int .u8 0,.bool false,.int .i64 0,.string ⟨#[]⟩,.slice none 0 0,.slice none 0 0] (0,0) _ rfl HF.out.1 Tryz.underlying34 rfl info_rev).trans (by rfl)) rfl HF.out.2
    · have HS:Hid (∀q,Jn.Few q→¬Bn.Is s (Jn.rv q)):=by
        intro q hq hi
        exact h1 (Jn.ok5_no hIs hq hi).1
      have q1:((zk:Int) != 5)=true:=by simp;omega
      have q2:((zk:Int)==5)=false:=by rw [beq_eq_false_iff_ne];omega
      obtain ⟨w3,hw3⟩:∃w3,w3=w2.alloc (.cells #[.int .u8 (zk:Int),.bool zb,.int .i64 zn,.string zs,.slice za l.length zc,.slice ta f.length tc] 32):=⟨_,rfl⟩
      obtain ⟨E,hE⟩:∃E,E=w2.heap.size:=⟨_,rfl⟩
      have S3:Hid (RO w w3):=by rw [hw3];exact S2.out.call (below_new _ _)
      have B3:Hid (Row6 w3 E (.int .u8 (zk:Int)) (.bool zb) (.int .i64 zn) (.string zs) (.slice za l.length zc) (.slice ta f.length tc)):=by
        show Row6 _ _ _ _ _ _ _ _
        rw [hw3,hE];exact ⟨by simp,heap_alloc_new w2 _⟩
      clear hIs hL hF
      go_upto_region 2 with fail
      rw [←hw3,←hE]
      clear hw3 hE S2
      obtain ⟨p0,p1,p2,p3,p4,p5⟩:=B3.out.cells
      have hres:=S3.out.res
      have fz:=row_freeV hres
      have y0:=block_cells hres 0 _ rfl
      have y1:=block_cells hres 1 _ rfl
      have y2:=block_cells hres 2 _ rfl
      have y3:=block_cells hres 3 _ rfl
      have y4:=block_cells hres 4 _ rfl
      have y5:=block_cells hres 5 _ rfl
      have y6:=block_cells hres 6 _ rfl
      have y7:=block_cells hres 7 _ rfl
      have y8:=block_cells hres 8 _ rfl
      have y9:=block_cells hres 9 _ rfl
      have F:=S3.out.no HS.out
      have HF:Hid (_∧_):=F
      clear F hres
      go_wp2
      all_goals rw [sets10]
      all_goals exact bodyPost_ret (v:=.tuple #[.agg #[.int .u8 0,.string ⟨#[]⟩,.int .u64 0,.int .u64 0,.int .u8 0,.bool false,.int .i64 0,.string ⟨#[]⟩,.slice none 0 0,.slice none 0 0],.bool false]) ((results_row_tmpV (fn:=Tryz.f62) (p:=2) (u:=3) (ty:=34) (by rfl) _ _ w.heap.size 34 #[.int .u8 0,.string ⟨#[]⟩,.int .u64 0,.int .u64 0,.int .u8 0,.bool false,.int .i64 0,.string ⟨#[]⟩,.slice none 0 0,.slice none 0 0] (0,0) _ rfl HF.out.1 Tryz.underlying34 rfl info_rev).trans (by rfl)) rfl HF.out.2
  · have HS:Hid (∀q,Jn.Few q→¬Bn.Is s (Jn.rv q)):=fun q _ hi=>hno _ hi
    obtain ⟨er,her⟩:∃er:Int,er=(if 16384<s.size then 4 else 11):=⟨_,rfl⟩
    have q1:(er != 0)=true:=by rw [her];split<;>rfl
    have q2:(er==0)=false:=by rw [her];split<;>rfl
    rw [←her]
    clear her hno
    obtain ⟨w3,hw3⟩:∃w3,w3=w2.alloc (.cells #[.int .u8 0,.bool false,.int .i64 0,.string ⟨#[]⟩,.slice none 0 0,.slice none 0 0] 32):=⟨_,rfl⟩
    obtain ⟨E,hE⟩:∃E,E=w2.heap.size:=⟨_,rfl⟩
    have S3:Hid (RO w w3):=by rw [hw3];exact S2.out.call (below_new _ _)
    have B3:Hid (Row6 w3 E (.int .u8 0) (.bool false) (.int .i64 0) (.string ⟨#[]⟩) (.slice none 0 0) (.slice none 0 0)):=by
      show Row6 _ _ _ _ _ _ _ _
      rw [hw3,hE];exact ⟨by simp,heap_alloc_new w2 _⟩
    go_upto_region 2 with fail
    rw [←hw3,←hE]
    clear hw3 hE S2
    obtain ⟨p0,p1,p2,p3,p4,p5⟩:=B3.out.cells
    have hres:=S3.out.res
    have fz:=row_freeV hres
    have y0:=block_cells hres 0 _ rfl
    have y1:=block_cells hres 1 _ rfl
    have y2:=block_cells hres 2 _ rfl
    have y3:=block_cells hres 3 _ rfl
    have y4:=block_cells hres 4 _ rfl
    have y5:=block_cells hres 5 _ rfl
    have y6:=block_cells hres 6 _ rfl
    have y7:=block_cells hres 7 _ rfl
    have y8:=block_cells hres 8 _ rfl
    have y9:=block_cells hres 9 _ rfl
    have F:=S3.out.no HS.out
    have HF:Hid (_∧_):=F
    clear F hres
    go_wp2
    all_goals rw [sets10]
    all_goals exact bodyPost_ret (v:=.tuple #[.agg #[.int .u8 0,.string ⟨#[]⟩,.int .u64 0,.int .u64 0,.int .u8 0,.bool false,.int .i64 0,.string ⟨#[]⟩,.slice none 0 0,.slice none 0 0],.bool false]) ((results_row_tmpV (fn:=Tryz.f62) (p:=2) (u:=3) (ty:=34) (by rfl) _ _ w.heap.size 34 #[.int .u8 0,.string ⟨#[]⟩,.int .u64 0,.int .u64 0,.int .u8 0,.bool false,.int .i64 0,.string ⟨#[]⟩,.slice none 0 0,.slice none 0 0] (0,0) _ rfl HF.out.1 Tryz.underlying34 rfl info_rev).trans (by rfl)) rfl HF.out.2
end Go.Proofs.YtggnfejjcgbebaaGreatDoor
/- The block so far, of the document's Read. -/
namespace Go.Proofs.YtggnfejjcgbebaaGreatDoor
open Go.RowKit
open Vl (V)
structure QT (w:World) (sq:Nat) (pv rt:ByteArray) (l3 l4:Value) (ss:List ByteArray) (rs:List Jn.R) (W:World):Prop where
  below:Below w.heap.size w W
  box:W.heap[w.heap.size]?=some (.cells #[.int .u64 (sq:Int),.string pv,.string rt,l3,l4] 26 (0,0))
  row3:W.ownsRow (w.heap.size+1) 9 1 l3 ss.length (ss.map Value.string)
  row4:∃cs,W.ownsRow (w.heap.size+1) 34 10 l4 rs.length cs∧KeptR W (w.heap.size+1) l4 cs rs
theorem QT.call {w W W':World} {sq:Nat} {pv rt:ByteArray} {l3 l4:Value} {ss:List ByteArray} {rs:List Jn.R} (h:QT w sq pv rt l3 l4 ss rs W) (hb:Below W.heap.size W W'):QT w sq pv rt l3 l4 ss rs W' :=
  ⟨h.below.trans (hb.mono h.below.size),blk_call h.box hb,own_call h.row3 hb,h.row4.imp fun _ hc=>⟨own_call hc.1 hb,hc.2.call hb⟩⟩
theorem QT.lt {w W:World} {sq:Nat} {pv rt:ByteArray} {l3 l4:Value} {ss:List ByteArray} {rs:List Jn.R} (h:QT w sq pv rt l3 l4 ss rs W):w.heap.size+1≤W.heap.size:=by
  have:=(Array.getElem?_eq_some_iff.1 h.box).1;omega
theorem QT.next3 {w W W4 W5:World} {sq:Nat} {pv rt:ByteArray} {l3:Value} {ss:List ByteArray} {gg cap:Nat} {s:ByteArray} (h:QT w sq pv rt l3 (.slice none 0 0) ss [] W) (h4:Below W.heap.size W W4)
    (hg:W4.grownBy W5 l3.ownBlock) (hn:W5.ownsRow (w.heap.size+1) 9 1 (.slice (some ⟨gg,0,none⟩) (ss.length+1) cap) (ss.length+1) (ss.map Value.string++[.string s])) :
    QT w sq pv rt (.slice (some ⟨gg,0,none⟩) (ss.length+1) cap) (.slice none 0 0) (ss++[s]) [] (W5.setCell ⟨w.heap.size,3,none⟩ (.slice (some ⟨gg,0,none⟩) (ss.length+1) cap))∧W5.heap[w.heap.size]?=some (.cells #[.int .u64 (sq:Int),.string pv,.string rt,l3,.slice none 0 0] 26 (0,0)):=by
  have hW4:=h.call h4
  have hs:=hW4.lt
  have hb5:Below (w.heap.size+1) W4 W5:=(Below.refl _ _).grown hg hs (fun k hk=>(own_in h.row3 k hk).1)
  have box5:=(hb5.block w.heap.size (by omega)).trans hW4.box
  refine ⟨⟨?_,?_,?_,[],⟨rfl,.inl ⟨rfl,rfl⟩⟩,KeptR.none _ _ _⟩,box5⟩
  · exact (hW4.below.trans (hb5.mono (by omega))).setCell (Nat.le_refl _) _
  · exact heap_setCell_same W5 _ 3 _ 26 _ box5
  · rw [List.length_append,List.map_append]
    exact ownsRow_setCell_below hn (by show w.heap.size<w.heap.size+1;omega) _
theorem QT.next4 {w W W3 W4 W5:World} {sq:Nat} {pv rt:ByteArray} {l3 l4:Value} {ss:List ByteArray} {rs:List Jn.R} {gg cap:Nat} {r:Jn.R} {c4 c5 c6 c7 c8 c9:Value} {cs:List Value} (h:QT w sq pv rt l3 l4 ss rs W) (h3:Below W.heap.size W W3) (h4:Below W3.heap.size W3 W4)
    (ho:W.ownsRow (w.heap.size+1) 34 10 l4 rs.length cs) (hk:KeptR W (w.heap.size+1) l4 cs rs) (hr:RepA W3 (fun g=>W.heap.size≤g∧g<W3.heap.size) r.val (.agg #[c4,c5,c6,c7,c8,c9])) (ok:Jn.Fits r)
    (hg:W4.grownBy W5 l4.ownBlock) (hat:l4.ownBlock=some gg∨gg=W4.heap.size) (hn:W5.ownsRow (w.heap.size+1) 34 10 (.slice (some ⟨gg,0,none⟩) (rs.length+1) cap) (rs.length+1) (cs++RC r c4 c5 c6 c7 c8 c9)) :
    QT w sq pv rt l3 (.slice (some ⟨gg,0,none⟩) (rs.length+1) cap) ss (rs++[r]) (W5.setCell ⟨w.heap.size,4,none⟩ (.slice (some ⟨gg,0,none⟩) (rs.length+1) cap))∧W5.heap[w.heap.size]?=some (.cells #[.int .u64 (sq:Int),.string pv,.string rt,l3,l4] 26 (0,0)):=by
  have hb:Below W.heap.size W W4:=h3.trans (h4.mono h3.size)
  have hW4:=h.call hb
  have hs:=hW4.lt
  have hb5:Below (w.heap.size+1) W4 W5:=(Below.refl _ _).grown hg hs (fun k hk=>(own_in ho k hk).1)
  have box5:=(hb5.block w.heap.size (by omega)).trans hW4.box
  refine ⟨⟨?_,?_,?_,cs++RC r c4 c5 c6 c7 c8 c9,?_,?_⟩,box5⟩
  · exact (hW4.below.trans (hb5.mono (by omega))).setCell (Nat.le_refl _) _
  · exact heap_setCell_same W5 _ 4 _ 26 _ box5
  · exact ownsRow_setCell_below (own_apart hW4.row3 (own_call ho hb) (by decide) hg) (by show w.heap.size<w.heap.size+1;omega) _
  · rw [List.length_append]
    exact ownsRow_setCell_below hn (by show w.heap.size<w.heap.size+1;omega) _
  · have hle:∀k,l4.ownBlock=some k→k<W.heap.size:=fun k hk=>(own_in ho k hk).2
    have b3:=h3.size
    have b4:=h4.size
    have b5:=hg.size
    have hl:=h.lt
    have move:∀g,Apart (w.heap.size+1) l4 W3 g→(W5.setCell ⟨w.heap.size,4,none⟩ (.slice (some ⟨gg,0,none⟩) (rs.length+1) cap)).heap[g]?=W3.heap[g]?∧Apart (w.heap.size+1) (.slice (some ⟨gg,0,none⟩) (rs.length+1) cap) (W5.setCell ⟨w.heap.size,4,none⟩ (.slice (some ⟨gg,0,none⟩) (rs.length+1) cap)) g:=by
      rintro g ⟨hg1,hg2,hg3⟩
      refine ⟨?_,hg1,?_,?_⟩
      · rw [heap_setCell_other _ _ _ _ (by show g≠w.heap.size;omega),hg.block g (by omega) (fun q=>hg3 q.symm),h4.block g hg2]
      · simp;omega
      · show some gg≠some g
        rcases hat with h1 | rfl
        · rw [←h1];exact hg3
        · intro q;simp at q;omega
    have k3:KeptR W3 (w.heap.size+1) l4 (cs++RC r c4 c5 c6 c7 c8 c9) (rs++[r]):=(hk.call h3).more (repA_stays (fun _ _=>rfl) (fun g hg'=>⟨by omega,hg'.2,fun q=>by have:=hle g q;omega⟩) _ _ hr) ok
    exact k3.step move
theorem QT.drew {w W:World} {sq:Nat} {pv rt:ByteArray} {l3 l4:Value} {ss:List ByteArray} {rs:List Jn.R} (h:QT w sq pv rt l3 l4 ss rs W):QT w sq pv rt l3 l4 ss rs W.drew :=
  ⟨h.below.drew,h.box,h.row3,h.row4.imp fun _ hc=>⟨hc.1,hc.2.step fun _ hg=>⟨rfl,hg⟩⟩⟩
theorem QT.cells {w W:World} {sq:Nat} {pv rt:ByteArray} {l3 l4:Value} {ss:List ByteArray} {rs:List Jn.R} (h:QT w sq pv rt l3 l4 ss rs W):W.cell? ⟨w.heap.size,0,none⟩=some (.int .u64 (sq:Int))∧W.cell? ⟨w.heap.size,1,none⟩=some (.string pv)∧W.cell? ⟨w.heap.size,2,none⟩=some (.string rt)∧W.cell? ⟨w.heap.size,3,none⟩=some l3∧W.cell? ⟨w.heap.size,4,none⟩=some l4 :=
  ⟨block_cells h.box 0 _ rfl,block_cells h.box 1 _ rfl,block_cells h.box 2 _ rfl,block_cells h.box 3 _ rfl,block_cells h.box 4 _ rfl⟩
theorem QT.start (w:World) (sq:Nat) (pv rt:ByteArray):QT w sq pv rt (.slice none 0 0) (.slice none 0 0) [] [] (w.alloc (.cells #[.int .u64 (sq:Int),.string pv,.string rt,.slice none 0 0,.slice none 0 0] 26)) :=
  ⟨below_new _ _,heap_alloc_new w _,⟨rfl,.inl ⟨rfl,rfl⟩⟩,[],⟨rfl,.inl ⟨rfl,rfl⟩⟩,KeptR.none _ _ _⟩
theorem QT.bkn {w W:World} {sq:Nat} {pv rt:ByteArray} {l3 l4:Value} {ss:List ByteArray} {rs:List Jn.R} (h:QT w sq pv rt l3 l4 ss rs W) (h1:sq<18446744073709551616) (h2:pv.size≤maxLen) (h3:rt.size≤maxLen) (h4:∀s∈ss,s.size≤maxLen) (h5:rs.length≤maxLen):BkN W (w.heap.size+1) ⟨sq,pv,rt,ss,rs⟩ l3 l4 :=
  ⟨h1,h2,h3,h4,h5,h.row3,h.row4⟩
end Go.Proofs.YtggnfejjcgbebaaGreatDoor
/- What the document's Read refuses has no block's text; what it takes is a block's text. -/
namespace Go.Proofs.YtggnfejjcgbebaaGreatDoor
open Go.RowKit
open Vl (V)
namespace Jn
def NoB (s:ByteArray):Prop:=∀c,berr c=0→rngB c→btext c≠s
theorem blk_form {s:ByteArray} {v:V} {c:B} (h:Bn.Is s v) (hc:berr c=0) (e:btext c=s):v=bv c:=by
  subst e
  exact h.one (is_blk hc)
theorem is_text {s:ByteArray} {v:V} (h:Bn.Is s v) (hw:Bn.werr v=0):Bn.wtext v=s:=by
  rw [Bn.wtext,if_pos hw,←h.2.2.1]
theorem nob1 {s:ByteArray} {k:Nat} {b:Bool} {n:Int} {t:ByteArray} {l:List V} {f:List (ByteArray × V)} (h:Bn.Is s ⟨k,b,n,t,l,f⟩) (hk:k≠5):NoB s:=fun c hc _ e=>by
  have:=blk_form h hc e
  simp only [bv,lst,V.mk.injEq] at this
  exact hk this.1
theorem nob2 {s:ByteArray} {k:Nat} {b:Bool} {n:Int} {t:ByteArray} {l:List V} {f:List (ByteArray × V)} (h:Bn.Is s ⟨k,b,n,t,l,f⟩) (hk:l.length≠5):NoB s:=fun c hc _ e=>by
  have:=blk_form h hc e
  simp only [bv,lst,V.mk.injEq] at this
  obtain ⟨_,_,_,_,rfl,_⟩:=this
  exact hk rfl
theorem bv5 {c:B} {k:Nat} {b:Bool} {n:Int} {t:ByteArray} {va vb vc vd ve:V} {f:List (ByteArray × V)} (h:(⟨k,b,n,t,[va,vb,vc,vd,ve],f⟩:V)=bv c):va=num c.seq∧vb=blob c.prev∧vc=blob c.root∧vd=lst (c.sts.map txt)∧ve=lst (c.revs.map fun r=>blob (rtext r)):=by
  simp only [bv,lst,V.mk.injEq,List.cons.injEq,and_true] at h
  obtain ⟨_,_,_,_,h,_⟩:=h
  exact h
theorem nob3 {s:ByteArray} {k:Nat} {b:Bool} {n:Int} {t:ByteArray} {va vb vc vd ve:V} {f:List (ByteArray × V)} (h:Bn.Is s ⟨k,b,n,t,[va,vb,vc,vd,ve],f⟩) (hk:isN va=false∨vb.1≠4∨vc.1≠4∨vd.1≠5∨ve.1≠5):NoB s:=fun c hc _ e=>by
  obtain ⟨rfl,rfl,rfl,rfl,rfl⟩:=bv5 (blk_form h hc e)
  rcases hk with h1 | h1 | h1 | h1 | h1
  · rw [isN_num (by have:=berr_seq hc;omega)] at h1
    cases h1
  all_goals exact h1 rfl
theorem nob4 {s:ByteArray} {k:Nat} {b:Bool} {n:Int} {t:ByteArray} {va vb vc vd ve:V} {f:List (ByteArray × V)} (h:Bn.Is s ⟨k,b,n,t,[va,vb,vc,vd,ve],f⟩) {x:V} (hx:x∈vd.5) (hk:x.1≠3):NoB s:=fun c hc _ e=>by
  obtain ⟨rfl,rfl,rfl,rfl,rfl⟩:=bv5 (blk_form h hc e)
  have hx2:x∈c.sts.map txt:=hx
  obtain ⟨q,_,rfl⟩:=List.mem_map.1 hx2
  exact hk rfl
theorem nob5 {s:ByteArray} {k:Nat} {b:Bool} {n:Int} {t:ByteArray} {va vb vc vd ve:V} {f:List (ByteArray × V)} (h:Bn.Is s ⟨k,b,n,t,[va,vb,vc,vd,ve],f⟩) {x:V} (hx:x∈ve.5) (hk:x.1≠4∨∀q,Few q→¬Bn.Is x.4 (rv q)):NoB s:=fun c hc hr e=>by
  obtain ⟨rfl,rfl,rfl,rfl,rfl⟩:=bv5 (blk_form h hc e)
  have hx2:x∈c.revs.map fun r=>blob (rtext r):=hx
  obtain ⟨q,hq,rfl⟩:=List.mem_map.1 hx2
  have h0:=(berr_ok hc).2.2.1 q hq
  rcases hk with h1 | h1
  · exact h1 rfl
  · exact h1 q (rerr_few h0) (is_rev h0 (hr q hq))
theorem rv_inj {r q:R} (hr:Fits r) (hq:Fits q) (h:rv r=rv q):r=q:=by rw [←ofV_rv hr,h,ofV_rv hq]
theorem nob6 {s:ByteArray} {k:Nat} {b:Bool} {n:Int} {t:ByteArray} {va vb vc vd ve:V} {f:List (ByteArray × V)} (h:Bn.Is s ⟨k,b,n,t,[va,vb,vc,vd,ve],f⟩) {rs:List R} (hl:rs.length=ve.5.length) (hs:∀(i:Nat) (x:V) (q:R),ve.5[i]?=some x→rs[i]?=some q→Bn.Is x.4 (rv q)∧Fits q)
    (hb:berr ⟨u64 va.3,vb.4,vc.4,vd.5.map (fun x=>x.4),rs⟩≠0):NoB s:=fun c hc hr e=>by
  obtain ⟨rfl,rfl,rfl,rfl,rfl⟩:=bv5 (blk_form h hc e)
  have h3:=(berr_ok hc).2.2.1
  have hq:=berr_seq hc
  have hl2:rs.length=(c.revs.map fun r=>blob (rtext r)).length:=hl
  rw [List.length_map] at hl2
  have e8:rs=c.revs:=by
    apply List.ext_getElem?
    intro i
    by_cases hi:i<c.revs.length
    · have h1:=List.getElem?_eq_getElem hi
      have h2:=List.getElem?_eq_getElem (l:=rs) (i:=i) (by omega)
      have hm:c.revs[i]∈c.revs:=List.getElem_mem hi
      have h4:=hs i (blob (rtext c.revs[i])) rs[i] (by show (c.revs.map fun r=>blob (rtext r))[i]?=_;rw [List.getElem?_map,h1];rfl) h2
      rw [h1,h2,rv_inj h4.2 (rerr_fits (h3 _ hm)) (h4.1.one (is_rev (h3 _ hm) (hr _ hm)))]
    · rw [List.getElem?_eq_none (by omega),List.getElem?_eq_none (by omega)]
  have e7:(lst (c.sts.map txt)).5.map (fun x=>x.4)=c.sts:=by
    show (c.sts.map txt).map (fun x=>x.4)=c.sts
    rw [List.map_map]
    exact (List.map_congr_left (fun x _=>rfl)).trans (List.map_id _)
  apply hb
  rw [e7,e8]
  have e1:u64 (num c.seq).3=c.seq:=u64_i64 _ (by omega)
  rw [e1]
  exact hc
theorem yesB {s:ByteArray} {k:Nat} {b:Bool} {n:Int} {t:ByteArray} {va vb vc vd ve:V} {f:List (ByteArray × V)} (h:Bn.Is s ⟨k,b,n,t,[va,vb,vc,vd,ve],f⟩) (hk:k=5) (ha:isN va=true) (kb:vb.1=4) (kc:vc.1=4) (kd:vd.1=5) (ke:ve.1=5)
    (h4:∀x∈vd.5,x.1=3) {rs:List R} (hl:rs.length=ve.5.length) (hs:∀(i:Nat) (x:V) (q:R),ve.5[i]?=some x→rs[i]?=some q→x.1=4∧Bn.Is x.4 (rv q)∧Fits q)
    (hb:berr ⟨u64 va.3,vb.4,vc.4,vd.5.map (fun x=>x.4),rs⟩=0):btext ⟨u64 va.3,vb.4,vc.4,vd.5.map (fun x=>x.4),rs⟩=s:=by
  obtain ⟨_,_,h3,_,h5,h6⟩:=berr_ok hb
  have hf:=h.2.1
  have e0:=fit_lst hf hk
  have hL:Bn.fitL [va,vb,vc,vd,ve]:=by rw [Bn.fit] at hf;exact hf.2.2.2.2.2.2.2.2.2.2.1
  rw [isN,decide_eq_true_eq] at ha
  have ea:va=num (u64 va.3):=fnum (fitL_mem hL va (by simp)) ha.1 ha.2
  have eb:vb=blob vb.4:=fblob (fitL_mem hL vb (by simp)) kb
  have ec:vc=blob vc.4:=fblob (fitL_mem hL vc (by simp)) kc
  have ed:vd=lst vd.5:=flst (fitL_mem hL vd (by simp)) kd
  have ee:ve=lst ve.5:=flst (fitL_mem hL ve (by simp)) ke
  have fd:Bn.fitL vd.5:=by have h9:=fitL_mem hL vd (by simp);obtain ⟨_,_,_,_,_,_⟩:=vd;rw [Bn.fit] at h9;exact h9.2.2.2.2.2.2.2.2.2.2.1
  have fe:Bn.fitL ve.5:=by have h9:=fitL_mem hL ve (by simp);obtain ⟨_,_,_,_,_,_⟩:=ve;rw [Bn.fit] at h9;exact h9.2.2.2.2.2.2.2.2.2.2.1
  have e3:(vd.5.map (fun x=>x.4)).map txt=vd.5:=by
    rw [List.map_map]
    exact (List.map_congr_left (fun x hx=>(ftxt (fitL_mem fd x hx) (h4 x hx)).symm)).trans (List.map_id _)
  have e4:rs.map (fun r=>blob (rtext r))=ve.5:=by
    apply List.ext_getElem?
    intro i
    rw [List.getElem?_map]
    by_cases hi:i<rs.length
    · have h1:=List.getElem?_eq_getElem hi
      have h2:=List.getElem?_eq_getElem (l:=ve.5) (i:=i) (by omega)
      have h7:=hs i _ _ h2 h1
      have h0:rerr rs[i]=0:=h3 _ (List.getElem_mem hi)
      have h8:=rtext_ok h0
      rw [h1,h2]
      show some (blob (rtext rs[i]))=_
      rw [h8.2.2.1,is_text h7.2.1 h8.2.1]
      exact congrArg some (fblob (fitL_mem fe _ (List.getElem_mem _)) h7.1).symm
    · rw [List.getElem?_eq_none (by omega),List.getElem?_eq_none (by omega)]
      rfl
  have e9:bv ⟨u64 va.3,vb.4,vc.4,vd.5.map (fun x=>x.4),rs⟩=⟨k,b,n,t,[va,vb,vc,vd,ve],f⟩:=by
    rw [bv]
    show lst [num (u64 va.3),blob vb.4,blob vc.4,lst ((vd.5.map (fun x=>x.4)).map txt),lst (rs.map fun r=>blob (rtext r))]=_
    rw [e3,e4,e0,←ea,←eb,←ec,←ed,←ee]
  rw [h6]
  rw [e9] at h5 ⊢
  exact is_text h h5
end Jn
end Go.Proofs.YtggnfejjcgbebaaGreatDoor
/- The document's Read of a block's text. -/
namespace Go.Proofs.YtggnfejjcgbebaaGreatDoor
open Go.RowKit
open Vl (V)
attribute [local go_sem ↓] Go.wp_at_zero Go.wp_at_succ
theorem R5.nob {w W:World} {s:ByteArray} (h:R5 w W) (hn:Jn.NoB s):(W.setCells w.heap.size 0 [.int .u64 0,.string ⟨#[]⟩,.string ⟨#[]⟩,.slice none 0 0,.slice none 0 0]).heap[w.heap.size]?=some (.cells #[.int .u64 0,.string ⟨#[]⟩,.string ⟨#[]⟩,.slice none 0 0,.slice none 0 0] 26 (0,0))∧BlockRead s w (.returned (.tuple #[.agg #[.int .u64 0,.string ⟨#[]⟩,.string ⟨#[]⟩,.slice none 0 0,.slice none 0 0],.int .i64 11])) (W.setCells w.heap.size 0 [.int .u64 0,.string ⟨#[]⟩,.string ⟨#[]⟩,.slice none 0 0,.slice none 0 0]) :=
  ⟨h.zero.1,h.zero.2,.inr ⟨hn,rfl⟩⟩
set_option maxHeartbeats 64000000 in
set_option maxRecDepth 100000 in
theorem rreadB_c (s:ByteArray) (w:World):Calls Tryz.prog 20 #[.string s] w (BlockRead s w):=by
  obtain ⟨w1,hw1⟩:∃w1,w1=w.alloc (.cells #[.int .u64 0,.string ⟨#[]⟩,.string ⟨#[]⟩,.slice none 0 0,.slice none 0 0] 26):=⟨_,rfl⟩
  have S1:Hid (R5 w w1):=by rw [hw1];exact R5.start w
  have CR:Hid (Calls Tryz.prog 60 #[.string s] w1 (ReadGave s w1)):=rread21 s w1
  go_enter Tryz.func20,Tryz.ntmps20
  go_upto_region 1 with fail
  rw [←hw1]
  clear hw1
  go_wp2_with fail
  refine CR.out.mono ?_
  rintro en w2 ⟨hb2,h2⟩
  have S2:Hid (R5 w w2):=S1.out.call hb2
  have hs12:Hid (w.heap.size<w1.heap.size):=S1.out.lt
  clear CR hb2 S1
  rcases h2 with ⟨t,zk,zb,zn,zs,za,zl,zc,ta,tl,tc,hIs,rfl,hr⟩ | ⟨hno,rfl⟩
  · obtain ⟨k0,b0,n0,s0,l,f⟩:=t
    have hr2:=repA_rep (H:=w2.heap.size) (fun g hg=>hg.2) _ _ hr
    have hsm:=Jn.is_small hIs
    clear hr
    rw [Rep] at hr2
    obtain ⟨ao,lc,fo,fc,he,hk,hn,hs,hll,hfl,hL,hF⟩:=hr2
    simp at he
    obtain ⟨hz,rfl,rfl,rfl,⟨rfl,rfl,rfl⟩,rfl,rfl,rfl⟩:=he
    obtain rfl:zk=k0:=by omega
    by_cases h1:zk=5
    · by_cases h5:l.length=5
      · subst h1
        obtain ⟨⟨ka,ba,na,sa,la,fa⟩,⟨kb,bb,nb,sb,lb,fb⟩,⟨kc,bc,nc,sc,lc',fc'⟩,⟨kd,bd,nd,sd,ld,fd⟩,⟨ke,be,ne,se,le,fe⟩,rfl⟩:=Jn.list5 h5
        obtain ⟨g,o,rfl,hg,hR⟩:=hL (by simp)
        obtain ⟨aa,ca,ga,da,⟨qa0,qa1,qa2,qa3,qa4,qa5⟩,_,_⟩:=rep_six hR 0 rfl
        obtain ⟨_,_,_,_,⟨qb0,_,_,qb3,_,_⟩,hsb,_⟩:=rep_six hR 1 rfl
        obtain ⟨_,_,_,_,⟨qc0,_,_,qc3,_,_⟩,hsc,_⟩:=rep_six hR 2 rfl
        obtain ⟨ad,cd,_,_,⟨qd0,_,_,_,qd4,_⟩,_,hRd⟩:=rep_six hR 3 rfl
        obtain ⟨ae,ce,_,_,⟨qe0,_,_,_,qe4,_⟩,_,hRe⟩:=rep_six hR 4 rfl
        have hdl:ld.length≤1048576:=hsm ⟨kd,bd,nd,sd,ld,fd⟩ (by simp)
        have hel:le.length≤1048576:=hsm ⟨ke,be,ne,se,le,fe⟩ (by simp)
        obtain ⟨sq,hsq⟩:∃sq,sq=Jn.u64 na:=⟨_,rfl⟩
        have HSQ:Hid (sq=Jn.u64 na):=hsq
        obtain ⟨i9,hi9,hy0,hy1,hy2⟩:=info_parts info9
        obtain ⟨ir,hir,hr0,hr1,hr2⟩:=info_parts infoRev3
        obtain ⟨dn,hdn⟩:∃dn,dn=ld.length:=⟨_,rfl⟩
        obtain ⟨en,hen⟩:∃en,en=le.length:=⟨_,rfl⟩
        rw [←hdn] at qd4 hdl hRd
        rw [←hen] at qe4 hel hRe
        have HDN:Hid (dn=ld.length):=hdn
        have HEN:Hid (en=le.length):=hen
        have HSS:Hid (∀s∈ld.map (fun x=>x.4),s.size≤maxLen):=by
          intro s hs
          obtain ⟨⟨kx,bx,nx,sx,lx,fx⟩,hx,rfl⟩:=List.mem_map.1 hs
          obtain ⟨i,hi,hix⟩:=List.getElem_of_mem hx
          obtain ⟨g3,o3,_,_,hR3⟩:=hRd (by omega)
          obtain ⟨_,_,_,_,_,hsx,_⟩:=rep_six hR3 i (by rw [List.getElem?_eq_getElem hi,hix])
          exact hsx
        have HRD:Hid (0<dn→∃g' o',ad=some ⟨g',o',none⟩∧g'<w2.heap.size∧RepL w2 w2.heap.size g' o' ld):=hRd
        have HRE:Hid (0<en→∃g' o',ae=some ⟨g',o',none⟩∧g'<w2.heap.size∧RepL w2 w2.heap.size g' o' le):=hRe
        have HIS:Hid (Bn.Is s ⟨5,zb,zn,zs,[⟨ka,ba,na,sa,la,fa⟩,⟨kb,bb,nb,sb,lb,fb⟩,⟨kc,bc,nc,sc,lc',fc'⟩,⟨kd,bd,nd,sd,ld,fd⟩,⟨ke,be,ne,se,le,fe⟩],f⟩):=hIs
        obtain ⟨gx,hgx⟩:∃g,g=(decide (ka=2) && decide (0≤na)):=⟨_,rfl⟩
        have HGX:Hid (Jn.isN ⟨ka,ba,na,sa,la,fa⟩=gx):=by
          show _=_
          rw [hgx]
          simp [Jn.isN,Bool.decide_and]
        have NA:Hid (∀W,Calls Tryz.prog 61 #[.agg #[.int .u8 (ka:Int),.bool ba,.int .i64 na,.string sa,.slice aa la.length ca,.slice ga fa.length da]] W fun e w'=>e=.returned (.tuple #[.int .u64 (sq:Int),.bool gx])∧Below W.heap.size W w'):=fun W=>by rw [hsq];exact rnum_c ka ba na sa _ _ gx hgx ⟨_,_,_,rfl⟩ ⟨_,_,_,rfl⟩ W
        obtain ⟨w3,hw3⟩:∃w3,w3=w2.alloc (.cells #[.int .u8 5,.bool zb,.int .i64 zn,.string zs,.slice (some ⟨g,o,none⟩) 5 zc,.slice ta f.length tc] 32):=⟨_,rfl⟩
        obtain ⟨E,hE⟩:∃E,E=w2.heap.size:=⟨_,rfl⟩
        have b3:Below w2.heap.size w2 w3:=by rw [hw3];exact below_new _ _
        have S3:Hid (R5 w w3):=S2.out.call b3
        have B3:Hid (Row6 w3 E (.int .u8 5) (.bool zb) (.int .i64 zn) (.string zs) (.slice (some ⟨g,o,none⟩) 5 zc) (.slice ta f.length tc)):=by
          show Row6 _ _ _ _ _ _ _ _
          rw [hw3,hE];exact ⟨by simp,heap_alloc_new w2 _⟩
        have HG:Hid (∀W,Below w2.heap.size w2 W→W.cell? ⟨g,o,none⟩=some (.int .u8 (ka:Int))∧W.cell? ⟨g,o+1,none⟩=some (.bool ba)∧W.cell? ⟨g,o+2,none⟩=some (.int .i64 na)∧W.cell? ⟨g,o+3,none⟩=some (.string sa)∧W.cell? ⟨g,o+4,none⟩=some (.slice aa la.length ca)∧W.cell? ⟨g,o+5,none⟩=some (.slice ga fa.length da)∧W.cell? ⟨g,o+6,none⟩=some (.int .u8 (kb:Int))∧W.cell? ⟨g,o+6+3,none⟩=some (.string sb)∧W.cell? ⟨g,o+12,none⟩=some (.int .u8 (kc:Int))∧W.cell? ⟨g,o+12+3,none⟩=some (.string sc)∧W.cell? ⟨g,o+18,none⟩=some (.int .u8 (kd:Int))∧W.cell? ⟨g,o+18+4,none⟩=some (.slice ad dn cd)∧W.cell? ⟨g,o+24,none⟩=some (.int .u8 (ke:Int))∧W.cell? ⟨g,o+24+4,none⟩=some (.slice ae en ce)):=fun W hW=>by
          have k:∀(q:Nat) (v:Value),w2.cell? ⟨g,q,none⟩=some v→W.cell? ⟨g,q,none⟩=some v:=fun q v hv=>(hW.cell (p:=⟨g,q,none⟩) hg).trans hv
          exact ⟨k _ _ qa0,k _ _ qa1,k _ _ qa2,k _ _ qa3,k _ _ qa4,k _ _ qa5,k _ _ qb0,k _ _ qb3,k _ _ qc0,k _ _ qc3,k _ _ qd0,k _ _ qd4,k _ _ qe0,k _ _ qe4⟩
        have B23:Hid (Below w2.heap.size w2 w3):=b3
        clear hsq hdn hen hRd hRe hL hF hR hgx hIs b3 hsm qa0 qa1 qa2 qa3 qa4 qa5 qb0 qb3 qc0 qc3 qd0 qd4 qe0 qe4
        go_upto_region 2 with fail
        rw [←hw3,←hE]
        clear hw3 hE S2
        obtain ⟨p0,p1,p2,p3,p4,p5⟩:=B3.out.cells
        obtain ⟨qa0,qa1,qa2,qa3,qa4,qa5,qb0,qb3,qc0,qc3,qd0,qd4,qe0,qe4⟩:=HG.out _ B23.out
        go_wp2_with fail
        refine (NA.out _).mono ?_
        rintro e w4 ⟨rfl,hb4⟩
        have S4:Hid (R5 w w4):=S3.out.call hb4
        have B24:Hid (Below w2.heap.size w2 w4):=B23.out.trans (hb4.mono B23.out.size)
        clear hb4 NA S3 B3 B23 p0 p1 p2 p3 p4 p5 qa0 qa1 qa2 qa3 qa4 qa5 qb0 qb3 qc0 qc3 qd0 qd4 qe0 qe4
        obtain ⟨qa0,qa1,qa2,qa3,qa4,qa5,qb0,qb3,qc0,qc3,qd0,qd4,qe0,qe4⟩:=HG.out _ B24.out
        cases gx
        · have HS:Hid (Jn.NoB s):=Jn.nob3 HIS.out (.inl HGX.out)
          have hres:=(S4.out).res
          have fz:=row_freeV hres
          have y0:=block_cells hres 0 _ rfl
          have y1:=block_cells hres 1 _ rfl
          have y2:=block_cells hres 2 _ rfl
          have y3:=block_cells hres 3 _ rfl
          have y4:=block_cells hres 4 _ rfl
          have HF:Hid (_∧_):=(S4.out).nob HS.out
          clear hres
          go_wp2
          all_goals rw [setsB5]
          all_goals exact bodyPost_ret (v:=.tuple #[.agg #[.int .u64 0,.string ⟨#[]⟩,.string ⟨#[]⟩,.slice none 0 0,.slice none 0 0],.int .i64 11]) ((results_row_tmpV (fn:=Tryz.f20) (p:=2) (u:=3) (ty:=26) (by rfl) _ _ w.heap.size 26 #[.int .u64 0,.string ⟨#[]⟩,.string ⟨#[]⟩,.slice none 0 0,.slice none 0 0] (0,0) _ rfl HF.out.1 Tryz.underlying26 rfl info_blk).trans (by rfl)) rfl HF.out.2
        by_cases h6:kb=4
        case neg =>
          have HS:Hid (Jn.NoB s):=Jn.nob3 HIS.out (.inr (.inl h6))
          have q1:((kb:Int) != 4)=true:=by simp;omega
          have q2:((kb:Int)==4)=false:=by rw [beq_eq_false_iff_ne];omega
          have hres:=(S4.out).res
          have fz:=row_freeV hres
          have y0:=block_cells hres 0 _ rfl
          have y1:=block_cells hres 1 _ rfl
          have y2:=block_cells hres 2 _ rfl
          have y3:=block_cells hres 3 _ rfl
          have y4:=block_cells hres 4 _ rfl
          have HF:Hid (_∧_):=(S4.out).nob HS.out
          clear hres
          go_wp2
          all_goals rw [setsB5]
          all_goals exact bodyPost_ret (v:=.tuple #[.agg #[.int .u64 0,.string ⟨#[]⟩,.string ⟨#[]⟩,.slice none 0 0,.slice none 0 0],.int .i64 11]) ((results_row_tmpV (fn:=Tryz.f20) (p:=2) (u:=3) (ty:=26) (by rfl) _ _ w.heap.size 26 #[.int .u64 0,.string ⟨#[]⟩,.string ⟨#[]⟩,.slice none 0 0,.slice none 0 0] (0,0) _ rfl HF.out.1 Tryz.underlying26 rfl info_blk).trans (by rfl)) rfl HF.out.2
        subst h6
        by_cases h6:kc=4
        case neg =>
          have HS:Hid (Jn.NoB s):=Jn.nob3 HIS.out (.inr (.inr (.inl h6)))
          have q1:((kc:Int) != 4)=true:=by simp;omega
          have q2:((kc:Int)==4)=false:=by rw [beq_eq_false_iff_ne];omega
          have hres:=(S4.out).res
          have fz:=row_freeV hres
          have y0:=block_cells hres 0 _ rfl
          have y1:=block_cells hres 1 _ rfl
          have y2:=block_cells hres 2 _ rfl
          have y3:=block_cells hres 3 _ rfl
          have y4:=block_cells hres 4 _ rfl
          have HF:Hid (_∧_):=(S4.out).nob HS.out
          clear hres
          go_wp2
          all_goals rw [setsB5]
          all_goals exact bodyPost_ret (v:=.tuple #[.agg #[.int .u64 0,.string ⟨#[]⟩,.string ⟨#[]⟩,.slice none 0 0,.slice none 0 0],.int .i64 11]) ((results_row_tmpV (fn:=Tryz.f20) (p:=2) (u:=3) (ty:=26) (by rfl) _ _ w.heap.size 26 #[.int .u64 0,.string ⟨#[]⟩,.string ⟨#[]⟩,.slice none 0 0,.slice none 0 0] (0,0) _ rfl HF.out.1 Tryz.underlying26 rfl info_blk).trans (by rfl)) rfl HF.out.2
        subst h6
        by_cases h6:kd=5
        case neg =>
          have HS:Hid (Jn.NoB s):=Jn.nob3 HIS.out (.inr (.inr (.inr (.inl h6))))
          have q1:((kd:Int) != 5)=true:=by simp;omega
          have q2:((kd:Int)==5)=false:=by rw [beq_eq_false_iff_ne];omega
          have hres:=(S4.out).res
          have fz:=row_freeV hres
          have y0:=block_cells hres 0 _ rfl
          have y1:=block_cells hres 1 _ rfl
          have y2:=block_cells hres 2 _ rfl
          have y3:=block_cells hres 3 _ rfl
          have y4:=block_cells hres 4 _ rfl
          have HF:Hid (_∧_):=(S4.out).nob HS.out
          clear hres
          go_wp2
          all_goals rw [setsB5]
          all_goals exact bodyPost_ret (v:=.tuple #[.agg #[.int .u64 0,.string ⟨#[]⟩,.string ⟨#[]⟩,.slice none 0 0,.slice none 0 0],.int .i64 11]) ((results_row_tmpV (fn:=Tryz.f20) (p:=2) (u:=3) (ty:=26) (by rfl) _ _ w.heap.size 26 #[.int .u64 0,.string ⟨#[]⟩,.string ⟨#[]⟩,.slice none 0 0,.slice none 0 0] (0,0) _ rfl HF.out.1 Tryz.underlying26 rfl info_blk).trans (by rfl)) rfl HF.out.2
        subst h6
        by_cases h6:ke=5
        case neg =>
          have HS:Hid (Jn.NoB s):=Jn.nob3 HIS.out (.inr (.inr (.inr (.inr h6))))
          have q1:((ke:Int) != 5)=true:=by simp;omega
          have q2:((ke:Int)==5)=false:=by rw [beq_eq_false_iff_ne];omega
          have hres:=(S4.out).res
          have fz:=row_freeV hres
          have y0:=block_cells hres 0 _ rfl
          have y1:=block_cells hres 1 _ rfl
          have y2:=block_cells hres 2 _ rfl
          have y3:=block_cells hres 3 _ rfl
          have y4:=block_cells hres 4 _ rfl
          have HF:Hid (_∧_):=(S4.out).nob HS.out
          clear hres
          go_wp2
          all_goals rw [setsB5]
          all_goals exact bodyPost_ret (v:=.tuple #[.agg #[.int .u64 0,.string ⟨#[]⟩,.string ⟨#[]⟩,.slice none 0 0,.slice none 0 0],.int .i64 11]) ((results_row_tmpV (fn:=Tryz.f20) (p:=2) (u:=3) (ty:=26) (by rfl) _ _ w.heap.size 26 #[.int .u64 0,.string ⟨#[]⟩,.string ⟨#[]⟩,.slice none 0 0,.slice none 0 0] (0,0) _ rfl HF.out.1 Tryz.underlying26 rfl info_blk).trans (by rfl)) rfl HF.out.2
        subst h6
        go_upto_region 8 with fail
        go_region_held3 (fun W'=>W'.cell? ⟨g,o+6+3,none⟩=some (.string sb)∧W'.cell? ⟨g,o+12+3,none⟩=some (.string sc)) (go_keep) (fail)
        obtain ⟨w5,hw5⟩:∃w5,w5=(w4.alloc (.cells #[.int .u64 (sq:Int),.string sb,.string sc,.slice none 0 0,.slice none 0 0] 26)).drew:=⟨_,rfl⟩
        have S5:Hid (QT w4 sq sb sc (.slice none 0 0) (.slice none 0 0) [] [] w5):=by rw [hw5];exact (QT.start w4 _ _ _).drew
        rw [←hw5]
        clear hw5 qa0 qa1 qa2 qa3 qa4 qa5 qb0 qb3 qc0 qc3 qd0 qd4 qe0 qe4
        have HGW:Hid (∀W,Below w4.heap.size w4 W→Below w2.heap.size w2 W):=fun W hW=>B24.out.trans (hW.mono B24.out.size)
        obtain ⟨qa0,qa1,qa2,qa3,qa4,qa5,qb0,qb3,qc0,qc3,qd0,qd4,qe0,qe4⟩:=HG.out _ (HGW.out _ S5.out.below)
        go_wp2
        go_loopw [90] (fun i wr=>∃(j:Nat) (lv:Value),j≤dn∧i=.int .i64 (j:Int)∧QT w4 sq sb sc lv (.slice none 0 0) ((ld.take j).map fun x=>x.4) [] wr∧∀x∈ld.take j,x.1=3) (fun i _=>dn - (intOf i).toNat)
        case atStart=>exact ⟨0,_,Nat.zero_le _,rfl,S5.out,fun x hx=>by simp at hx⟩
        case round =>
          obtain ⟨j,lv,hj,rfl,hS,h3⟩:=hrel
          have S:Hid (QT w4 sq sb sc lv (.slice none 0 0) ((ld.take j).map fun x=>x.4) [] wr):=hS
          have HX3:Hid (∀x∈ld.take j,x.1=3):=h3
          clear hS h3 S5 qa0 qa1 qa2 qa3 qa4 qa5 qb0 qb3 qc0 qc3 qd0 qd4 qe0 qe4
          have HLJ:Hid (((ld.take j).map fun x=>x.4).length=j):=by show _=_;rw [List.length_map,List.length_take,←HDN.out];omega
          by_cases hlt:j<dn
          · obtain ⟨⟨kx,bx,nx,sx,lx,fx⟩,hx⟩:∃x,ld[j]?=some x:=⟨_,List.getElem?_eq_getElem (by rw [←HDN.out];exact hlt)⟩
            obtain ⟨g3,o3,rfl,hg3,hR3⟩:=HRD.out (by omega)
            obtain ⟨ax,cx,ay,cy,h6,hsx,_⟩:=rep_six hR3 j hx
            obtain ⟨d0,d1,d2,d3,d4,d5⟩:=h6.stays (HGW.out _ S.out.below) hg3
            have HX:Hid (ld[j]?=some ⟨kx,bx,nx,sx,lx,fx⟩):=hx
            clear hx hR3 h6
            go_upto_region 12 with fail
            obtain ⟨u2,hu2⟩:∃u2,u2=wr.alloc (.cells #[.int .u8 (kx:Int),.bool bx,.int .i64 nx,.string sx,.slice ax lx.length cx,.slice ay fx.length cy] 32):=⟨_,rfl⟩
            obtain ⟨B,hB⟩:∃B,B=wr.heap.size:=⟨_,rfl⟩
            have S2:Hid (QT w4 sq sb sc lv (.slice none 0 0) ((ld.take j).map fun x=>x.4) [] u2):=by rw [hu2];exact S.out.call (below_new _ _)
            have HBX:Hid (u2.heap[B]?=some (.cells #[.int .u8 (kx:Int),.bool bx,.int .i64 nx,.string sx,.slice ax lx.length cx,.slice ay fx.length cy] 32 (0,0))):=by
              rw [hu2,hB];exact heap_alloc_new wr _
            rw [←hu2,←hB]
            clear hu2 hB d0 d1 d2 d3 d4 d5 S
            have q0:=block_cells HBX.out 0 _ rfl
            by_cases k3:kx=3
            case neg =>
              have HS:Hid (Jn.NoB s):=Jn.nob4 HIS.out (x:=⟨kx,bx,nx,sx,lx,fx⟩) (List.mem_of_getElem? HX.out) k3
              have q1:((kx:Int) != 3)=true:=by simp;omega
              have q2:((kx:Int)==3)=false:=by rw [beq_eq_false_iff_ne];omega
              have hres:=(S4.out.call S2.out.below).res
              have fz:=row_freeV hres
              have y0:=block_cells hres 0 _ rfl
              have y1:=block_cells hres 1 _ rfl
              have y2:=block_cells hres 2 _ rfl
              have y3:=block_cells hres 3 _ rfl
              have y4:=block_cells hres 4 _ rfl
              have HF:Hid (_∧_):=(S4.out.call S2.out.below).nob HS.out
              clear hres
              go_wp2
              all_goals rw [setsB5]
              all_goals exact bodyPost_ret (v:=.tuple #[.agg #[.int .u64 0,.string ⟨#[]⟩,.string ⟨#[]⟩,.slice none 0 0,.slice none 0 0],.int .i64 11]) ((results_row_tmpV (fn:=Tryz.f20) (p:=2) (u:=3) (ty:=26) (by rfl) _ _ w.heap.size 26 #[.int .u64 0,.string ⟨#[]⟩,.string ⟨#[]⟩,.slice none 0 0,.slice none 0 0] (0,0) _ rfl HF.out.1 Tryz.underlying26 rfl info_blk).trans (by rfl)) rfl HF.out.2
            subst k3
            have HX4:Hid (∀x∈ld.take (j+1),x.1=3):=by
              intro x hx
              rw [List.take_add_one,HX.out] at hx
              rcases List.mem_append.1 hx with h | h
              · exact HX3.out x h
              · simp at h;subst h;rfl
            have hown:=S2.out.row3
            rw [HLJ.out] at hown
            have HOWN:Hid (u2.ownsRow (w4.heap.size+1) 9 1 lv j (((ld.take j).map fun x=>x.4).map Value.string)):=hown
            clear hown
            obtain ⟨p0,p1,p2,p3,p4⟩:=S2.out.cells
            have q3:=block_cells HBX.out 3 _ rfl
            have fit63:Hid (j+1≤maxLen):=by show _≤_;unfold maxLen;omega
            have fit47:Hid ((j+1)*16≤140737488355328):=by show _≤_;omega
            have HSZ:Hid (w4.heap.size+1≤(u2.alloc (.cells #[.string sx] 9)).heap.size):=by have:=S2.out.lt;show _≤_;simp;omega
            have HN:Hid (∀gg cap u5,(u2.alloc (.cells #[.string sx] 9)).grownBy u5 lv.ownBlock→u5.ownsRow (w4.heap.size+1) 9 1 (.slice (some ⟨gg,0,none⟩) (j+1) cap) (j+1) ((((ld.take j).map fun x=>x.4).map Value.string)++[.string sx])→QT w4 sq sb sc (.slice (some ⟨gg,0,none⟩) (j+1) cap) (.slice none 0 0) ((ld.take (j+1)).map fun x=>x.4) [] (u5.setCell ⟨w4.heap.size,3,none⟩ (.slice (some ⟨gg,0,none⟩) (j+1) cap))∧u5.heap[w4.heap.size]?=some (.cells #[.int .u64 (sq:Int),.string sb,.string sc,lv,.slice none 0 0] 26 (0,0))):=by
              intro gg cap u5 hgr hno
              have h:=QT.next3 (gg:=gg) (cap:=cap) (s:=sx) S2.out (below_new _ _) hgr (by rw [HLJ.out];exact hno)
              rw [HLJ.out] at h
              rw [List.take_add_one,HX.out,List.map_append]
              exact h
            go_wp2_with (first | (at_builtin;refine wpList_append_lies _ rfl _ _ 23 rfl (w4.heap.size+1) 9 i9 (.string ⟨#[]⟩) 1 16 Tryz.underlying23 hi9 hy0 hy1 hy2 rfl (by decide) _ _ _ rfl (HOWN.out.alloc _) ⟨u2.heap.size,0,none⟩ 1 1 [.string sx] rfl rfl (World.news_of_block (heap_alloc_new u2 _)) (by intro u hu;simp at hu;subst hu;rfl) (by decide) fit63.out fit47.out HSZ.out _ rfl ?_;intro gg cap u5 hown5 hgrow hat hglt;have N:=HN.out gg cap u5 hgrow hown5;have S5:Hid (_):=N.1;have fz5:=row_freeV N.2;have t3:=block_cells N.2 3 _ rfl;clear N hown5 hgrow hat hglt))
            go_roundw
            case rel=>first | exact ⟨j+1,_,by omega,by go_num,S5.out,HX4.out⟩ | ((repeat apply Exists.intro);exact ⟨⟨j+1,_,by omega,by go_num,S5.out,HX4.out⟩,rfl⟩)
            case measure=>simp [intOf];omega
          · have hjn:j=dn:=by omega
            subst hjn
            have S9:Hid (QT w4 sq sb sc lv (.slice none 0 0) (ld.map fun x=>x.4) [] wr):=by
              have h:=S.out
              rw [List.take_of_length_le (by rw [←HDN.out];exact Nat.le_refl _)] at h
              exact h
            have HX9:Hid (∀x∈ld,x.1=3):=by
              have h:=HX3.out
              rw [List.take_of_length_le (by rw [←HDN.out];exact Nat.le_refl _)] at h
              exact h
            obtain ⟨l3,hl3⟩:∃l3,l3=lv:=⟨_,rfl⟩
            rw [←hl3] at S9
            obtain ⟨w6,hw6⟩:∃w6,w6=wr:=⟨_,rfl⟩
            rw [←hw6] at S9
            rw [←hw6]
            clear hl3 hw6 S HLJ HX3
            obtain ⟨qa0,qa1,qa2,qa3,qa4,qa5,qb0,qb3,qc0,qc3,qd0,qd4,qe0,qe4⟩:=HG.out _ (HGW.out _ S9.out.below)
            go_wp2
            go_loopw [111] (fun i wr=>∃(j:Nat) (lv:Value) (rs:List Jn.R),j≤en∧i=.int .i64 (j:Int)∧QT w4 sq sb sc l3 lv (ld.map fun x=>x.4) rs wr∧rs.length=j∧∀(i:Nat) (x:V) (q:Jn.R),le[i]?=some x→rs[i]?=some q→x.1=4∧Bn.Is x.4 (Jn.rv q)∧Jn.Fits q) (fun i _=>en - (intOf i).toNat)
            case atStart=>exact ⟨0,_,[],Nat.zero_le _,rfl,S9.out,rfl,fun i x q _ h=>by simp at h⟩
            case round =>
              obtain ⟨j,lv,rs,hj,rfl,hS,hrs,hsay⟩:=hrel
              have S:Hid (QT w4 sq sb sc l3 lv (ld.map fun x=>x.4) rs wr):=hS
              have HRS:Hid (rs.length=j∧∀(i:Nat) (x:V) (q:Jn.R),le[i]?=some x→rs[i]?=some q→x.1=4∧Bn.Is x.4 (Jn.rv q)∧Jn.Fits q):=⟨hrs,hsay⟩
              clear hS S9 hrs hsay qa0 qa1 qa2 qa3 qa4 qa5 qb0 qb3 qc0 qc3 qd0 qd4 qe0 qe4
              by_cases hlt:j<en
              · obtain ⟨⟨kx,bx,nx,sx,lx,fx⟩,hx⟩:∃x,le[j]?=some x:=⟨_,List.getElem?_eq_getElem (by rw [←HEN.out];exact hlt)⟩
                obtain ⟨g3,o3,rfl,hg3,hR3⟩:=HRE.out (by omega)
                obtain ⟨ax,cx,ay,cy,h6,hsx,_⟩:=rep_six hR3 j hx
                obtain ⟨d0,d1,d2,d3,d4,d5⟩:=h6.stays (HGW.out _ S.out.below) hg3
                have HX:Hid (le[j]?=some ⟨kx,bx,nx,sx,lx,fx⟩):=hx
                clear hx hR3 h6
                go_upto_region 19 with fail
                obtain ⟨u2,hu2⟩:∃u2,u2=wr.alloc (.cells #[.int .u8 (kx:Int),.bool bx,.int .i64 nx,.string sx,.slice ax lx.length cx,.slice ay fx.length cy] 32):=⟨_,rfl⟩
                obtain ⟨B,hB⟩:∃B,B=wr.heap.size:=⟨_,rfl⟩
                have S2:Hid (QT w4 sq sb sc l3 lv (ld.map fun x=>x.4) rs u2):=by rw [hu2];exact S.out.call (below_new _ _)
                have HBX:Hid (u2.heap[B]?=some (.cells #[.int .u8 (kx:Int),.bool bx,.int .i64 nx,.string sx,.slice ax lx.length cx,.slice ay fx.length cy] 32 (0,0))):=by
                  rw [hu2,hB];exact heap_alloc_new wr _
                rw [←hu2,←hB]
                clear hu2 hB d0 d1 d2 d3 d4 d5 S
                have q3:=block_cells HBX.out 3 _ rfl
                go_wp2_with fail
                refine (readRev_c sx u2).mono ?_
                rintro e u3 ⟨hb3,r,xk,xb,xn,xs,xa,xl,xc,ya,yl,yc,ok,rfl,hyes,hnot⟩
                have HB3:Hid (Below u2.heap.size u2 u3):=hb3
                have HY:Hid ((ok=true→Bn.Is sx (Jn.rv r)∧Jn.Fits r∧RepA u3 (fun g=>u2.heap.size≤g∧g<u3.heap.size) r.val (.agg #[.int .u8 (xk:Int),.bool xb,.int .i64 xn,.string xs,.slice xa xl xc,.slice ya yl yc]))∧(ok=false→∀q,Jn.Few q→¬Bn.Is sx (Jn.rv q))):=⟨hyes,hnot⟩
                obtain ⟨u4,hu4⟩:∃u4,u4=u3.alloc (.cells #[.int .u8 (r.kind:Int),.string r.table,.int .u64 (r.doc:Int),.int .u64 (r.ver:Int),.int .u8 (xk:Int),.bool xb,.int .i64 xn,.string xs,.slice xa xl xc,.slice ya yl yc] 34):=⟨_,rfl⟩
                obtain ⟨D,hD⟩:∃D,D=u3.heap.size:=⟨_,rfl⟩
                have hb4:Below u3.heap.size u3 u4:=by rw [hu4];exact below_new _ _
                have HB34:Hid (Below u3.heap.size u3 u4):=hb4
                have HB24:Hid (Below u2.heap.size u2 u4):=hb3.trans (hb4.mono hb3.size)
                have HDX:Hid (u4.heap[D]?=some (.cells #[.int .u8 (r.kind:Int),.string r.table,.int .u64 (r.doc:Int),.int .u64 (r.ver:Int),.int .u8 (xk:Int),.bool xb,.int .i64 xn,.string xs,.slice xa xl xc,.slice ya yl yc] 34 (0,0))):=by
                  rw [hu4,hD];exact heap_alloc_new u3 _
                clear hb3 hb4 hyes hnot q3
                go_upto_region 20 with fail
                rw [←hu4,←hD]
                clear hu4 hD
                have q0:=block_cells (blk_call HBX.out HB24.out) 0 _ rfl
                cases ok
                · have HS:Hid (Jn.NoB s):=Jn.nob5 HIS.out (x:=⟨kx,bx,nx,sx,lx,fx⟩) (List.mem_of_getElem? HX.out) (.inr (HY.out.2 rfl))
                  have hres:=(S4.out.call (S2.out.call HB24.out).below).res
                  have fz:=row_freeV hres
                  have y0:=block_cells hres 0 _ rfl
                  have y1:=block_cells hres 1 _ rfl
                  have y2:=block_cells hres 2 _ rfl
                  have y3:=block_cells hres 3 _ rfl
                  have y4:=block_cells hres 4 _ rfl
                  have HF:Hid (_∧_):=(S4.out.call (S2.out.call HB24.out).below).nob HS.out
                  clear hres
                  go_wp2
                  all_goals rw [setsB5]
                  all_goals exact bodyPost_ret (v:=.tuple #[.agg #[.int .u64 0,.string ⟨#[]⟩,.string ⟨#[]⟩,.slice none 0 0,.slice none 0 0],.int .i64 11]) ((results_row_tmpV (fn:=Tryz.f20) (p:=2) (u:=3) (ty:=26) (by rfl) _ _ w.heap.size 26 #[.int .u64 0,.string ⟨#[]⟩,.string ⟨#[]⟩,.slice none 0 0,.slice none 0 0] (0,0) _ rfl HF.out.1 Tryz.underlying26 rfl info_blk).trans (by rfl)) rfl HF.out.2
                by_cases k4:kx=4
                case neg =>
                  have HS:Hid (Jn.NoB s):=Jn.nob5 HIS.out (x:=⟨kx,bx,nx,sx,lx,fx⟩) (List.mem_of_getElem? HX.out) (.inl k4)
                  have q1:((kx:Int) != 4)=true:=by simp;omega
                  have q2:((kx:Int)==4)=false:=by rw [beq_eq_false_iff_ne];omega
                  have hres:=(S4.out.call (S2.out.call HB24.out).below).res
                  have fz:=row_freeV hres
                  have y0:=block_cells hres 0 _ rfl
                  have y1:=block_cells hres 1 _ rfl
                  have y2:=block_cells hres 2 _ rfl
                  have y3:=block_cells hres 3 _ rfl
                  have y4:=block_cells hres 4 _ rfl
                  have HF:Hid (_∧_):=(S4.out.call (S2.out.call HB24.out).below).nob HS.out
                  clear hres
                  go_wp2
                  all_goals rw [setsB5]
                  all_goals exact bodyPost_ret (v:=.tuple #[.agg #[.int .u64 0,.string ⟨#[]⟩,.string ⟨#[]⟩,.slice none 0 0,.slice none 0 0],.int .i64 11]) ((results_row_tmpV (fn:=Tryz.f20) (p:=2) (u:=3) (ty:=26) (by rfl) _ _ w.heap.size 26 #[.int .u64 0,.string ⟨#[]⟩,.string ⟨#[]⟩,.slice none 0 0,.slice none 0 0] (0,0) _ rfl HF.out.1 Tryz.underlying26 rfl info_blk).trans (by rfl)) rfl HF.out.2
                subst k4
                have HYY:=HY.out.1 rfl
                have HRA:Hid (Bn.Is sx (Jn.rv r)∧Jn.Fits r∧RepA u3 (fun g=>u2.heap.size≤g∧g<u3.heap.size) r.val (.agg #[.int .u8 (xk:Int),.bool xb,.int .i64 xn,.string xs,.slice xa xl xc,.slice ya yl yc])):=HYY
                clear HYY HY
                obtain ⟨cs,hown,hkr⟩:=S2.out.row4
                have HKR:Hid (KeptR u2 (w4.heap.size+1) lv cs rs):=hkr
                have HOW0:Hid (u2.ownsRow (w4.heap.size+1) 34 10 lv rs.length cs):=hown
                rw [HRS.out.1] at hown
                have HOWN:Hid (u4.ownsRow (w4.heap.size+1) 34 10 lv j cs):=own_call hown HB24.out
                clear hown hkr
                obtain ⟨p0,p1,p2,p3,p4⟩:=(S2.out.call HB24.out).cells
                have x0:=block_cells HDX.out 0 _ rfl
                have x1:=block_cells HDX.out 1 _ rfl
                have x2:=block_cells HDX.out 2 _ rfl
                have x3:=block_cells HDX.out 3 _ rfl
                have x4:=block_cells HDX.out 4 _ rfl
                have x5:=block_cells HDX.out 5 _ rfl
                have x6:=block_cells HDX.out 6 _ rfl
                have x7:=block_cells HDX.out 7 _ rfl
                have x8:=block_cells HDX.out 8 _ rfl
                have x9:=block_cells HDX.out 9 _ rfl
                have fit63:Hid (j+1≤maxLen):=by show _≤_;unfold maxLen;omega
                have fit47:Hid ((j+1)*120≤140737488355328):=by show _≤_;omega
                have HSZ:Hid (w4.heap.size+1≤(u4.alloc (.cells #[.int .u8 (r.kind:Int),.string r.table,.int .u64 (r.doc:Int),.int .u64 (r.ver:Int),.int .u8 (xk:Int),.bool xb,.int .i64 xn,.string xs,.slice xa xl xc,.slice ya yl yc] 34)).heap.size):=by have:=(S2.out.call HB24.out).lt;show _≤_;simp;omega
                have HN:Hid (∀gg cap u5,(u4.alloc (.cells #[.int .u8 (r.kind:Int),.string r.table,.int .u64 (r.doc:Int),.int .u64 (r.ver:Int),.int .u8 (xk:Int),.bool xb,.int .i64 xn,.string xs,.slice xa xl xc,.slice ya yl yc] 34)).grownBy u5 lv.ownBlock→(lv.ownBlock=some gg∨gg=(u4.alloc (.cells #[.int .u8 (r.kind:Int),.string r.table,.int .u64 (r.doc:Int),.int .u64 (r.ver:Int),.int .u8 (xk:Int),.bool xb,.int .i64 xn,.string xs,.slice xa xl xc,.slice ya yl yc] 34)).heap.size)→u5.ownsRow (w4.heap.size+1) 34 10 (.slice (some ⟨gg,0,none⟩) (j+1) cap) (j+1) (cs++[.int .u8 (r.kind:Int),.string r.table,.int .u64 (r.doc:Int),.int .u64 (r.ver:Int),.int .u8 (xk:Int),.bool xb,.int .i64 xn,.string xs,.slice xa xl xc,.slice ya yl yc])→QT w4 sq sb sc l3 (.slice (some ⟨gg,0,none⟩) (j+1) cap) (ld.map fun x=>x.4) (rs++[r]) (u5.setCell ⟨w4.heap.size,4,none⟩ (.slice (some ⟨gg,0,none⟩) (j+1) cap))∧u5.heap[w4.heap.size]?=some (.cells #[.int .u64 (sq:Int),.string sb,.string sc,l3,lv] 26 (0,0))):=by
                  intro gg cap u5 hgr hat hno
                  have h:=QT.next4 (gg:=gg) (cap:=cap) S2.out HB3.out (HB34.out.trans ((below_new _ _).mono HB34.out.size)) HOW0.out HKR.out HRA.out.2.2 HRA.out.2.1 hgr hat (by rw [HRS.out.1];exact hno)
                  rw [HRS.out.1] at h
                  exact h
                have H6:Hid ((rs++[r]).length=j+1∧∀(i:Nat) (x:V) (q:Jn.R),le[i]?=some x→(rs++[r])[i]?=some q→x.1=4∧Bn.Is x.4 (Jn.rv q)∧Jn.Fits q):=by
                  refine ⟨by simp [HRS.out.1],fun i x q hx hq=>?_⟩
                  rcases Nat.lt_or_ge i rs.length with hi | hi
                  · rw [List.getElem?_append_left hi] at hq;exact HRS.out.2 i x q hx hq
                  · have hi2:i=j:=by
                      have:=(List.getElem?_eq_some_iff.1 hq).1
                      rw [List.length_append] at this
                      have h1:=HRS.out.1
                      simp at this;omega
                    subst hi2
                    rw [List.getElem?_append_right (by have:=HRS.out.1;omega),HRS.out.1,Nat.sub_self] at hq
                    simp at hq
                    subst hq
                    rw [HX.out] at hx
                    simp at hx
                    subst hx
                    exact ⟨rfl,HRA.out.1,HRA.out.2.1⟩
                go_wp2_with (first | (at_builtin;refine wpList_append_lies _ rfl _ _ 24 rfl (w4.heap.size+1) 34 ir _ 10 120 Tryz.underlying24 hir hr0 hr1 hr2 rfl (by decide) _ _ _ rfl (HOWN.out.alloc _) ⟨u4.heap.size,0,none⟩ 1 1 [.int .u8 (r.kind:Int),.string r.table,.int .u64 (r.doc:Int),.int .u64 (r.ver:Int),.int .u8 (xk:Int),.bool xb,.int .i64 xn,.string xs,.slice xa xl xc,.slice ya yl yc] rfl rfl (World.news_of_block (heap_alloc_new u4 _)) (by simp [Value.oneCell']) (by decide) fit63.out fit47.out HSZ.out _ rfl ?_;intro gg cap u5 hown5 hgrow hat hglt;have N:=HN.out gg cap u5 hgrow hat hown5;have S5:Hid (_):=N.1;have fz5:=row_freeV N.2;have t4:=block_cells N.2 4 _ rfl;clear N hown5 hgrow hat hglt))
                go_roundw
                case rel=>first | exact ⟨j+1,_,_,by omega,by go_num,S5.out,H6.out.1,H6.out.2⟩ | ((repeat apply Exists.intro);exact ⟨⟨j+1,_,_,by omega,by go_num,S5.out,H6.out.1,H6.out.2⟩,rfl⟩)
                case measure=>simp [intOf];omega
              · have hjn:j=en:=by omega
                subst hjn
                obtain ⟨a3,n3,c3,rfl⟩:∃a n c,l3=.slice a n c:=by obtain ⟨a,c,e⟩:=own_slc S.out.row3;exact ⟨a,_,c,e⟩
                obtain ⟨a4,n4,c4,rfl⟩:∃a n c,lv=.slice a n c:=by obtain ⟨cs,ho,_⟩:=S.out.row4;obtain ⟨a,c,e⟩:=own_slc ho;exact ⟨a,_,c,e⟩
                have HBN:Hid (BkN wr (w4.heap.size+1) ⟨sq,sb,sc,ld.map fun x=>x.4,rs⟩ (.slice a3 n3 c3) (.slice a4 n4 c4)):=S.out.bkn (by rw [HSQ.out];exact Jn.u64_lt _) hsb hsc HSS.out (by rw [HRS.out.1];unfold maxLen;omega)
                obtain ⟨ee,hee⟩:∃ee,ee=Jn.berr ⟨sq,sb,sc,ld.map fun x=>x.4,rs⟩:=⟨_,rfl⟩
                have HEE:Hid (ee=Jn.berr ⟨sq,sb,sc,ld.map fun x=>x.4,rs⟩):=hee
                have CC:Hid (Calls Tryz.prog 18 #[.agg #[.int .u64 (sq:Int),.string sb,.string sc,.slice a3 n3 c3,.slice a4 n4 c4]] wr fun e w'=>e=.returned (.int .i64 (ee:Int))∧Below wr.heap.size wr w'):=by
                  rw [hee];exact rcheckB_c ⟨sq,sb,sc,ld.map fun x=>x.4,rs⟩ a3 n3 c3 a4 n4 c4 wr HBN.out.bk
                clear hee
                obtain ⟨p0,p1,p2,p3,p4⟩:=S.out.cells
                go_wp2_with fail
                refine CC.out.mono ?_
                rintro e u6 ⟨rfl,hb6⟩
                have S6:Hid (QT w4 sq sb sc (.slice a3 n3 c3) (.slice a4 n4 c4) (ld.map fun x=>x.4) rs u6):=S.out.call hb6
                have HBM:Hid (BkN u6 (w4.heap.size+1) ⟨sq,sb,sc,ld.map fun x=>x.4,rs⟩ (.slice a3 n3 c3) (.slice a4 n4 c4)):=HBN.out.stays hb6
                clear hb6 CC S HBN p0 p1 p2 p3 p4
                by_cases h7:ee=0
                case neg =>
                  have HS:Hid (Jn.NoB s):=Jn.nob6 HIS.out (rs:=rs) (by show rs.length=le.length;rw [HRS.out.1];exact HEN.out) (fun i x q hx hq=>(HRS.out.2 i x q hx hq).2) (by rw [HEE.out,HSQ.out] at h7;exact h7)
                  have q1:((ee:Int) != 0)=true:=by simp;omega
                  have q2:((ee:Int)==0)=false:=by rw [beq_eq_false_iff_ne];omega
                  have hres:=(S4.out.call S6.out.below).res
                  have fz:=row_freeV hres
                  have y0:=block_cells hres 0 _ rfl
                  have y1:=block_cells hres 1 _ rfl
                  have y2:=block_cells hres 2 _ rfl
                  have y3:=block_cells hres 3 _ rfl
                  have y4:=block_cells hres 4 _ rfl
                  have HF:Hid (_∧_):=(S4.out.call S6.out.below).nob HS.out
                  clear hres
                  go_wp2
                  all_goals rw [setsB5]
                  all_goals exact bodyPost_ret (v:=.tuple #[.agg #[.int .u64 0,.string ⟨#[]⟩,.string ⟨#[]⟩,.slice none 0 0,.slice none 0 0],.int .i64 11]) ((results_row_tmpV (fn:=Tryz.f20) (p:=2) (u:=3) (ty:=26) (by rfl) _ _ w.heap.size 26 #[.int .u64 0,.string ⟨#[]⟩,.string ⟨#[]⟩,.slice none 0 0,.slice none 0 0] (0,0) _ rfl HF.out.1 Tryz.underlying26 rfl info_blk).trans (by rfl)) rfl HF.out.2
                have h70:Jn.berr ⟨sq,sb,sc,ld.map fun x=>x.4,rs⟩=0:=by rw [←HEE.out];exact h7
                have q1:((ee:Int) != 0)=false:=by simp;omega
                have q2:((ee:Int)==0)=true:=by rw [beq_iff_eq];omega
                have HT:Hid (Jn.berr ⟨sq,sb,sc,ld.map fun x=>x.4,rs⟩=0∧Jn.btext ⟨sq,sb,sc,ld.map fun x=>x.4,rs⟩=s):=by
                  refine ⟨h70,?_⟩
                  rw [HSQ.out] at h70 ⊢
                  exact Jn.yesB HIS.out rfl HGX.out rfl rfl rfl rfl HX9.out (by show rs.length=le.length;rw [HRS.out.1];exact HEN.out) HRS.out.2 h70
                clear h70 h7
                have R6:=S4.out.call S6.out.below
                have G:=R6.put HBM.out (Nat.lt_of_lt_of_le S4.out.lt (Nat.le_succ _))
                have HF:Hid ((u6.setCells w.heap.size 0 [.int .u64 (sq:Int),.string sb,.string sc,.slice a3 n3 c3,.slice a4 n4 c4]).heap[w.heap.size]?=some (.cells #[.int .u64 (sq:Int),.string sb,.string sc,.slice a3 n3 c3,.slice a4 n4 c4] 26 (0,0))∧BlockRead s w (.returned (.tuple #[.agg #[.int .u64 (sq:Int),.string sb,.string sc,.slice a3 n3 c3,.slice a4 n4 c4],.int .i64 0])) (u6.setCells w.heap.size 0 [.int .u64 (sq:Int),.string sb,.string sc,.slice a3 n3 c3,.slice a4 n4 c4])):=⟨G.1,G.2.1,.inl ⟨⟨sq,sb,sc,ld.map fun x=>x.4,rs⟩,_,_,HT.out.1,HT.out.2,rfl,G.2.2⟩⟩
                clear G
                obtain ⟨p0,p1,p2,p3,p4⟩:=S6.out.cells
                have hres:=R6.res
                have fz:=row_freeV hres
                have y0:=block_cells hres 0 _ rfl
                have y1:=block_cells hres 1 _ rfl
                have y2:=block_cells hres 2 _ rfl
                have y3:=block_cells hres 3 _ rfl
                have y4:=block_cells hres 4 _ rfl
                clear hres R6
                go_wp2
                rw [setsB5]
                exact bodyPost_ret (v:=.tuple #[.agg #[.int .u64 (sq:Int),.string sb,.string sc,.slice a3 n3 c3,.slice a4 n4 c4],.int .i64 0]) ((results_row_tmpV (fn:=Tryz.f20) (p:=2) (u:=3) (ty:=26) (by rfl) _ _ w.heap.size 26 #[.int .u64 (sq:Int),.string sb,.string sc,.slice a3 n3 c3,.slice a4 n4 c4] (0,0) _ rfl HF.out.1 Tryz.underlying26 rfl info_blk).trans (by rfl)) rfl HF.out.2
      · have HS:Hid (Jn.NoB s):=Jn.nob2 hIs h5
        have q1:((l.length:Int) != 5)=true:=by simp;omega
        have q2:((l.length:Int)==5)=false:=by rw [beq_eq_false_iff_ne];omega
        subst h1
        clear hIs hL hF hsm
        obtain ⟨w3,hw3⟩:∃w3,w3=w2.alloc (.cells #[.int .u8 5,.bool zb,.int .i64 zn,.string zs,.slice za l.length zc,.slice ta f.length tc] 32):=⟨_,rfl⟩
        obtain ⟨E,hE⟩:∃E,E=w2.heap.size:=⟨_,rfl⟩
        have b3:Below w2.heap.size w2 w3:=by rw [hw3];exact below_new _ _
        have S3:Hid (R5 w w3):=S2.out.call b3
        have B3:Hid (Row6 w3 E (.int .u8 5) (.bool zb) (.int .i64 zn) (.string zs) (.slice za l.length zc) (.slice ta f.length tc)):=by
          show Row6 _ _ _ _ _ _ _ _
          rw [hw3,hE];exact ⟨by simp,heap_alloc_new w2 _⟩
        go_upto_region 2 with fail
        rw [←hw3,←hE]
        clear hw3 hE S2
        obtain ⟨p0,p1,p2,p3,p4,p5⟩:=B3.out.cells
        have hres:=(S3.out).res
        have fz:=row_freeV hres
        have y0:=block_cells hres 0 _ rfl
        have y1:=block_cells hres 1 _ rfl
        have y2:=block_cells hres 2 _ rfl
        have y3:=block_cells hres 3 _ rfl
        have y4:=block_cells hres 4 _ rfl
        have HF:Hid (_∧_):=(S3.out).nob HS.out
        clear hres
        go_wp2
        all_goals rw [setsB5]
        all_goals exact bodyPost_ret (v:=.tuple #[.agg #[.int .u64 0,.string ⟨#[]⟩,.string ⟨#[]⟩,.slice none 0 0,.slice none 0 0],.int .i64 11]) ((results_row_tmpV (fn:=Tryz.f20) (p:=2) (u:=3) (ty:=26) (by rfl) _ _ w.heap.size 26 #[.int .u64 0,.string ⟨#[]⟩,.string ⟨#[]⟩,.slice none 0 0,.slice none 0 0] (0,0) _ rfl HF.out.1 Tryz.underlying26 rfl info_blk).trans (by rfl)) rfl HF.out.2
    · have HS:Hid (Jn.NoB s):=Jn.nob1 hIs h1
      have q1:((zk:Int) != 5)=true:=by simp;omega
      have q2:((zk:Int)==5)=false:=by rw [beq_eq_false_iff_ne];omega
      clear hIs hL hF hsm
      obtain ⟨w3,hw3⟩:∃w3,w3=w2.alloc (.cells #[.int .u8 (zk:Int),.bool zb,.int .i64 zn,.string zs,.slice za l.length zc,.slice ta f.length tc] 32):=⟨_,rfl⟩
      obtain ⟨E,hE⟩:∃E,E=w2.heap.size:=⟨_,rfl⟩
      have b3:Below w2.heap.size w2 w3:=by rw [hw3];exact below_new _ _
      have S3:Hid (R5 w w3):=S2.out.call b3
      have B3:Hid (Row6 w3 E (.int .u8 (zk:Int)) (.bool zb) (.int .i64 zn) (.string zs) (.slice za l.length zc) (.slice ta f.length tc)):=by
        show Row6 _ _ _ _ _ _ _ _
        rw [hw3,hE];exact ⟨by simp,heap_alloc_new w2 _⟩
      go_upto_region 2 with fail
      rw [←hw3,←hE]
      clear hw3 hE S2
      obtain ⟨p0,p1,p2,p3,p4,p5⟩:=B3.out.cells
      have hres:=(S3.out).res
      have fz:=row_freeV hres
      have y0:=block_cells hres 0 _ rfl
      have y1:=block_cells hres 1 _ rfl
      have y2:=block_cells hres 2 _ rfl
      have y3:=block_cells hres 3 _ rfl
      have y4:=block_cells hres 4 _ rfl
      have HF:Hid (_∧_):=(S3.out).nob HS.out
      clear hres
      go_wp2
      all_goals rw [setsB5]
      all_goals exact bodyPost_ret (v:=.tuple #[.agg #[.int .u64 0,.string ⟨#[]⟩,.string ⟨#[]⟩,.slice none 0 0,.slice none 0 0],.int .i64 11]) ((results_row_tmpV (fn:=Tryz.f20) (p:=2) (u:=3) (ty:=26) (by rfl) _ _ w.heap.size 26 #[.int .u64 0,.string ⟨#[]⟩,.string ⟨#[]⟩,.slice none 0 0,.slice none 0 0] (0,0) _ rfl HF.out.1 Tryz.underlying26 rfl info_blk).trans (by rfl)) rfl HF.out.2
  · have HS:Hid (Jn.NoB s):=fun c hc _ e=>hno _ (by rw [←e];exact Jn.is_blk hc)
    obtain ⟨er,her⟩:∃er:Int,er=(if 16384<s.size then 4 else 11):=⟨_,rfl⟩
    have q1:(er != 0)=true:=by rw [her];split<;>rfl
    have q2:(er==0)=false:=by rw [her];split<;>rfl
    rw [←her]
    clear her hno
    obtain ⟨w3,hw3⟩:∃w3,w3=w2.alloc (.cells #[.int .u8 0,.bool false,.int .i64 0,.string ⟨#[]⟩,.slice none 0 0,.slice none 0 0] 32):=⟨_,rfl⟩
    obtain ⟨E,hE⟩:∃E,E=w2.heap.size:=⟨_,rfl⟩
    have b3:Below w2.heap.size w2 w3:=by rw [hw3];exact below_new _ _
    have S3:Hid (R5 w w3):=S2.out.call b3
    have B3:Hid (Row6 w3 E (.int .u8 0) (.bool false) (.int .i64 0) (.string ⟨#[]⟩) (.slice none 0 0) (.slice none 0 0)):=by
      show Row6 _ _ _ _ _ _ _ _
      rw [hw3,hE];exact ⟨by simp,heap_alloc_new w2 _⟩
    go_upto_region 2 with fail
    rw [←hw3,←hE]
    clear hw3 hE S2
    obtain ⟨p0,p1,p2,p3,p4,p5⟩:=B3.out.cells
    have hres:=(S3.out).res
    have fz:=row_freeV hres
    have y0:=block_cells hres 0 _ rfl
    have y1:=block_cells hres 1 _ rfl
    have y2:=block_cells hres 2 _ rfl
    have y3:=block_cells hres 3 _ rfl
    have y4:=block_cells hres 4 _ rfl
    have HF:Hid (_∧_):=(S3.out).nob HS.out
    clear hres
    go_wp2
    all_goals rw [setsB5]
    all_goals exact bodyPost_ret (v:=.tuple #[.agg #[.int .u64 0,.string ⟨#[]⟩,.string ⟨#[]⟩,.slice none 0 0,.slice none 0 0],.int .i64 11]) ((results_row_tmpV (fn:=Tryz.f20) (p:=2) (u:=3) (ty:=26) (by rfl) _ _ w.heap.size 26 #[.int .u64 0,.string ⟨#[]⟩,.string ⟨#[]⟩,.slice none 0 0,.slice none 0 0] (0,0) _ rfl HF.out.1 Tryz.underlying26 rfl info_blk).trans (by rfl)) rfl HF.out.2
end Go.Proofs.YtggnfejjcgbebaaGreatDoor
