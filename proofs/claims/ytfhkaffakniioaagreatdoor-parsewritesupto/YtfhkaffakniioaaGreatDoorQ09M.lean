/- Several texts, joined. -/
import Derived.Test.YtfhkaffakniioaaGreatDoorQ08M
import Derived.Deep.MidRow
import Derived.Lib.ItoaLen
set_option maxHeartbeats 4000000
set_option maxRecDepth 100000
namespace Go.Proofs.YtfhkaffakniioaaGreatDoor
open Go.RowKit
namespace Ps
theorem zbG {W:World} {g k i:Nat} {v:Value} (h:k≠g):(W.setCell ⟨g,i,none⟩ v).heap[k]?=W.heap[k]?:=heap_setCell_other _ _ _ _ h
theorem zbV {k g:Nat} (hk:k≠g):∀(vs:List Value) (o:Nat) (W:World),(W.setCells g o vs).heap[k]?=W.heap[k]?
 | [],_,_=>rfl
 | v :: r,o,W=>by rw[World.setCells,zbV hk r];exact zbG hk
theorem zbS (g:Nat):∀(vs:List Value) (o:Nat) (W:World),Kp (fun k=>k=g) W (W.setCells g o vs)
 | [],_,W=>Kp.of_below (Below.refl _ _)
 | v :: r,o,W=>by
  rw[World.setCells]
  exact Kp.trans (F:=fun k=>k=g) (b:=W.setCell ⟨g,o,none⟩ v) ⟨rfl,rfl,rfl,by simp,fun k _ hk=>zbG hk⟩ (zbS g r (o+1) _) (fun _ _ q=>q)
theorem own_sets {W:World} {B n size p o:Nat} {us:List Value} {t:TypeId} {v:Value} {L:List Value} (h:W.ownsRow B t size v n L) (hp:some p≠v.ownBlock):(W.setCells p o us).ownsRow B t size v n L:=by
 refine⟨h.1,?_⟩
 rcases h.2 with h1 | ⟨g,cap,cur,rfl,h2,h3,h4⟩
 ·exact Or.inl h1
 ·exact Or.inr ⟨g,cap,cur,rfl,h2,(zbV (fun e=>hp (by rw[e];rfl)) _ _ _).trans h3,h4⟩
theorem put4 {W:World} {g:Nat} {t:TypeId} {z0 z1 z2 z3:Value} (h:W.heap[g]?=some (.cells #[z0,z1,z2,z3] t (0,0))) (a0 a1 a2 a3:Value):(W.setCells g 0 [a0,a1,a2,a3]).heap[g]?=some (.cells #[a0,a1,a2,a3] t (0,0)):=by
 have h1:=heap_setCell_same W g 0 _ t a0 h
 have h2:=heap_setCell_same _ g 1 _ t a1 h1
 have h3:=heap_setCell_same _ g 2 _ t a2 h2
 have h4:=heap_setCell_same _ g 3 _ t a3 h3
 exact h4
section
variable {W0:World} {pb:Nat} {W W' W1:World} {s s':S} {sb sb1:Option Nat}
theorem PS.put (h:PS W0 W pb s sb) {R i:Nat} {C:Array Value} {t:TypeId} {us:List Value} (hR:W.heap[R]?=some (.cells C t (0,0))) (h1:t≠67) (h2:t≠29) (h3:W0.heap.size≤R):PS W0 (W.setCells R i us) pb s sb:=by
 obtain⟨ra,rc,sv,e1,e2,e3,e4,e5,e6⟩:=h.ex
 have n1:pb≠R:=fun e=>by rw[←e,e1] at hR;cases hR;exact h1 rfl
 have n2:some R≠sv.ownBlock:=fun e=>by
  rcases e4.2 with ⟨q,_⟩ | ⟨g,cap,cur,q,_,q2,_⟩
  ·rw[q] at e;cases e
  ·rw[q] at e
   cases e
   rw[q2] at hR
   cases hR
   exact h2 rfl
 exact⟨h.lt,h.below.trans ((zbS R us i W).below (fun g q=>by omega) (Nat.le_trans h.lt (Nat.le_of_lt h.blt))),⟨ra,rc,sv,(zbV n1 _ _ _).trans e1,e2.stays fun g hg=>zbV (by omega) _ _ _,e3,own_sets e4 n2,e5,e6⟩,h.lim,h.fit,h.around,h.nums⟩
theorem PS.apart (h:PS W0 W pb s sb) {R:Nat} {C:Array Value} {t:TypeId} (hR:W.heap[R]?=some (.cells C t (0,0))) (h1:t≠67) (h2:t≠29):pb≠R∧∀g,sb=some g→g≠R:=by
 obtain⟨ra,rc,sv,e1,e2,e3,e4,e5,e6⟩:=h.ex
 refine⟨fun e=>by rw[←e,e1] at hR;cases hR;exact h1 rfl,fun g e q=>?_⟩
 subst q
 rcases e4.2 with ⟨q,_⟩ | ⟨g',cap,cur,q,_,q2,_⟩
 ·rw[q] at e5;rw[e] at e5;cases e5
 ·rw[q,e] at e5
  cases e5
  rw[q2] at hR
  cases hR
  exact h2 rfl
theorem PG.put (h:PG W0 pb W sb s W1) (hb:W0.heap.size≤W.heap.size) {R i:Nat} {C:Array Value} {t:TypeId} {us:List Value} (hR:W1.heap[R]?=some (.cells C t (0,0))) (h1:t≠67) (h2:t≠29) (h3:W.heap.size≤R):PG W0 pb W sb s (W1.setCells R i us):=by
 obtain⟨sb1,k1,k2⟩:=h
 obtain⟨n1,n2⟩:=k1.apart hR h1 h2
 refine⟨sb1,k1.put hR h1 h2 (Nat.le_trans hb h3),⟨k2.kept.trans (zbS R us i W1) fun g hg q=>?_,k2.new,k2.stp.trans k2.kept.size (Stp.same (fun _=>slen_of (zbV n1 _ _ _)) fun g e _=>zbV (n2 g e) _ _ _)⟩⟩
 omega
theorem PG.block (h:PG W0 pb W sb s W1) {g:Nat} (hg:g<W.heap.size) (h1:g≠pb) (h2:sb≠some g):W1.heap[g]?=W.heap[g]?:=by
 obtain⟨sb1,k1,k2⟩:=h
 exact k2.kept.block g hg fun q=>q.elim h1 h2
theorem PG.size (h:PG W0 pb W sb s W1):W.heap.size≤W1.heap.size:=by
 obtain⟨sb1,k1,k2⟩:=h
 exact k2.kept.size
theorem PG.below (h:PG W0 pb W sb s W1) (hb:W0.heap.size≤W.heap.size) (hp:PS W0 W pb s' sb):Below W0.heap.size W W1:=by
 obtain⟨sb1,k1,k2⟩:=h
 exact k2.kept.below (fun g q=>q.elim (fun e=>by rw[e];exact hp.lt) fun e=>(hp.sblt g e).1) hb
theorem PS.base_le (h:PS W0 W pb s sb):W0.heap.size≤W.heap.size:=Nat.le_trans h.lt (Nat.le_of_lt h.blt)
theorem PS.ne (h:PS W0 W pb s sb) {R:Nat} (hR:W.heap.size≤R):R≠pb∧sb≠some R:=⟨by have:=h.blt;omega,fun e=>by have:=(h.sblt R e).2;omega⟩
theorem next_c (h:PS W0 W pb s sb) (hne:s.over=false→s.rest≠[]):Calls Tryz.prog 103 #[.pointer (some ⟨pb,0,none⟩)] W fun e W'=>e=.returned (tv (nextT s))∧PG W0 pb W sb (next s) W':=by
 obtain⟨w1,hw1⟩:∃w1,w1=W.alloc (.cells #[.int .u8 0,.string ⟨#[]⟩,.int .i64 0,.int .i64 0] 92):=⟨_,rfl⟩
 obtain⟨R,hR⟩:∃R,R=W.heap.size:=⟨_,rfl⟩
 have X1:Hid (w1.heap[R]?=some (.cells #[.int .u8 0,.string ⟨#[]⟩,.int .i64 0,.int .i64 0] 92 (0,0))∧Below W.heap.size W w1∧R=W.heap.size):=⟨by rw[hw1,hR];exact heap_alloc_new W _,by rw[hw1];exact bnew _ _,hR⟩
 obtain⟨t,ht⟩:∃t,t=token s:=⟨_,rfl⟩
 have CT:Hid (∀W',Below W.heap.size W W'→Calls Tryz.prog 104 #[.pointer (some ⟨pb,0,none⟩)] W' fun e W''=>e=.returned (.agg #[.int .u8 (t.kind:Int),.string (Lx.bs t.text),.int .i64 t.n,.int .i64 (t.at':Int)])∧Below W'.heap.size W' W''):=fun W' hb=>by
  have:=token_c (h.call hb)
  rw[←ht] at this
  exact this
 have HP:Hid (PS W0 W pb s sb):=h
 have CF:Hid (∀W',Below W.heap.size W W'→Calls Tryz.prog 77 #[.pointer (some ⟨pb,0,none⟩),.int .i64 3] W' fun en W''=>en=.returned (.tuple #[])∧Hid (PG W0 pb W' sb (fail 3 s) W'')):=fun W' hb=>fail_c (h.call hb) 3
 have HT:Hid (t=token s):=ht
 have HNE:Hid (s.over=false→s.rest≠[]):=hne
 clear hne ht h
 go_enter Tryz.func103,Tryz.ntmps103
 go_upto_region 1 with fail
 rw[←hw1,←hR]
 clear hw1 hR
 go_wp2_with fail
 refine(CT.out w1 X1.out.2.1).mono ?_
 rintro e w2 ⟨rfl,hb2⟩
 have X2:Hid (w2.heap[R]?=some (.cells #[.int .u8 0,.string ⟨#[]⟩,.int .i64 0,.int .i64 0] 92 (0,0))∧Below W.heap.size W w2∧R=W.heap.size):=⟨(hb2.block R (row_lt X1.out.1)).trans X1.out.1,X1.out.2.1.trans (hb2.mono X1.out.2.1.size),X1.out.2.2⟩
 clear hb2 X1 CT
 go_upto_region 2 with fail
 obtain⟨w3,hw3⟩:∃w3,w3=w2.alloc (.cells #[.int .u8 (t.kind:Int),.string (Lx.bs t.text),.int .i64 t.n,.int .i64 (t.at':Int)] 92):=⟨_,rfl⟩
 obtain⟨T,hT⟩:∃T,T=w2.heap.size:=⟨_,rfl⟩
 have X3:Hid (w3.heap[R]?=some (.cells #[.int .u8 0,.string ⟨#[]⟩,.int .i64 0,.int .i64 0] 92 (0,0))∧w3.heap[T]?=some (.cells #[.int .u8 (t.kind:Int),.string (Lx.bs t.text),.int .i64 t.n,.int .i64 (t.at':Int)] 92 (0,0))∧Below W.heap.size W w3∧R=W.heap.size∧R<T):=by
  have hb:Below w2.heap.size w2 w3:=by rw[hw3];exact bnew _ _
  exact⟨(hb.block R (row_lt X2.out.1)).trans X2.out.1,by rw[hw3,hT];exact heap_alloc_new w2 _,X2.out.2.1.trans (hb.mono X2.out.2.1.size),X2.out.2.2,by rw[hT];exact row_lt X2.out.1⟩
 rw[←hw3,←hT]
 clear hw3 hT X2
 obtain⟨ra,rc,sv,H,p0,p1,p2,p3,p4,p5,p6,pf⟩:=(HP.out.call X3.out.2.2.1).cells
 clear p1 p3 p4 p5 p6
 have hpl:=(HP.out.call X3.out.2.2.1).blt
 have r0:=fun i v (hv:(#[.int .u8 0,.string ⟨#[]⟩,.int .i64 0,.int .i64 0]:Array Value)[i]?=some v)=>(by rw[cell_of_row _ _ _ _ _ _ X3.out.1];exact hv:w3.cell? ⟨R,i,none⟩=some v)
 cases hov:s.over with
 | true =>
  rw[hov] at p2
  clear p0 H pf r0 HNE
  go_wp2_with (go_at_call 77;refine(CF.out w3 X3.out.2.2.1).mono ?_;rintro en w4 ⟨rfl,HG⟩;have hR4:w4.heap[R]?=some (.cells #[.int .u8 0,.string ⟨#[]⟩,.int .i64 0,.int .i64 0] 92 (0,0)):=(by obtain⟨n1,n2⟩:=HP.out.ne (R:=R) (by rw[X3.out.2.2.2.1];exact Nat.le_refl _);exact(HG.out.block (row_lt X3.out.1) n1 n2).trans X3.out.1);have X4:Hid (w4.heap[R]?=some (.cells #[.int .u8 0,.string ⟨#[]⟩,.int .i64 0,.int .i64 0] 92 (0,0))):=hR4;have d0:w4.cell? ⟨R,0,none⟩=some (.int .u8 0):=(by rw[cell_of_row _ _ _ _ _ _ hR4];rfl);have d1:w4.cell? ⟨R,1,none⟩=some (.string ⟨#[]⟩):=(by rw[cell_of_row _ _ _ _ _ _ hR4];rfl);have d2:w4.cell? ⟨R,2,none⟩=some (.int .i64 0):=(by rw[cell_of_row _ _ _ _ _ _ hR4];rfl);have d3:w4.cell? ⟨R,3,none⟩=some (.int .i64 0):=(by rw[cell_of_row _ _ _ _ _ _ hR4];rfl);have df:∀r,w4.frozen? ⟨R,r,none⟩=false:=(fun r=>by simp[World.frozen?,hR4]);clear hR4)
  have HN:Hid (nextT s=zero∧next s=fail 3 s):=⟨by rw[nextT,if_pos hov],by rw[next,if_pos hov]⟩
  have HG2:Hid (PG W0 pb W sb (next s) (w4.setCells R 0 [.int .u8 0,.string ⟨#[]⟩,.int .i64 0,.int .i64 0])):=by
   rw[HN.out.2]
   exact(HG.out.pre X3.out.2.2.1).put HP.out.base_le X4.out (by decide) (by decide) (by rw[X3.out.2.2.2.1];exact Nat.le_refl _)
  exact bodyPost_ret (v:=tv zero) (results_cell_row rfl _ _ R 92 #[.int .u8 0,.string ⟨#[]⟩,.int .i64 0,.int .i64 0] (0,0) _ rfl (put4 X4.out _ _ _ _) Tryz.underlying92 rfl (by kernel_rfl)) rfl ⟨by rw[HN.out.1],HG2.out⟩
 | false =>
  rw[hov] at p2
  obtain⟨t',r,hr⟩:∃t' r,s.rest=t' :: r:=by
   have:=HNE.out hov
   cases h:s.rest with
   | nil=>exact absurd h this
   | cons a b=>exact⟨a,b,rfl⟩
  have e1:=H.out.1
  rw[hr] at e1
  obtain⟨g,o,rfl,hg,-⟩:=e1 0 t' rfl
  have HTK:Hid (Tks w3 W0.heap.size (some ⟨g,o,none⟩) (t' :: r)∧r.length+1≤rc∧rc≤9223372036854775807∧s.rest=t' :: r):=by
   have:=H.out.2.1
   rw[hr] at this
   exact⟨e1,this.1,this.2,hr⟩
  obtain⟨m,hm⟩:∃m,m=r.length:=⟨_,rfl⟩
  obtain⟨m1,hm1⟩:∃m1,m1=m+1:=⟨_,rfl⟩
  have HM:Hid (m=r.length∧m1=m+1):=⟨hm,hm1⟩
  rw[hr,List.length_cons,←hm,←hm1] at p0
  clear e1 H hr hm hg
  have r1:=r0 1 _ rfl
  have r2:=r0 2 _ rfl
  have r3:=r0 3 _ rfl
  have r00:=r0 0 _ rfl
  have rl:=row_lt X3.out.1
  have rf:∀r,w3.frozen? ⟨R,r,none⟩=false:=fun r=>by simp[World.frozen?,X3.out.1]
  have y0:w3.cell? ⟨T,0,none⟩=some (.int .u8 (t.kind:Int)):=by rw[cell_of_row _ _ _ _ _ _ X3.out.2.1];rfl
  have y1:w3.cell? ⟨T,1,none⟩=some (.string (Lx.bs t.text)):=by rw[cell_of_row _ _ _ _ _ _ X3.out.2.1];rfl
  have y2:w3.cell? ⟨T,2,none⟩=some (.int .i64 t.n):=by rw[cell_of_row _ _ _ _ _ _ X3.out.2.1];rfl
  have y3:w3.cell? ⟨T,3,none⟩=some (.int .i64 (t.at':Int)):=by rw[cell_of_row _ _ _ _ _ _ X3.out.2.1];rfl
  have n1:¬R=pb:=(HP.out.ne (by rw[X3.out.2.2.2.1];exact Nat.le_refl _)).1
  have n2:¬pb=R:=fun e=>n1 e.symm
  have n3:¬T=R:=by have:=X3.out.2.2.2.2;omega
  have n4:¬T=pb:=by have:=X3.out.2.2.2;have:=HP.out.blt;omega
  have n5:¬pb=T:=fun e=>n4 e.symm
  have n6:¬R=T:=fun e=>n3 e.symm
  have s1:(1:Int)≤(m1:Int):=by omega
  have s2:(m1:Int)≤(rc:Int):=by have:=HTK.out.2.1;have:=HM.out;omega
  clear r0 hm1
  have FIN:Hid (∀(a:Option Addr) (n c:Nat),n=r.length→n≤c∧c≤9223372036854775807→Tks w3 W0.heap.size a r→PG W0 pb W sb (next s) ((w3.setCell ⟨pb,0,none⟩ (.slice a n c)).setCells R 0 [.int .u8 (t.kind:Int),.string (Lx.bs t.text),.int .i64 t.n,.int .i64 (t.at':Int)])∧((w3.setCell ⟨pb,0,none⟩ (.slice a n c)).setCells R 0 [.int .u8 (t.kind:Int),.string (Lx.bs t.text),.int .i64 t.n,.int .i64 (t.at':Int)]).heap[R]?=some (.cells #[.int .u8 (t.kind:Int),.string (Lx.bs t.text),.int .i64 t.n,.int .i64 (t.at':Int)] 92 (0,0))):=by
   intro a n c hn hc ht
   subst hn
   obtain⟨c1,c2⟩:=(HP.out.call X3.out.2.2.1).setRest (ra':=a) (rc':=c) (l:=r) (by rw[HTK.out.2.2.2];simp) (fun t q=>by rw[HTK.out.2.2.2];simp[q]) ht hc
   have hR4:(w3.setCell ⟨pb,0,none⟩ (.slice a r.length c)).heap[R]?=some (.cells #[.int .u8 0,.string ⟨#[]⟩,.int .i64 0,.int .i64 0] 92 (0,0)):=(zbG n1).trans X3.out.1
   have e1:next s={ s with rest:=r }:=by rw[next,hov,HTK.out.2.2.2];rfl
   refine⟨?_,put4 hR4 _ _ _ _⟩
   rw[e1]
   exact(PG.pre ⟨sb,c1,c2⟩ X3.out.2.2.1).put HP.out.base_le hR4 (by decide) (by decide) (by rw[X3.out.2.2.2.1];exact Nat.le_refl _)
  have HN:Hid (nextT s=t):=by
   show nextT s=t
   rw[nextT,hov,HT.out];rfl
  by_cases hc:rc=1
  ·have hm0:m1=1:=by have:=HTK.out.2.1;have:=HM.out;omega
   subst hc hm0
   clear s1 s2
   go_wp2
   obtain⟨f1,f2⟩:=FIN.out (some ⟨g,o,none⟩) 0 0 (by have:=HM.out;omega) (by omega) (by
    have:r=[]:=List.eq_nil_of_length_eq_zero (by have:=HM.out;omega)
    rw[this]
    exact Tks.nil _ _ _)
   exact bodyPost_ret (v:=tv t) (results_cell_row rfl _ _ R 92 #[.int .u8 (t.kind:Int),.string (Lx.bs t.text),.int .i64 t.n,.int .i64 (t.at':Int)] (0,0) _ rfl f2 Tryz.underlying92 rfl (by kernel_rfl)) rfl ⟨by rw[HN.out],f1⟩
  ·go_wp2
   have em:m1 - 1=r.length:=by have:=HM.out;omega
   obtain⟨f1,f2⟩:=FIN.out (some ⟨g,o+4,none⟩) (m1 - 1) (rc - 1) em (by have:=HTK.out;have:=HM.out;omega) HTK.out.1.tail
   exact bodyPost_ret (v:=tv t) (results_cell_row rfl _ _ R 92 #[.int .u8 (t.kind:Int),.string (Lx.bs t.text),.int .i64 t.n,.int .i64 (t.at':Int)] (0,0) _ rfl f2 Tryz.underlying92 rfl (by kernel_rfl)) rfl ⟨by rw[HN.out],f1⟩
end
end Ps
end Go.Proofs.YtfhkaffakniioaaGreatDoor
namespace Go.Proofs.YtfhkaffakniioaaGreatDoor
open Go.RowKit
namespace Lx
def shw (k:Nat) (t:Bs) (n:Int):Option Bs:=if 1024<t.length then none else if lex (wr k t n)=⟨[⟨k,t,n,0⟩],0,0⟩ then some (wr k t n) else none
def shown:Option Bs→Ending
 | none=>.returned (.tuple #[.string ⟨#[]⟩,.int .i64 13])
 | some s=>.returned (.tuple #[.string (bs s),.int .i64 0])
theorem lex_pos {l:Bs} (h:(lex l).err=0):(lex l).pos=0:=by
 rw[lex] at h ⊢
 split
 ·rfl
 ·rename_i h1
  rw[if_neg h1,←lx_form,join] at h
  rw[←lx_form,join]
  split
  ·rename_i h2;rw[if_pos h2] at h;exact absurd h h2
  ·rfl
theorem wr_len {k:Nat} {t:Bs} {n:Int} (ht:t.length≤1024) (hn:-9223372036854775808≤n∧n≤9223372036854775807):(wr k t n).length≤4096:=by
 rw[wr]
 split
 ·have:=Lib.itoa_length_le n hn.1 hn.2;omega
 ·split
  ·have:=dbl_len t;simp;omega
  ·omega
end Lx
theorem zdL {W:World} {base e sz n:Nat} {v:Value} {xs:List Value} (h:W.ownsRow base e sz v n xs):∃a c,v=.slice a n c:=by
 rcases h.2 with ⟨e1,e2⟩ | ⟨g,cap,cur,e1,_⟩
 ·exact⟨none,0,by rw[e1,e2]⟩
 ·exact⟨_,_,e1⟩
theorem zcF {W:World} {B n size:Nat} {t:TypeId} {v:Value} {L:List Value} (hn:0<n) (h:W.ownsRow B t size v n L):∃g cap,v=.slice (some ⟨g,0,none⟩) n cap∧g<W.heap.size∧∀(j:Nat) (u:Value),L[j]?=some u→W.cell? ⟨g,j,none⟩=some u:=by
 have hL:=h.1
 rcases h.2 with ⟨_,h1⟩ | ⟨g,cap,cur,rfl,hb,hrow,_,_,_,htk⟩
 ·omega
 ·refine⟨g,cap,rfl,(Array.getElem?_eq_some_iff.1 hrow).1,fun j u hu=>?_⟩
  rw[cell_of_row _ _ _ _ _ _ hrow]
  have hj:j<n*size:=by have:=(List.getElem?_eq_some_iff.1 hu).1;omega
  rw[←htk,List.getElem?_take_of_lt (by omega),Array.getElem?_toList] at hu
  exact hu
theorem zaD {P:Program} {fn:Func} {a b:Tmp} (h:fn.results=#[.tmp a,.tmp b]) (tmps:Array Value) (w:World):(results fn tmps).run P w=.ok (.tuple #[tmps.getD a undef,tmps.getD b undef]) w:=by
 simp only[results,h]
 simp
theorem neqTok (k2 k:Int) (s2 s:ByteArray) (n2 n a2 a:Int) (w:World):(binOp .neq 92 (.agg #[.int .u8 k2,.string s2,.int .i64 n2,.int .i64 a2]) (.agg #[.int .u8 k,.string s,.int .i64 n,.int .i64 a])).run Tryz.prog w=.ok (.bool (!((k2==k) && (s2.toList==s.toList) && (n2==n) && (a2==a)))) w:=by
 rw[run_neq_struct,run_equalIn_agg (P:=Tryz.prog) w 9999 92 _ _ (by kernel_rfl) (by kernel_rfl)]
 simp[go_sem]
 by_cases h1:k2=k
 ·by_cases h2:s2.toList=s.toList
  ·by_cases h3:n2=n
   ·by_cases h4:a2=a
    ·simp[h1,h2,h3,h4]
    ·simp[h1,h2,h3,h4]
   ·simp[h1,h2,h3]
  ·simp[h1,h2]
 ·simp[h1]
theorem show_c (k:Nat) (t:Lx.Bs) (n a:Int) (hn:-9223372036854775808≤n∧n≤9223372036854775807) (w:World) (hL:HasL w):Calls Tryz.prog 81 #[.agg #[.int .u8 (k:Int),.string (Lx.bs t),.int .i64 n,.int .i64 a]] w fun e w'=>e=Lx.shown (Lx.shw k t n)∧Below w.heap.size w w':=by
 obtain⟨w1,hw1⟩:∃w1,w1=w.alloc (.cells #[.int .u8 (k:Int),.string (Lx.bs t),.int .i64 n,.int .i64 a] 92):=⟨_,rfl⟩
 have hb1:Below w.heap.size w w1:=by rw[hw1];exact(Below.refl _ _).alloc (Nat.le_refl _) _
 have X1:Hid (TB w1 w.heap.size k t n a∧Below w.heap.size w w1):=⟨by rw[hw1];exact heap_alloc_new w _,hb1⟩
 have HL:Hid (∀W,Below w.heap.size w W→HasL W):=fun W hW=>hL.stays hW
 obtain⟨tb,htb⟩:∃tb,tb=Lx.bs t:=⟨_,rfl⟩
 have hts:(tb.size:Int)=(t.length:Int):=by rw[htb,Lx.bs_size]
 by_cases hbig:1024<t.length
 ·have q0:(1024:Int)<(tb.size:Int):=by omega
  have HR:Hid (Lx.shw k t n=none):=by show _=_;rw[Lx.shw,if_pos hbig]
  obtain⟨p0,p1,p2,p3⟩:=X1.out.1.cells
  rw[←htb] at p1 hw1 ⊢
  have HF:=X1.out.2
  clear htb hb1 hL p0 p2 p3
  go_enter Tryz.func81,Tryz.ntmps81
  go_upto_region 1 with fail
  rw[←hw1]
  clear hw1
  go_wp2
  refine bodyPost_ret (zaD rfl _ _) rfl ?_
  rw[HR.out]
  exact⟨rfl,HF⟩
 ·have q0:¬(1024:Int)<(tb.size:Int):=by omega
  obtain⟨s,hs⟩:∃s,s=Lx.wr k t n:=⟨_,rfl⟩
  have hsl:s.length≤4096:=by rw[hs];exact Lx.wr_len (by omega) hn
  have CW:Hid (∀W,Below w.heap.size w W→Calls Tryz.prog 115 #[.agg #[.int .u8 (k:Int),.string tb,.int .i64 n,.int .i64 0]] W fun e w'=>e=.returned (.string (Lx.bs s))∧Below W.heap.size W w'):=fun W hW=>by
   rw[hs,htb];exact written_c k t n 0 (by omega) hn W (HL.out W hW)
  have CX:Hid (∀W,Below w.heap.size w W→Calls Tryz.prog 39 #[.string (Lx.bs s)] W (Lx.LexGave (Lx.lex s) W)):=fun W hW=>lex_c s (by omega) W (HL.out W hW)
  have CC:Hid (∀W,Calls Tryz.prog 26 #[.string (Lx.bs s)] W fun e w'=>e=.returned (.string (Lx.bs s))∧Below W.heap.size W w'):=fun W=>sclone_c (Lx.bs s) (by rw[Lx.bs_size];omega) W
  have HR:Hid (Lx.shw k t n=if Lx.lex s=⟨[⟨k,t,n,0⟩],0,0⟩ then some s else none):=by show _=_;rw[Lx.shw,if_neg hbig,hs]
  have HTB:Hid (tb=Lx.bs t):=htb
  obtain⟨p0,p1,p2,p3⟩:=X1.out.1.cells
  have fz:=Lib.frozen_of_heap X1.out.1
  rw[←htb] at p1 hw1 ⊢
  clear htb hb1 hL hs hn hbig hsl
  go_enter Tryz.func81,Tryz.ntmps81
  go_upto_region 1 with fail
  rw[←hw1]
  clear hw1
  go_upto_region 4 with fail
  obtain⟨w2,hw2⟩:∃w2,w2=w1.setCell ⟨w.heap.size,3,none⟩ (.int .i64 0):=⟨_,rfl⟩
  have X2:Hid (TB w2 w.heap.size k t n 0∧Below w.heap.size w w2):=by
   rw[hw2]
   exact⟨heap_setCell_same w1 _ 3 _ 92 _ X1.out.1,X1.out.2.setCell (Nat.le_refl _) _⟩
  rw[←hw2]
  clear hw2 X1 p0 p1 p2 p3 fz
  obtain⟨p0,p1,p2,p3⟩:=X2.out.1.cells
  rw[←HTB.out] at p1
  go_wp2_with fail
  refine Calls.mono (CW.out _ X2.out.2) ?_
  rintro e w3 ⟨rfl,hb3⟩
  have X3:Hid (TB w3 w.heap.size k t n 0∧Below w.heap.size w w3):=⟨X2.out.1.call hb3,X2.out.2.trans (hb3.mono X2.out.2.size)⟩
  clear hb3 X2 CW p0 p1 p2 p3
  go_wp2_with fail
  refine Calls.mono (CX.out _ X3.out.2) ?_
  rintro e w4 ⟨hb4,lv,rfl,hrow⟩
  have X4:Hid (TB w4 w.heap.size k t n 0∧Below w.heap.size w w4):=⟨X3.out.1.call hb4,X3.out.2.trans (hb4.mono X3.out.2.size)⟩
  clear hb4 X3 CX
  obtain⟨o,ho⟩:∃o,o=Lx.lex s:=⟨_,rfl⟩
  rw[←ho] at hrow HR
  rw[←ho]
  have hps:o.err=0→o.pos=0:=fun h=>by rw[ho] at h ⊢;exact Lx.lex_pos h
  clear ho
  obtain⟨toks,er,ps⟩:=o
  have HPS:Hid (er=0→ps=0):=hps
  clear hps
  obtain⟨la,lc,rfl⟩:=zdL hrow
  obtain⟨ln,hln⟩:∃ln,ln=toks.length:=⟨_,rfl⟩
  have HROW:Hid (w4.ownsRow w3.heap.size 92 4 (.slice la ln lc) ln (Lx.tcs toks)):=by rw[hln];exact hrow
  have HLN:Hid (ln=toks.length):=hln
  rw[←hln]
  clear hrow hln
  go_upto_region 6 with fail
  by_cases he:er=0
  ·subst he
   by_cases h1:ln=1
   ·subst h1
    obtain⟨⟨k2,t2,n2,a2⟩,rfl⟩:∃x,toks=[x]:=by
     match toks,HLN.out with
     | [x],_=>exact⟨x,rfl⟩
    obtain⟨g,cap,e1,hg,hc⟩:=zcF (by omega) HROW.out
    cases e1
    have c0:∀p:BelowOf w4.heap.size w4,p.W.cell? ⟨g,0,none⟩=some (.int .u8 (k2:Int)):=fun p=>(p.h.cell (p:=⟨g,0,none⟩) hg).trans (hc 0 _ rfl)
    have c1:∀p:BelowOf w4.heap.size w4,p.W.cell? ⟨g,1,none⟩=some (.string (Lx.bs t2)):=fun p=>(p.h.cell (p:=⟨g,1,none⟩) hg).trans (hc 1 _ rfl)
    have c2:∀p:BelowOf w4.heap.size w4,p.W.cell? ⟨g,2,none⟩=some (.int .i64 n2):=fun p=>(p.h.cell (p:=⟨g,2,none⟩) hg).trans (hc 2 _ rfl)
    have c3:∀p:BelowOf w4.heap.size w4,p.W.cell? ⟨g,3,none⟩=some (.int .i64 (a2:Int)):=fun p=>(p.h.cell (p:=⟨g,3,none⟩) hg).trans (hc 3 _ rfl)
    have d0:∀p:BelowOf w4.heap.size w4,p.W.cell? ⟨w.heap.size,0,none⟩=some (.int .u8 (k:Int)):=fun p=>(X4.out.1.call p.h).cells.1
    have d1:∀p:BelowOf w4.heap.size w4,p.W.cell? ⟨w.heap.size,1,none⟩=some (.string tb):=fun p=>by rw[HTB.out];exact(X4.out.1.call p.h).cells.2.1
    have d2:∀p:BelowOf w4.heap.size w4,p.W.cell? ⟨w.heap.size,2,none⟩=some (.int .i64 n):=fun p=>(X4.out.1.call p.h).cells.2.2.1
    have d3:∀p:BelowOf w4.heap.size w4,p.W.cell? ⟨w.heap.size,3,none⟩=some (.int .i64 0):=fun p=>(X4.out.1.call p.h).cells.2.2.2
    clear hc hg
    obtain⟨tb2,htb2⟩:∃tb2,tb2=Lx.bs t2:=⟨_,rfl⟩
    rw[←htb2] at c1
    obtain⟨nb,hnb⟩:∃b,b=!(((k2:Int)==(k:Int)) && (tb2.toList==tb.toList) && (n2==n) && ((a2:Int)==0)):=⟨_,rfl⟩
    have hneq:∀wx,(binOp .neq 92 (.agg #[.int .u8 (k2:Int),.string tb2,.int .i64 n2,.int .i64 (a2:Int)]) (.agg #[.int .u8 (k:Int),.string tb,.int .i64 n,.int .i64 0])).run Tryz.prog wx=.ok (.bool nb) wx:=fun wx=>by rw[hnb];exact neqTok _ _ _ _ _ _ _ _ wx
    have HEQ:Hid ((nb=false→(⟨[⟨k2,t2,n2,a2⟩],0,ps⟩:Lx.Out)=⟨[⟨k,t,n,0⟩],0,0⟩)∧(nb=true→¬(⟨[⟨k2,t2,n2,a2⟩],0,ps⟩:Lx.Out)=⟨[⟨k,t,n,0⟩],0,0⟩)):=by
     rw[htb2,HTB.out,Lx.bs_toList,Lx.bs_toList] at hnb
     refine⟨fun h=>?_,fun h e=>?_⟩
     ·rw[h] at hnb
      have h4:(((k2:Int)==(k:Int)) && (t2==t) && (n2==n) && ((a2:Int)==0))=true:=by
       cases hq:(((k2:Int)==(k:Int)) && (t2==t) && (n2==n) && ((a2:Int)==0)) with
       | true=>rfl
       | false=>rw[hq] at hnb;cases hnb
      simp only[Bool.and_eq_true,beq_iff_eq] at h4
      obtain⟨⟨⟨e1,e2⟩,e3⟩,e4⟩:=h4
      have hps:=HPS.out rfl
      have e1':k2=k:=by omega
      have e4':a2=0:=by omega
      rw[e1',e2,e3,e4',hps]
     ·cases e
      rw[h] at hnb
      simp at hnb
    clear hnb htb2
    cases nb with
    | true =>
     have HNE:Hid (¬(⟨[⟨k2,t2,n2,a2⟩],0,ps⟩:Lx.Out)=⟨[⟨k,t,n,0⟩],0,0⟩):=HEQ.out.2 rfl
     refine zaC w4.heap.size w4 (Below.refl _ _) (by kernel_rfl) (by kernel_rfl) ?_
     repeat (go_big_quiet_step (fail))
     refine wpQuiet_nil ?_
     intro _ hw'
     obtain⟨pq,hw''⟩:=hw'
     subst hw''
     have HF:=X4.out.2.trans (pq.h.mono X4.out.2.size)
     go_wp2
     refine bodyPost_ret (zaD rfl _ _) rfl ?_
     rw[HR.out,if_neg HNE.out]
     exact⟨rfl,HF⟩
    | false =>
     have HY:Hid ((⟨[⟨k2,t2,n2,a2⟩],0,ps⟩:Lx.Out)=⟨[⟨k,t,n,0⟩],0,0⟩):=HEQ.out.1 rfl
     refine zaC w4.heap.size w4 (Below.refl _ _) (by kernel_rfl) (by kernel_rfl) ?_
     repeat (go_big_quiet_step (fail))
     refine wpQuiet_nil ?_
     intro _ hw'
     obtain⟨pq,hw''⟩:=hw'
     subst hw''
     have HBW:Hid (Below w.heap.size w pq.W):=X4.out.2.trans (pq.h.mono X4.out.2.size)
     go_wp2_with fail
     refine Calls.mono (CC.out _) ?_
     rintro e w5 ⟨rfl,hb5⟩
     have HF:=HBW.out.trans (hb5.mono HBW.out.size)
     clear hb5
     go_wp2
     refine bodyPost_ret (zaD rfl _ _) rfl ?_
     rw[HR.out,if_pos HY.out]
     exact⟨rfl,HF⟩
   ·have q1:((ln:Int)==1)=false:=by rw[beq_eq_false_iff_ne];omega
    have q2:((ln:Int) != 1)=true:=by rw[bne,q1];rfl
    have HNE:Hid (¬(⟨toks,0,ps⟩:Lx.Out)=⟨[⟨k,t,n,0⟩],0,0⟩):=fun e=>by
     cases e
     exact h1 HLN.out
    clear h1
    refine zaC w4.heap.size w4 (Below.refl _ _) (by kernel_rfl) (by kernel_rfl) ?_
    repeat (go_big_quiet_step (fail))
    refine wpQuiet_nil ?_
    intro _ hw'
    obtain⟨pq,hw''⟩:=hw'
    subst hw''
    have HF:=X4.out.2.trans (pq.h.mono X4.out.2.size)
    go_wp2
    refine bodyPost_ret (zaD rfl _ _) rfl ?_
    rw[HR.out,if_neg HNE.out]
    exact⟨rfl,HF⟩
  ·have q1:((er:Int)==0)=false:=by rw[beq_eq_false_iff_ne];omega
   have q2:((er:Int) != 0)=true:=by rw[bne,q1];rfl
   have HNE:Hid (¬(⟨toks,er,ps⟩:Lx.Out)=⟨[⟨k,t,n,0⟩],0,0⟩):=fun e=>by
    cases e
    exact he rfl
   clear he
   refine zaC w4.heap.size w4 (Below.refl _ _) (by kernel_rfl) (by kernel_rfl) ?_
   repeat (go_big_quiet_step (fail))
   refine wpQuiet_nil ?_
   intro _ hw'
   obtain⟨pq,hw''⟩:=hw'
   subst hw''
   have HF:=X4.out.2.trans (pq.h.mono X4.out.2.size)
   go_wp2
   refine bodyPost_ret (zaD rfl _ _) rfl ?_
   rw[HR.out,if_neg HNE.out]
   exact⟨rfl,HF⟩
end Go.Proofs.YtfhkaffakniioaaGreatDoor
