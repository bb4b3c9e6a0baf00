/- Several texts, joined: MkSs, JnSa -/
import Derived.Test.YtggnfejjcgbebaaGreatDoorJPM
import Derived.Test.YtggnfejjcgbebaaGreatDoorJIM
import Derived.Test.YtggnfejjcgbebaaGreatDoorQLM
import Derived.Test.YtggnfejjcgbebaaGreatDoorQHM
import Derived.Test.YtggnfejjcgbebaaGreatDoorQKM
/- Whether two lists of texts are one. -/
namespace Go.Proofs.YtggnfejjcgbebaaGreatDoor
open Go.RowKit
theorem take_eq_step {x y:List (List UInt8)} {k:Nat} {p q:List UInt8} (hp:x[k]?=some p) (hq:y[k]?=some q) (h:x.take k=y.take k) (e:p=q):x.take (k+1)=y.take (k+1):=by
  rw [List.take_add_one,List.take_add_one,hp,hq,h,e]
set_option maxHeartbeats 4000000 in
theorem same_c (a:Option Addr) (n c:Nat) (b:Option Addr) (m d:Nat) (x y:List (List UInt8)) (hx:x.length≤9223372036854775807) (_hy:y.length≤9223372036854775807) (H:Nat) (w:World) (hH:H≤w.heap.size) (hA:Sl w H (.slice a n c) x) (hB:Sl w H (.slice b m d) y) :
    Calls Tryz.prog 56 #[.slice a n c,.slice b m d] w fun e w'=>e=.returned (.bool (decide (x=y)))∧Below w.heap.size w w':=by
  have HN:Hid (n=x.length∧m=y.length):=⟨hA.len,hB.len⟩
  have hn63:n≤9223372036854775807:=by rw [HN.out.1];exact hx
  have HA:Hid (Sl w H (.slice a n c) x):=hA
  have HB:Hid (Sl w H (.slice b m d) y):=hB
  clear hA hB hx
  by_cases hnm:n=m
  · subst hnm
    have q1:((n:Int) != (n:Int))=false:=by simp
    go_enter Tryz.func56,Tryz.ntmps56
    go_wp2
    go_loopw [13] (fun i wr=>∃k:Nat,k≤n∧i=.int .i64 (k:Int)∧Hid (x.take k=y.take k)∧Below w.heap.size w wr) (fun i _=>n - (intOf i).toNat)
    case atStart=>exact ⟨0,Nat.zero_le _,rfl,rfl,Below.refl _ _⟩
    case round =>
      obtain ⟨k,hk,rfl,hT,hnx⟩:=hrel
      by_cases hlt:k<n
      · obtain ⟨b1,o1,rfl,-,hb1,hc1⟩:=HA.out.at (by have:=HN.out;omega)
        obtain ⟨b2,o2,rfl,-,hb2,hc2⟩:=HB.out.at (by have:=HN.out;omega)
        obtain ⟨p,hp⟩:∃p,x[k]?=some p:=⟨_,List.getElem?_eq_getElem (by have:=HN.out;omega)⟩
        obtain ⟨q,hq⟩:∃q,y[k]?=some q:=⟨_,List.getElem?_eq_getElem (by have:=HN.out;omega)⟩
        obtain ⟨ps,hps⟩:∃s:ByteArray,s=bs p:=⟨_,rfl⟩
        obtain ⟨qs,hqs⟩:∃s:ByteArray,s=bs q:=⟨_,rfl⟩
        have e1:wr.cell? ⟨b1,o1+k,none⟩=some (.string ps):=by rw [hps,hnx.cell (p:=⟨b1,o1+k,none⟩) (by show b1<_;omega)];exact hc1 k p hp
        have e2:wr.cell? ⟨b2,o2+k,none⟩=some (.string qs):=by rw [hqs,hnx.cell (p:=⟨b2,o2+k,none⟩) (by show b2<_;omega)];exact hc2 k q hq
        have HPQ:Hid (x[k]?=some p∧y[k]?=some q):=⟨hp,hq⟩
        have HNX:Hid (Below w.heap.size w wr):=hnx
        have k0:(0:Int)≤(k:Int):=by omega
        have k1:(k:Int)<(n:Int):=by omega
        by_cases hpq:p=q
        · have ht:(ps.toList==qs.toList)=true:=by rw [hps,hqs,hpq];simp
          have HE:Hid (p=q):=hpq
          clear hc1 hc2 hp hq hps hqs hnx hpq
          go_wp2
          go_quiet (fail)
          go_wp2
          exact ⟨⟨k+1,by omega,by go_num,take_eq_step HPQ.out.1 HPQ.out.2 hT.out HE.out,below_drewN HNX.out _⟩,by simp [intOf];omega⟩
        · have ht:(ps.toList==qs.toList)=false:=by
            rw [hps,hqs,Lib.toList_data,Lib.toList_data,data_bs,data_bs];simpa using hpq
          have HF:Hid (decide (x=y)=false):=by
            show _=_
            rw [decide_eq_false_iff_not]
            intro e
            rw [e,hq] at hp
            exact hpq (by injection hp with hp;exact hp.symm)
          clear hc1 hc2 hp hq hps hqs hnx hpq
          go_wp2
          go_quiet (fail)
          go_wp2
          go_ret
          exact ⟨by rw [HF.out];rfl,below_drewN HNX.out _⟩
      · have hkn:k=n:=by omega
        subst hkn
        have HF:Hid (decide (x=y)=true):=by
          show _=_
          have:=hT.out
          rw [List.take_of_length_le (by rw [←HN.out.1];exact Nat.le_refl _),List.take_of_length_le (by rw [←HN.out.2];exact Nat.le_refl _)] at this
          simpa using this
        go_wp2
        go_ret
        exact ⟨by rw [HF.out];rfl,hnx⟩
  · have q1:((n:Int) != (m:Int))=true:=by simp;omega
    have HF:Hid (decide (x=y)=false):=by
      show _=_
      rw [decide_eq_false_iff_not]
      intro e
      exact hnm (by rw [HN.out.1,HN.out.2,e])
    clear hnm
    go_enter Tryz.func56,Tryz.ntmps56
    go_wp2
    go_ret
    exact ⟨by rw [HF.out];rfl,Below.refl _ _⟩
end Go.Proofs.YtggnfejjcgbebaaGreatDoor
/- The document's Same over revisions and blocks: of two that are one it answers true. -/
namespace Go.Proofs.YtggnfejjcgbebaaGreatDoor
open Go.RowKit
open Vl (V)
attribute [local go_sem ↓] Go.wp_at_zero Go.wp_at_succ
set_option maxHeartbeats 4000000 in
set_option maxRecDepth 100000 in
theorem sameRev_c (r:Jn.R) (xk:Nat) (xb:Bool) (xn:Int) (xs:ByteArray) (xa:Option Addr) (xl xc:Nat) (xd:Option Addr) (xe xf:Nat) (yk:Nat) (yb:Bool) (yn:Int) (ys:ByteArray) (ya:Option Addr) (yl yc:Nat) (yd:Option Addr) (ye yf:Nat) (w:World) (H:Nat) (hH:H≤w.heap.size) (h1:Rep w H r.val (.agg #[.int .u8 (xk:Int),.bool xb,.int .i64 xn,.string xs,.slice xa xl xc,.slice xd xe xf])) (h2:Rep w H r.val (.agg #[.int .u8 (yk:Int),.bool yb,.int .i64 yn,.string ys,.slice ya yl yc,.slice yd ye yf])) :
    Calls Tryz.prog 93 #[.agg #[.int .u8 (r.kind:Int),.string r.table,.int .u64 (r.doc:Int),.int .u64 (r.ver:Int),.int .u8 (xk:Int),.bool xb,.int .i64 xn,.string xs,.slice xa xl xc,.slice xd xe xf],.agg #[.int .u8 (r.kind:Int),.string r.table,.int .u64 (r.doc:Int),.int .u64 (r.ver:Int),.int .u8 (yk:Int),.bool yb,.int .i64 yn,.string ys,.slice ya yl yc,.slice yd ye yf]] w fun e w'=>e=.returned (.bool true)∧Below w.heap.size w w':=by
  have C:Hid (∀W,Below w.heap.size w W→Calls Tryz.prog 123 #[.agg #[.int .u8 (xk:Int),.bool xb,.int .i64 xn,.string xs,.slice xa xl xc,.slice xd xe xf],.agg #[.int .u8 (yk:Int),.bool yb,.int .i64 yn,.string ys,.slice ya yl yc,.slice yd ye yf]] W fun e w'=>e=.returned (.bool true)∧Below W.heap.size W w'):=fun W hW=>by
    have h:=rsame17 _ r.val (Nat.le_refl _) r.val W H _ _ (Nat.le_trans hH hW.size) (rep_stays (hW.mono hH) (Nat.le_refl _) _ _ h1) (rep_stays (hW.mono hH) (Nat.le_refl _) _ _ h2)
    rw [Vl.same_refl] at h
    exact h
  clear h1 h2
  go_enter Tryz.func93,Tryz.ntmps93
  go_wp2_with fail
  refine (C.out _ (below_new2 _ _ _)).mono ?_
  rintro e w2 ⟨rfl,hb⟩
  have HF:=(below_new2 w (.cells #[.int .u8 (r.kind:Int),.string r.table,.int .u64 (r.doc:Int),.int .u64 (r.ver:Int),.int .u8 (xk:Int),.bool xb,.int .i64 xn,.string xs,.slice xa xl xc,.slice xd xe xf] 34) (.cells #[.int .u8 (r.kind:Int),.string r.table,.int .u64 (r.doc:Int),.int .u64 (r.ver:Int),.int .u8 (yk:Int),.bool yb,.int .i64 yn,.string ys,.slice ya yl yc,.slice yd ye yf] 34)).trans (hb.mono (by simp;omega))
  clear hb C
  go_wp2
  go_ret
  exact ⟨rfl,HF⟩
set_option maxHeartbeats 8000000 in
set_option maxRecDepth 100000 in
theorem sameRevs_c (rs:List Jn.R) (ra:Option Addr) (rn rc:Nat) (ra':Option Addr) (rc':Nat) (w:World) (hn:rn=rs.length) (hl:rn≤maxLen)
    (h1:0<rn→∃g o,ra=some ⟨g,o,none⟩∧g<w.heap.size∧∀i r,rs[i]?=some r→RevAt w w.heap.size g (o+i*10) r) (h2:0<rn→∃g o,ra'=some ⟨g,o,none⟩∧g<w.heap.size∧∀i r,rs[i]?=some r→RevAt w w.heap.size g (o+i*10) r) :
    Calls Tryz.prog 57 #[.slice ra rn rc,.slice ra' rn rc'] w fun e w'=>e=.returned (.bool true)∧Below w.heap.size w w':=by
  have HN:Hid (rn=rs.length):=hn
  have H1:Hid _:=h1
  have H2:Hid _:=h2
  have hl63:rn≤9223372036854775807:=by unfold maxLen at hl;omega
  clear hn h1 h2 hl
  go_enter Tryz.func57,Tryz.ntmps57
  go_wp2
  go_loopw [13] (fun i wr=>∃j:Nat,j≤rn∧i=.int .i64 (j:Int)∧Below w.heap.size w wr) (fun i _=>rn - (intOf i).toNat)
  case atStart=>exact ⟨0,Nat.zero_le _,rfl,Below.refl _ _⟩
  case round =>
    obtain ⟨j,hj,rfl,hB⟩:=hrel
    have S:Hid (Below w.heap.size w wr):=hB
    clear hB
    by_cases hlt:j<rn
    · obtain ⟨r,hr⟩:∃r,rs[j]?=some r:=⟨_,List.getElem?_eq_getElem (by rw [←HN.out];exact hlt)⟩
      obtain ⟨g,o,rfl,hg,hrev⟩:=H1.out (by omega)
      obtain ⟨g',o',rfl,hg',hrev'⟩:=H2.out (by omega)
      obtain ⟨xk,xb,xn,xs,xa,xl,xc,xd,xe,xf,d0,d1,d2,d3,d4,d5,d6,d7,d8,d9,hrp,-⟩:=(hrev j r hr).stays S.out hg (Nat.le_refl _)
      obtain ⟨yk,yb,yn,ys,ya,yl,yc,yd,ye,yf,e0,e1,e2,e3,e4,e5,e6,e7,e8,e9,hrp',-⟩:=(hrev' j r hr).stays S.out hg' (Nat.le_refl _)
      have C:Hid (∀W,Below wr.heap.size wr W→Calls Tryz.prog 93 #[.agg #[.int .u8 (r.kind:Int),.string r.table,.int .u64 (r.doc:Int),.int .u64 (r.ver:Int),.int .u8 (xk:Int),.bool xb,.int .i64 xn,.string xs,.slice xa xl xc,.slice xd xe xf],.agg #[.int .u8 (r.kind:Int),.string r.table,.int .u64 (r.doc:Int),.int .u64 (r.ver:Int),.int .u8 (yk:Int),.bool yb,.int .i64 yn,.string ys,.slice ya yl yc,.slice yd ye yf]] W fun e w'=>e=.returned (.bool true)∧Below W.heap.size W w'):=fun W hW=>sameRev_c r xk xb xn xs xa xl xc xd xe xf yk yb yn ys ya yl yc yd ye yf W w.heap.size (Nat.le_trans S.out.size hW.size) (rep_stays (hW.mono S.out.size) (Nat.le_refl _) _ _ hrp) (rep_stays (hW.mono S.out.size) (Nat.le_refl _) _ _ hrp')
      have k0:(0:Int)≤(j:Int):=by omega
      have k1:(j:Int)<(rn:Int):=by omega
      have HD:Hid (∀W,Below wr.heap.size wr W→W.cell? ⟨g,o+j*10,none⟩=some (.int .u8 (r.kind:Int))∧W.cell? ⟨g,o+j*10+1,none⟩=some (.string r.table)∧W.cell? ⟨g,o+j*10+2,none⟩=some (.int .u64 (r.doc:Int))∧W.cell? ⟨g,o+j*10+3,none⟩=some (.int .u64 (r.ver:Int))∧W.cell? ⟨g,o+j*10+4,none⟩=some (.int .u8 (xk:Int))∧W.cell? ⟨g,o+j*10+5,none⟩=some (.bool xb)∧W.cell? ⟨g,o+j*10+6,none⟩=some (.int .i64 xn)∧W.cell? ⟨g,o+j*10+7,none⟩=some (.string xs)∧W.cell? ⟨g,o+j*10+8,none⟩=some (.slice xa xl xc)∧W.cell? ⟨g,o+j*10+9,none⟩=some (.slice xd xe xf)):=fun W hW=>by
        have k:∀(q:Nat) (v:Value),wr.cell? ⟨g,q,none⟩=some v→W.cell? ⟨g,q,none⟩=some v:=fun q v hv=>(hW.cell (p:=⟨g,q,none⟩) (Nat.lt_of_lt_of_le hg S.out.size)).trans hv
        exact ⟨k _ _ d0,k _ _ d1,k _ _ d2,k _ _ d3,k _ _ d4,k _ _ d5,k _ _ d6,k _ _ d7,k _ _ d8,k _ _ d9⟩
      have HE:Hid (∀W,Below wr.heap.size wr W→W.cell? ⟨g',o'+j*10,none⟩=some (.int .u8 (r.kind:Int))∧W.cell? ⟨g',o'+j*10+1,none⟩=some (.string r.table)∧W.cell? ⟨g',o'+j*10+2,none⟩=some (.int .u64 (r.doc:Int))∧W.cell? ⟨g',o'+j*10+3,none⟩=some (.int .u64 (r.ver:Int))∧W.cell? ⟨g',o'+j*10+4,none⟩=some (.int .u8 (yk:Int))∧W.cell? ⟨g',o'+j*10+5,none⟩=some (.bool yb)∧W.cell? ⟨g',o'+j*10+6,none⟩=some (.int .i64 yn)∧W.cell? ⟨g',o'+j*10+7,none⟩=some (.string ys)∧W.cell? ⟨g',o'+j*10+8,none⟩=some (.slice ya yl yc)∧W.cell? ⟨g',o'+j*10+9,none⟩=some (.slice yd ye yf)):=fun W hW=>by
        have k:∀(q:Nat) (v:Value),wr.cell? ⟨g',q,none⟩=some v→W.cell? ⟨g',q,none⟩=some v:=fun q v hv=>(hW.cell (p:=⟨g',q,none⟩) (Nat.lt_of_lt_of_le hg' S.out.size)).trans hv
        exact ⟨k _ _ e0,k _ _ e1,k _ _ e2,k _ _ e3,k _ _ e4,k _ _ e5,k _ _ e6,k _ _ e7,k _ _ e8,k _ _ e9⟩
      clear hr hrev hrev' hrp hrp' d0 d1 d2 d3 d4 d5 d6 d7 d8 d9 e0 e1 e2 e3 e4 e5 e6 e7 e8 e9
      go_upto_region 6 with fail
      refine wp_region_inv (by kernel_rfl) (fun listed a W=>∃(l0 l1 l2 l3 l4 l5 l6 l7 l8 l9:Bool) (s16 s17 s18 s19 s20 s21 s22 s23 s24 s25:Value),listed=#[l0,l1,l2,l3,l4,l5,l6,l7,l8,l9]∧a={ tmps:=#[.slice (some ⟨g,o,none⟩) rn rc,.slice (some ⟨g',o',none⟩) rn rc',undef,undef,u4,.int .i64 (j:Int),.slice (some ⟨g,o,none⟩) rn rc,.int .i64 (rn:Int),.slice (some ⟨g',o',none⟩) rn rc',.int .i64 (rn:Int),.bool false,.slice (some ⟨g,o,none⟩) rn rc,.int .i64 (rn:Int),.int .i64 (j:Int),.bool true,.int .i64 (j:Int),s16,s17,s18,s19,s20,s21,s22,s23,s24,s25,u26],defers:=[] }∧Below wr.heap.size wr W∧(l0=true→s16=.slice (some ⟨g,o,none⟩) rn rc)∧(l1=true→s17=.int .i64 (j:Int))∧(l2=true→s18=.pointer (some ⟨g,o+j*10,none⟩))∧(l3=true→s19=.agg #[.int .u8 (r.kind:Int),.string r.table,.int .u64 (r.doc:Int),.int .u64 (r.ver:Int),.int .u8 (xk:Int),.bool xb,.int .i64 xn,.string xs,.slice xa xl xc,.slice xd xe xf])∧(l4=true→s20=.slice (some ⟨g',o',none⟩) rn rc')∧(l5=true→s21=.int .i64 (j:Int))∧(l6=true→s22=.pointer (some ⟨g',o'+j*10,none⟩))∧(l7=true→s23=.agg #[.int .u8 (r.kind:Int),.string r.table,.int .u64 (r.doc:Int),.int .u64 (r.ver:Int),.int .u8 (yk:Int),.bool yb,.int .i64 yn,.string ys,.slice ya yl yc,.slice yd ye yf])∧(l8=true→s24=.bool true)∧(l9=true→s25=.bool false)) ?hinit ?hdone ?hstep
      case hinit=>exact ⟨false,false,false,false,false,false,false,false,false,false,u16,u17,u18,u19,u20,u21,u22,u23,u24,u25,rfl,rfl,(Below.refl _ _).drew,fun h=>(by cases h),fun h=>(by cases h),fun h=>(by cases h),fun h=>(by cases h),fun h=>(by cases h),fun h=>(by cases h),fun h=>(by cases h),fun h=>(by cases h),fun h=>(by cases h),fun h=>(by cases h)⟩
      case hdone =>
        rintro listed a W ⟨l0,l1,l2,l3,l4,l5,l6,l7,l8,l9,s16,s17,s18,s19,s20,s21,s22,s23,s24,s25,rfl,rfl,hB,h0,h1,h2,h3,h4,h5,h6,h7,h8,h9⟩ hr
        simp [Region.ready,Region.binds] at hr
        obtain rfl:l0=true:=by
          cases l0 with
          | true=>rfl
          | false=>exact absurd (hr 0 (by omega) rfl) (by simp)
        obtain rfl:l1=true:=by
          cases l1 with
          | true=>rfl
          | false=>exact absurd (hr 1 (by omega) rfl) (by simp)
        obtain rfl:l2=true:=by
          cases l2 with
          | true=>rfl
          | false=>exact absurd (hr 2 (by omega) rfl) (by simp)
        obtain rfl:l3=true:=by
          cases l3 with
          | true=>rfl
          | false=>exact absurd (hr 3 (by omega) rfl) (by simp)
        obtain rfl:l4=true:=by
          cases l4 with
          | true=>rfl
          | false=>exact absurd (hr 4 (by omega) rfl) (by simp)
        obtain rfl:l5=true:=by
          cases l5 with
          | true=>rfl
          | false=>exact absurd (hr 5 (by omega) rfl) (by simp)
        obtain rfl:l6=true:=by
          cases l6 with
          | true=>rfl
          | false=>exact absurd (hr 6 (by omega) rfl) (by simp)
        obtain rfl:l7=true:=by
          cases l7 with
          | true=>rfl
          | false=>exact absurd (hr 7 (by omega) rfl) (by simp)
        obtain rfl:l8=true:=by
          cases l8 with
          | true=>rfl
          | false=>exact absurd (hr 8 (by omega) rfl) (by simp)
        obtain rfl:l9=true:=by
          cases l9 with
          | true=>rfl
          | false=>exact absurd (hr 9 (by omega) rfl) (by simp)
        obtain rfl:=h9 rfl
        have HF:Hid (Below w.heap.size w W):=S.out.trans (hB.mono S.out.size)
        clear hr hB h0 h1 h2 h3 h4 h5 h6 h7 h8
        (try dsimp only)
        go_wp2
        go_roundw
        case rel=>first | exact ⟨j+1,by omega,by go_num,HF.out⟩ | ((repeat apply Exists.intro);exact ⟨⟨j+1,by omega,by go_num,HF.out⟩,rfl⟩)
        case measure=>simp [intOf];omega
      case hstep =>
        rintro listed a W i ⟨l0,l1,l2,l3,l4,l5,l6,l7,l8,l9,s16,s17,s18,s19,s20,s21,s22,s23,s24,s25,rfl,rfl,hB,h0,h1,h2,h3,h4,h5,h6,h7,h8,h9⟩ hi
        have hi10:i<10:=(ready_open hi).1
        rcases (show i=0∨i=1∨i=2∨i=3∨i=4∨i=5∨i=6∨i=7∨i=8∨i=9 by omega) with rfl | rfl | rfl | rfl | rfl | rfl | rfl | rfl | rfl | rfl
        · simp [Region.ready,Region.binds] at hi
          refine wpOp_of rfl rfl ?_
          intro K' hK'
          have HK':Hid _:=hK'
          have HH:Hid _:=And.intro hB (And.intro h0 (And.intro h1 (And.intro h2 (And.intro h3 (And.intro h4 (And.intro h5 (And.intro h6 (And.intro h7 (And.intro h8 h9)))))))))
          clear hK' hi h0 h1 h2 h3 h4 h5 h6 h7 h8 h9
          change Oper.wp _ ⟨_,_,_,_,_,_⟩ _ _ _ _
          (try dsimp only)
          go_simp
          refine HK'.out _ _ ?_
          obtain ⟨hB',h0,h1,h2,h3,h4,h5,h6,h7,h8,h9⟩:=HH.out
          exact ⟨true,l1,l2,l3,l4,l5,l6,l7,l8,l9,.slice (some ⟨g,o,none⟩) rn rc,s17,s18,s19,s20,s21,s22,s23,s24,s25,rfl,rfl,hB',fun _=>rfl,h1,h2,h3,h4,h5,h6,h7,h8,h9⟩
        · simp [Region.ready,Region.binds] at hi
          refine wpOp_of rfl rfl ?_
          intro K' hK'
          have HK':Hid _:=hK'
          have HH:Hid _:=And.intro hB (And.intro h0 (And.intro h1 (And.intro h2 (And.intro h3 (And.intro h4 (And.intro h5 (And.intro h6 (And.intro h7 (And.intro h8 h9)))))))))
          clear hK' hi h0 h1 h2 h3 h4 h5 h6 h7 h8 h9
          change Oper.wp _ ⟨_,_,_,_,_,_⟩ _ _ _ _
          (try dsimp only)
          go_simp
          refine HK'.out _ _ ?_
          obtain ⟨hB',h0,h1,h2,h3,h4,h5,h6,h7,h8,h9⟩:=HH.out
          exact ⟨l0,true,l2,l3,l4,l5,l6,l7,l8,l9,s16,.int .i64 (j:Int),s18,s19,s20,s21,s22,s23,s24,s25,rfl,rfl,hB',h0,fun _=>rfl,h2,h3,h4,h5,h6,h7,h8,h9⟩
        · simp [Region.ready,Region.binds] at hi
          obtain rfl:=h0 (by simp [hi])
          obtain rfl:=h1 (by simp [hi])
          refine wpOp_of rfl rfl ?_
          intro K' hK'
          have HK':Hid _:=hK'
          have HH:Hid _:=And.intro hB (And.intro h0 (And.intro h1 (And.intro h2 (And.intro h3 (And.intro h4 (And.intro h5 (And.intro h6 (And.intro h7 (And.intro h8 h9)))))))))
          clear hK' hi h0 h1 h2 h3 h4 h5 h6 h7 h8 h9
          change Oper.wp _ ⟨_,_,_,_,_,_⟩ _ _ _ _
          (try dsimp only)
          go_simp
          refine HK'.out _ _ ?_
          obtain ⟨hB',h0,h1,h2,h3,h4,h5,h6,h7,h8,h9⟩:=HH.out
          exact ⟨l0,l1,true,l3,l4,l5,l6,l7,l8,l9,.slice (some ⟨g,o,none⟩) rn rc,.int .i64 (j:Int),.pointer (some ⟨g,o+j*10,none⟩),s19,s20,s21,s22,s23,s24,s25,rfl,rfl,hB',fun _=>rfl,fun _=>rfl,fun _=>rfl,h3,h4,h5,h6,h7,h8,h9⟩
        · simp [Region.ready,Region.binds] at hi
          obtain rfl:=h2 (by simp [hi])
          obtain ⟨d0,d1,d2,d3,d4,d5,d6,d7,d8,d9⟩:=HD.out W hB
          refine wpOp_of rfl rfl ?_
          intro K' hK'
          have HK':Hid _:=hK'
          have HH:Hid _:=And.intro hB (And.intro h0 (And.intro h1 (And.intro h2 (And.intro h3 (And.intro h4 (And.intro h5 (And.intro h6 (And.intro h7 (And.intro h8 h9)))))))))
          clear hK' hi h0 h1 h2 h3 h4 h5 h6 h7 h8 h9
          change Oper.wp _ ⟨_,_,_,_,_,_⟩ _ _ _ _
          (try dsimp only)
          go_simp
          refine HK'.out _ _ ?_
          obtain ⟨hB',h0,h1,h2,h3,h4,h5,h6,h7,h8,h9⟩:=HH.out
          exact ⟨l0,l1,l2,true,l4,l5,l6,l7,l8,l9,s16,s17,.pointer (some ⟨g,o+j*10,none⟩),.agg #[.int .u8 (r.kind:Int),.string r.table,.int .u64 (r.doc:Int),.int .u64 (r.ver:Int),.int .u8 (xk:Int),.bool xb,.int .i64 xn,.string xs,.slice xa xl xc,.slice xd xe xf],s20,s21,s22,s23,s24,s25,rfl,rfl,hB',h0,h1,fun _=>rfl,fun _=>rfl,h4,h5,h6,h7,h8,h9⟩
        · simp [Region.ready,Region.binds] at hi
          refine wpOp_of rfl rfl ?_
          intro K' hK'
          have HK':Hid _:=hK'
          have HH:Hid _:=And.intro hB (And.intro h0 (And.intro h1 (And.intro h2 (And.intro h3 (And.intro h4 (And.intro h5 (And.intro h6 (And.intro h7 (And.intro h8 h9)))))))))
          clear hK' hi h0 h1 h2 h3 h4 h5 h6 h7 h8 h9
          change Oper.wp _ ⟨_,_,_,_,_,_⟩ _ _ _ _
          (try dsimp only)
          go_simp
          refine HK'.out _ _ ?_
          obtain ⟨hB',h0,h1,h2,h3,h4,h5,h6,h7,h8,h9⟩:=HH.out
          exact ⟨l0,l1,l2,l3,true,l5,l6,l7,l8,l9,s16,s17,s18,s19,.slice (some ⟨g',o',none⟩) rn rc',s21,s22,s23,s24,s25,rfl,rfl,hB',h0,h1,h2,h3,fun _=>rfl,h5,h6,h7,h8,h9⟩
        · simp [Region.ready,Region.binds] at hi
          refine wpOp_of rfl rfl ?_
          intro K' hK'
          have HK':Hid _:=hK'
          have HH:Hid _:=And.intro hB (And.intro h0 (And.intro h1 (And.intro h2 (And.intro h3 (And.intro h4 (And.intro h5 (And.intro h6 (And.intro h7 (And.intro h8 h9)))))))))
          clear hK' hi h0 h1 h2 h3 h4 h5 h6 h7 h8 h9
          change Oper.wp _ ⟨_,_,_,_,_,_⟩ _ _ _ _
          (try dsimp only)
          go_simp
          refine HK'.out _ _ ?_
          obtain ⟨hB',h0,h1,h2,h3,h4,h5,h6,h7,h8,h9⟩:=HH.out
          exact ⟨l0,l1,l2,l3,l4,true,l6,l7,l8,l9,s16,s17,s18,s19,s20,.int .i64 (j:Int),s22,s23,s24,s25,rfl,rfl,hB',h0,h1,h2,h3,h4,fun _=>rfl,h6,h7,h8,h9⟩
        · simp [Region.ready,Region.binds] at hi
          obtain rfl:=h4 (by simp [hi])
          obtain rfl:=h5 (by simp [hi])
          refine wpOp_of rfl rfl ?_
          intro K' hK'
          have HK':Hid _:=hK'
          have HH:Hid _:=And.intro hB (And.intro h0 (And.intro h1 (And.intro h2 (And.intro h3 (And.intro h4 (And.intro h5 (And.intro h6 (And.intro h7 (And.intro h8 h9)))))))))
          clear hK' hi h0 h1 h2 h3 h4 h5 h6 h7 h8 h9
          change Oper.wp _ ⟨_,_,_,_,_,_⟩ _ _ _ _
          (try dsimp only)
          go_simp
          refine HK'.out _ _ ?_
          obtain ⟨hB',h0,h1,h2,h3,h4,h5,h6,h7,h8,h9⟩:=HH.out
          exact ⟨l0,l1,l2,l3,l4,l5,true,l7,l8,l9,s16,s17,s18,s19,.slice (some ⟨g',o',none⟩) rn rc',.int .i64 (j:Int),.pointer (some ⟨g',o'+j*10,none⟩),s23,s24,s25,rfl,rfl,hB',h0,h1,h2,h3,fun _=>rfl,fun _=>rfl,fun _=>rfl,h7,h8,h9⟩
        · simp [Region.ready,Region.binds] at hi
          obtain rfl:=h6 (by simp [hi])
          obtain ⟨d0,d1,d2,d3,d4,d5,d6,d7,d8,d9⟩:=HE.out W hB
          refine wpOp_of rfl rfl ?_
          intro K' hK'
          have HK':Hid _:=hK'
          have HH:Hid _:=And.intro hB (And.intro h0 (And.intro h1 (And.intro h2 (And.intro h3 (And.intro h4 (And.intro h5 (And.intro h6 (And.intro h7 (And.intro h8 h9)))))))))
          clear hK' hi h0 h1 h2 h3 h4 h5 h6 h7 h8 h9
          change Oper.wp _ ⟨_,_,_,_,_,_⟩ _ _ _ _
          (try dsimp only)
          go_simp
          refine HK'.out _ _ ?_
          obtain ⟨hB',h0,h1,h2,h3,h4,h5,h6,h7,h8,h9⟩:=HH.out
          exact ⟨l0,l1,l2,l3,l4,l5,l6,true,l8,l9,s16,s17,s18,s19,s20,s21,.pointer (some ⟨g',o'+j*10,none⟩),.agg #[.int .u8 (r.kind:Int),.string r.table,.int .u64 (r.doc:Int),.int .u64 (r.ver:Int),.int .u8 (yk:Int),.bool yb,.int .i64 yn,.string ys,.slice ya yl yc,.slice yd ye yf],s24,s25,rfl,rfl,hB',h0,h1,h2,h3,h4,h5,fun _=>rfl,fun _=>rfl,h8,h9⟩
        · simp [Region.ready,Region.binds] at hi
          obtain rfl:=h3 (by simp [hi])
          obtain rfl:=h7 (by simp [hi])
          refine wpOp_of rfl rfl ?_
          intro K' hK'
          have HK':Hid _:=hK'
          have HH:Hid _:=And.intro hB (And.intro h0 (And.intro h1 (And.intro h2 (And.intro h3 (And.intro h4 (And.intro h5 (And.intro h6 (And.intro h7 (And.intro h8 h9)))))))))
          clear hK' hi h0 h1 h2 h3 h4 h5 h6 h7 h8 h9
          change Oper.wp _ ⟨_,_,_,_,_,_⟩ _ _ _ _
          (try dsimp only)
          go_simp
          go_at_call 93
          refine (C.out W HH.out.1).mono ?_
          rintro e w3 ⟨rfl,hb3⟩
          refine HK'.out _ _ ?_
          obtain ⟨hB',h0,h1,h2,h3,h4,h5,h6,h7,h8,h9⟩:=HH.out
          exact ⟨l0,l1,l2,l3,l4,l5,l6,l7,true,l9,s16,s17,s18,.agg #[.int .u8 (r.kind:Int),.string r.table,.int .u64 (r.doc:Int),.int .u64 (r.ver:Int),.int .u8 (xk:Int),.bool xb,.int .i64 xn,.string xs,.slice xa xl xc,.slice xd xe xf],s20,s21,s22,.agg #[.int .u8 (r.kind:Int),.string r.table,.int .u64 (r.doc:Int),.int .u64 (r.ver:Int),.int .u8 (yk:Int),.bool yb,.int .i64 yn,.string ys,.slice ya yl yc,.slice yd ye yf],.bool true,s25,rfl,rfl,hB'.trans (hb3.mono hB'.size),h0,h1,h2,fun _=>rfl,h4,h5,h6,fun _=>rfl,fun _=>rfl,h9⟩
        · simp [Region.ready,Region.binds] at hi
          obtain rfl:=h8 (by simp [hi])
          refine wpOp_of rfl rfl ?_
          intro K' hK'
          have HK':Hid _:=hK'
          have HH:Hid _:=And.intro hB (And.intro h0 (And.intro h1 (And.intro h2 (And.intro h3 (And.intro h4 (And.intro h5 (And.intro h6 (And.intro h7 (And.intro h8 h9)))))))))
          clear hK' hi h0 h1 h2 h3 h4 h5 h6 h7 h8 h9
          change Oper.wp _ ⟨_,_,_,_,_,_⟩ _ _ _ _
          (try dsimp only)
          go_simp
          refine HK'.out _ _ ?_
          obtain ⟨hB',h0,h1,h2,h3,h4,h5,h6,h7,h8,h9⟩:=HH.out
          exact ⟨l0,l1,l2,l3,l4,l5,l6,l7,l8,true,s16,s17,s18,s19,s20,s21,s22,s23,.bool true,.bool false,rfl,rfl,hB',h0,h1,h2,h3,h4,h5,h6,h7,fun _=>rfl,fun _=>rfl⟩
    · have hjn:j=rn:=by omega
      subst hjn
      go_wp2
      go_ret
      exact ⟨rfl,S.out⟩
set_option maxHeartbeats 8000000 in
set_option maxRecDepth 100000 in
theorem sameB_c (b:Jn.B) (sa:Option Addr) (sn sc:Nat) (ra:Option Addr) (rn rc:Nat) (sa':Option Addr) (sn' sc':Nat) (ra':Option Addr) (rn' rc':Nat) (w:World) (hs:b.sts.length≤1048576) (h1:Bk w w.heap.size b sa sn sc ra rn rc) (h2:Bk w w.heap.size b sa' sn' sc' ra' rn' rc') :
    Calls Tryz.prog 16 #[.agg #[.int .u64 (b.seq:Int),.string b.prev,.string b.root,.slice sa sn sc,.slice ra rn rc],.agg #[.int .u64 (b.seq:Int),.string b.prev,.string b.root,.slice sa' sn' sc',.slice ra' rn' rc']] w fun e w'=>e=.returned (.bool true)∧Below w.heap.size w w':=by
  obtain rfl:rn'=rn:=by rw [h1.many,h2.many]
  have C1:Hid (∀W,Below w.heap.size w W→Calls Tryz.prog 56 #[.slice sa sn sc,.slice sa' sn' sc'] W fun e w'=>e=.returned (.bool true)∧Below W.heap.size W w'):=fun W hW=>by
    have h:=same_c sa sn sc sa' sn' sc' (b.sts.map fun s=>s.data.toList) (b.sts.map fun s=>s.data.toList) (by rw [List.length_map];omega) (by rw [List.length_map];omega) W.heap.size W (Nat.le_refl _) (h1.stays hW hW.size).sts (h2.stays hW hW.size).sts
    rw [decide_eq_true rfl] at h
    exact h
  have C2:Hid (∀W,Below w.heap.size w W→Calls Tryz.prog 57 #[.slice ra rn' rc,.slice ra' rn' rc'] W fun e w'=>e=.returned (.bool true)∧Below W.heap.size W w'):=fun W hW =>
    sameRevs_c b.revs ra rn' rc ra' rc' W h1.many h1.len (h1.stays hW hW.size).revs (h2.stays hW hW.size).revs
  clear h1 h2
  go_enter Tryz.func16,Tryz.ntmps16
  go_wp2_with fail
  refine (C1.out _ (below_new2 _ _ _)).mono ?_
  rintro e w2 ⟨rfl,hb⟩
  have HB2:Hid (Below w.heap.size w w2):=(below_new2 w (.cells #[.int .u64 (b.seq:Int),.string b.prev,.string b.root,.slice sa sn sc,.slice ra rn' rc] 26) (.cells #[.int .u64 (b.seq:Int),.string b.prev,.string b.root,.slice sa' sn' sc',.slice ra' rn' rc'] 26)).trans (hb.mono (by simp;omega))
  have x1:=(hb.cell (p:=⟨w.heap.size,4,none⟩) (by simp<;>omega))
  have x2:=(hb.cell (p:=⟨w.heap.size+1,4,none⟩) (by simp<;>omega))
  simp at x1 x2
  clear hb C1
  go_wp2_with fail
  refine (C2.out _ HB2.out).mono ?_
  rintro e w3 ⟨rfl,hb3⟩
  have HF:=HB2.out.trans (hb3.mono HB2.out.size)
  clear hb3 C2
  go_wp2
  go_ret
  exact ⟨rfl,HF⟩
end Go.Proofs.YtggnfejjcgbebaaGreatDoor
