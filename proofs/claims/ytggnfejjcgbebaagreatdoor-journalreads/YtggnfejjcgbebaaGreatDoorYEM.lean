/- Several texts, joined: RkA, RkB, RkC, RkD, RkE, RkF, RkG, RkH, RkI, RkJ -/
import Derived.Test.YtggnfejjcgbebaaGreatDoorQBM
import Derived.Test.YtggnfejjcgbebaaGreatDoorYDM
import Derived.Test.YtggnfejjcgbebaaGreatDoorYAM
import Derived.Test.YtggnfejjcgbebaaGreatDoorXCM
import Derived.Test.YtggnfejjcgbebaaGreatDoorQDM
import Derived.Test.YtggnfejjcgbebaaGreatDoorYTM
import Derived.Test.YtggnfejjcgbebaaGreatDoorQEM
import Derived.Test.YtggnfejjcgbebaaGreatDoorJIM
import Derived.Test.YtggnfejjcgbebaaGreatDoorQIM
import Derived.Test.YtggnfejjcgbebaaGreatDoorXGM
import Derived.Test.YtggnfejjcgbebaaGreatDoorQHM
/- The document's values of numbers, texts and lists; why a revision is not right. -/
namespace Go.Proofs.YtggnfejjcgbebaaGreatDoor
open Go.RowKit
open Vl (V)
attribute [local go_sem ↓] Go.wp_at_zero Go.wp_at_succ
set_option maxHeartbeats 1000000 in
theorem rwhole_c (n:Nat) (hn:n<18446744073709551616) (w:World) :
    Calls Tryz.prog 52 #[.int .u64 (n:Int)] w fun e w'=>e=.returned (flat 2 (Jn.i64 n) ⟨#[]⟩)∧Below w.heap.size w w':=by
  obtain ⟨m,hm⟩:∃m,m=Jn.i64 n:=⟨_,rfl⟩
  have q:IntKind.i64.wrap (n:Int)=m:=by
    rw [hm,IntKind.wrap_i64,Jn.i64]
    split<;>omega
  rw [←hm]
  clear hm
  go_enter Tryz.func52,Tryz.ntmps52
  go_wp2
  exact bodyPost_ret (v:=.agg #[.int .u8 2,.bool false,.int .i64 m,.string ⟨#[]⟩,.slice none 0 0,.slice none 0 0]) (results_cell_row rfl _ _ w.heap.size 32 #[.int .u8 2,.bool false,.int .i64 m,.string ⟨#[]⟩,.slice none 0 0,.slice none 0 0] (0,0) _ rfl (heap_alloc_new w _) Tryz.underlying32 rfl infoVal) rfl ⟨rfl,below_new _ _⟩
set_option maxHeartbeats 1000000 in
theorem rtextV_c (s:ByteArray) (w:World) :
    Calls Tryz.prog 53 #[.string s] w fun e w'=>e=.returned (flat 3 0 s)∧Below w.heap.size w w':=by
  go_enter Tryz.func53,Tryz.ntmps53
  go_wp2
  exact bodyPost_ret (v:=.agg #[.int .u8 3,.bool false,.int .i64 0,.string s,.slice none 0 0,.slice none 0 0]) (results_cell_row rfl _ _ w.heap.size 32 #[.int .u8 3,.bool false,.int .i64 0,.string s,.slice none 0 0,.slice none 0 0] (0,0) _ rfl (heap_alloc_new w _) Tryz.underlying32 rfl infoVal) rfl ⟨rfl,below_new _ _⟩
set_option maxHeartbeats 1000000 in
theorem rblobV_c (s:ByteArray) (w:World) :
    Calls Tryz.prog 66 #[.string s] w fun e w'=>e=.returned (flat 4 0 s)∧Below w.heap.size w w':=by
  go_enter Tryz.func66,Tryz.ntmps66
  go_wp2
  exact bodyPost_ret (v:=.agg #[.int .u8 4,.bool false,.int .i64 0,.string s,.slice none 0 0,.slice none 0 0]) (results_cell_row rfl _ _ w.heap.size 32 #[.int .u8 4,.bool false,.int .i64 0,.string s,.slice none 0 0,.slice none 0 0] (0,0) _ rfl (heap_alloc_new w _) Tryz.underlying32 rfl infoVal) rfl ⟨rfl,below_new _ _⟩
set_option maxHeartbeats 1000000 in
theorem rlist_c (a:Option Addr) (n c:Nat) (w:World) :
    Calls Tryz.prog 51 #[.slice a n c] w fun e w'=>e=.returned (.agg #[.int .u8 5,.bool false,.int .i64 0,.string ⟨#[]⟩,.slice a n c,.slice none 0 0])∧Below w.heap.size w w':=by
  go_enter Tryz.func51,Tryz.ntmps51
  go_wp2
  exact bodyPost_ret (v:=.agg #[.int .u8 5,.bool false,.int .i64 0,.string ⟨#[]⟩,.slice a n c,.slice none 0 0]) (results_cell_row rfl _ _ w.heap.size 32 #[.int .u8 5,.bool false,.int .i64 0,.string ⟨#[]⟩,.slice a n c,.slice none 0 0] (0,0) _ rfl (heap_alloc_new w _) Tryz.underlying32 rfl infoVal) rfl ⟨rfl,below_new _ _⟩
theorem rep_list {W:World} {H:Nat} {a:Option Addr} {c:Nat} {l:List V} (hl:l.length≤maxLen) (hr:0<l.length→∃g o,a=some ⟨g,o,none⟩∧g<H∧RepL W H g o l):Rep W H (Jn.lst l) (.agg #[.int .u8 5,.bool false,.int .i64 0,.string ⟨#[]⟩,.slice a l.length c,.slice none 0 0]):=by
  rw [Jn.lst,Rep]
  exact ⟨a,c,none,0,rfl,by omega,by omega,by decide,hl,by simp,hr,fun h=>by simp at h⟩
theorem rlistV_c (g o n c:Nat) (ts:List V) (hn:n=ts.length) (hn2:n≤1048576) (w:World) (hg:g<w.heap.size) (hR:RepL w w.heap.size g o ts) :
    Calls Tryz.prog 51 #[.slice (some ⟨g,o,none⟩) n c] w fun e w'=>∃a c',e=.returned (.agg #[.int .u8 5,.bool false,.int .i64 0,.string ⟨#[]⟩,.slice a n c',.slice none 0 0])∧Rep w' w'.heap.size (Jn.lst ts) (.agg #[.int .u8 5,.bool false,.int .i64 0,.string ⟨#[]⟩,.slice a n c',.slice none 0 0])∧Below w.heap.size w w':=by
  subst hn
  refine (rlist_c (some ⟨g,o,none⟩) ts.length c w).mono ?_
  rintro e w' ⟨rfl,hb⟩
  exact ⟨_,_,rfl,rep_list (by unfold maxLen;omega) (fun _=>⟨g,o,rfl,Nat.lt_of_lt_of_le hg hb.size,repL_stays hb hb.size hg ts o hR⟩),hb⟩
def rname (tb:ByteArray):Nat:=if tb.size=0∨1024<tb.size then 4 else if Bn.u8 tb=false then 9 else 0
theorem rname_c (tb:ByteArray) (htb:tb.size≤maxLen) (w:World):Calls Tryz.prog 89 #[.string tb] w fun e w'=>e=.returned (.int .i64 (rname tb:Int))∧Below w.heap.size w w':=by
  have h:=rname60 (u:=Bn.u8) rutf59 tb htb w
  exact h
set_option maxHeartbeats 8000000 in
theorem rcheckRev_c (k:Nat) (tb:ByteArray) (d e:Nat) (t:V) (hk:k<256) (htb:tb.size≤maxLen) (xk:Nat) (xb:Bool) (xn:Int) (xs:ByteArray) (xa:Option Addr) (xl xc:Nat) (ya:Option Addr) (yl yc:Nat) (hx:xk=t.1) (w:World) (H:Nat) (hH:H≤w.heap.size)
    (hR:Rep w H t (.agg #[.int .u8 (xk:Int),.bool xb,.int .i64 xn,.string xs,.slice xa xl xc,.slice ya yl yc])) :
    Calls Tryz.prog 50 #[.agg #[.int .u8 (k:Int),.string tb,.int .u64 (d:Int),.int .u64 (e:Int),.int .u8 (xk:Int),.bool xb,.int .i64 xn,.string xs,.slice xa xl xc,.slice ya yl yc]] w fun en w'=>en=.returned (.int .i64 (Jn.rwhy ⟨k,tb,d,e,t⟩:Int))∧Below w.heap.size w w':=by
  obtain ⟨B,hB⟩:∃B,B=w.heap.size:=⟨_,rfl⟩
  obtain ⟨w1,hw1⟩:∃w1,w1=w.alloc (.cells #[.int .u8 (k:Int),.string tb,.int .u64 (d:Int),.int .u64 (e:Int),.int .u8 (xk:Int),.bool xb,.int .i64 xn,.string xs,.slice xa xl xc,.slice ya yl yc] 34):=⟨_,rfl⟩
  have S1:Hid (RB w B #[.int .u8 (k:Int),.string tb,.int .u64 (d:Int),.int .u64 (e:Int),.int .u8 (xk:Int),.bool xb,.int .i64 xn,.string xs,.slice xa xl xc,.slice ya yl yc] w1):=by
    show RB _ _ _ _
    rw [hw1,hB];exact ⟨below_new _ _,heap_alloc_new w _⟩
  obtain ⟨nz,hnz⟩:∃nz,nz=rname tb:=⟨_,rfl⟩
  obtain ⟨q,hq⟩:∃q,q=Vl.check Bn.u8 0 t:=⟨_,rfl⟩
  have CN:Hid (∀W,Calls Tryz.prog 89 #[.string tb] W fun e w'=>e=.returned (.int .i64 (nz:Int))∧Below W.heap.size W w'):=fun W=>by
    rw [hnz];exact rname_c tb htb W
  have CC:Hid (∀W,Below w.heap.size w W→Calls Tryz.prog 78 #[.agg #[.int .u8 (xk:Int),.bool xb,.int .i64 xn,.string xs,.slice xa xl xc,.slice ya yl yc]] W fun e w'=>e=.returned (.int .i64 (q:Int))∧Below W.heap.size W w'):=fun W hW=>by
    rw [hq];exact rcheck19 t W W.heap.size _ (Nat.le_refl _) (rep_stays (hW.mono hH) (Nat.le_trans hH hW.size) t _ hR)
  obtain ⟨m,hm⟩:∃m,m=Jn.most k:=⟨_,rfl⟩
  obtain ⟨v,hv⟩:∃v,v=Jn.kindV k:=⟨_,rfl⟩
  obtain ⟨rz,hrz⟩:∃rz,rz=Jn.rwhy ⟨k,tb,d,e,t⟩:=⟨_,rfl⟩
  rw [←hrz]
  have HW:Hid (rz=if k=0∨5≤k then 5 else if nz≠0 then nz else if m<d∨m<e then 2 else if q≠0 then q else if xk≠v then 5 else 0):=by
    show _=_
    rw [hrz,Jn.rwhy,hnz,hq,hm,hv,hx,rname]
    dsimp only
    by_cases c1:k=0∨5≤k
    · rw [if_pos c1,if_pos c1]
    rw [if_neg c1,if_neg c1]
    by_cases c2:tb.size=0∨1024<tb.size
    · rw [if_pos c2,if_pos c2];rfl
    rw [if_neg c2,if_neg c2]
    by_cases c3:Bn.u8 tb=false
    · rw [if_pos c3,if_pos c3];rfl
    · rw [if_neg c3,if_neg c3];rfl
  have HM:Hid (m=Jn.most k∧v=Jn.kindV k):=⟨hm,hv⟩
  clear hR hnz hq hm hv hx hrz
  go_enter Tryz.func50,Tryz.ntmps50
  go_upto_region 1 with fail
  rw [←hw1,←hB]
  clear hw1 hB
  obtain ⟨p0,p1,p2,p3,p4,p5,p6,p7,p8,p9⟩:=S1.out.cells
  have HF:=S1.out.below
  by_cases c1:k=0∨5≤k
  · have e1:Hid (rz=5):=by show _=_;rw [HW.out,if_pos c1]
    by_cases h0:k=0
    · subst h0
      go_wp2
      go_ret
      exact ⟨by rw [e1.out];rfl,HF⟩
    · have q1:¬(k:Int)<1:=by omega
      have q2:(5:Int)≤(k:Int):=by omega
      go_wp2
      go_ret
      exact ⟨by rw [e1.out];rfl,HF⟩
  have q1:¬(k:Int)<1:=by omega
  have q2:¬(5:Int)≤(k:Int):=by omega
  go_wp2_with fail
  refine (CN.out _).mono ?_
  rintro en w2 ⟨rfl,hb2⟩
  have S2:Hid (RB w B #[.int .u8 (k:Int),.string tb,.int .u64 (d:Int),.int .u64 (e:Int),.int .u8 (xk:Int),.bool xb,.int .i64 xn,.string xs,.slice xa xl xc,.slice ya yl yc] w2):=S1.out.call hb2
  clear hb2 S1 p0 p1 p2 p3 p4 p5 p6 p7 p8 p9 HF
  obtain ⟨p0,p1,p2,p3,p4,p5,p6,p7,p8,p9⟩:=S2.out.cells
  have HF:=S2.out.below
  by_cases c2:nz=0
  · have z1:((nz:Int)==0)=true:=by rw [beq_iff_eq];omega
    by_cases c3:m<d∨m<e
    · have e1:Hid (rz=2):=by show _=_;rw [HW.out,if_neg c1,if_neg (by simp [c2]),if_pos c3]
      by_cases hk3:k<3
      · have z2:(k:Int)<3:=by omega
        have hm0:m=0:=by
          rw [HM.out.1,Jn.most,if_pos (by omega)]
        by_cases d0:d=0
        · subst d0
          have z3:((e:Int) != 0)=true:=by simp;omega
          have z3b:((e:Int)==0)=false:=by simp;omega
          by_cases e6:4611686018427387904<e
          · have z4:(4611686018427387904:Int)<(e:Int):=by omega
            go_wp2
            go_ret
            exact ⟨by rw [e1.out];rfl,HF⟩
          · have z4:¬(4611686018427387904:Int)<(e:Int):=by omega
            go_wp2
            go_ret
            exact ⟨by rw [e1.out];rfl,HF⟩
        · have z3:((d:Int) != 0)=true:=by simp;omega
          have z3b:((d:Int)==0)=false:=by simp;omega
          by_cases d6:4611686018427387904<d
          · have z4:(4611686018427387904:Int)<(d:Int):=by omega
            go_wp2
            go_ret
            exact ⟨by rw [e1.out];rfl,HF⟩
          · have z4:¬(4611686018427387904:Int)<(d:Int):=by omega
            by_cases e6:4611686018427387904<e
            · have z5:(4611686018427387904:Int)<(e:Int):=by omega
              go_wp2
              go_ret
              exact ⟨by rw [e1.out];rfl,HF⟩
            · have z5:¬(4611686018427387904:Int)<(e:Int):=by omega
              go_wp2
              go_ret
              exact ⟨by rw [e1.out];rfl,HF⟩
      · have hm6:m=4611686018427387904:=by rw [HM.out.1,Jn.most,if_neg (by omega)]
        by_cases d6:4611686018427387904<d
        · have z4:(4611686018427387904:Int)<(d:Int):=by omega
          go_wp2
          go_ret
          exact ⟨by rw [e1.out];rfl,HF⟩
        · have z4:¬(4611686018427387904:Int)<(d:Int):=by omega
          have z5:(4611686018427387904:Int)<(e:Int):=by omega
          go_wp2
          go_ret
          exact ⟨by rw [e1.out];rfl,HF⟩
    · have HQ:Hid (rz=if q≠0 then q else if xk≠v then 5 else 0):=by show _=_;rw [HW.out,if_neg c1,if_neg (by simp [c2]),if_neg c3]
      have HZ:Hid ((k<3→d=0∧e=0)∧d≤4611686018427387904∧e≤4611686018427387904):=by
        have h1:=HM.out.1
        rw [Jn.most] at h1
        by_cases hk3:k=1∨k=2
        · rw [if_pos hk3] at h1
          exact ⟨fun _=>by omega,by omega,by omega⟩
        · rw [if_neg hk3] at h1
          exact ⟨fun _=>by omega,by omega,by omega⟩
      have z4:¬(4611686018427387904:Int)<(d:Int):=by have:=HZ.out.2.1;omega
      have z5:¬(4611686018427387904:Int)<(e:Int):=by have:=HZ.out.2.2;omega
      have HV:Hid (v=Jn.kindV k):=HM.out.2
      have tail:∀(a:Act) (Q:Exit→Act→World→Prop),True:=fun _ _=>trivial
      clear tail c3 HW
      rcases (by omega:k=1∨k=2∨k=3∨k=4) with rfl | rfl | rfl | rfl
      · obtain ⟨d0,e0⟩:=HZ.out.1 (by omega)
        subst d0 e0
        have hv0:v=0:=HV.out
        go_wp2_with fail
        refine (CC.out _ S2.out.below).mono ?_
        rintro en w3 ⟨rfl,hb3⟩
        have S3:Hid (RB w B _ w3):=S2.out.call hb3
        clear hb3 p0 p1 p2 p3 p4 p5 p6 p7 p8 p9 HF
        obtain ⟨p0,p1,p2,p3,p4,p5,p6,p7,p8,p9⟩:=S3.out.cells
        have HF:=S3.out.below
        by_cases c4:q=0
        · have y1:((q:Int)==0)=true:=by rw [beq_iff_eq];omega
          have ltB:=(Array.getElem?_eq_some_iff.1 S3.out.row).1
          by_cases c5:xk=v
          · have e1:Hid (rz=0):=by show _=_;rw [HQ.out,if_neg (by simp [c4]),if_neg (by simp [c5])]
            subst c5
            subst hv0
            have HF2:Hid (∀o,Below w.heap.size w (w3.alloc o)):=fun o=>HF.alloc HF.size o
            go_wp2
            go_ret
            exact ⟨by rw [e1.out];rfl,HF2.out _⟩
          · have e1:Hid (rz=5):=by show _=_;rw [HQ.out,if_neg (by simp [c4]),if_pos c5]
            subst hv0
            have y2:((xk:Int)==0)=false:=by rw [beq_eq_false_iff_ne];omega
            have y3:((xk:Int) != 0)=true:=by simp;omega
            have HF2:Hid (∀o,Below w.heap.size w (w3.alloc o)):=fun o=>HF.alloc HF.size o
            go_wp2
            go_ret
            exact ⟨by rw [e1.out];rfl,HF2.out _⟩
        · have y1:((q:Int)==0)=false:=by rw [beq_eq_false_iff_ne];omega
          have e1:Hid (rz=q):=by show _=_;rw [HQ.out,if_pos c4]
          go_wp2
          go_ret
          exact ⟨by rw [e1.out];rfl,HF⟩
      · obtain ⟨d0,e0⟩:=HZ.out.1 (by omega)
        subst d0 e0
        have hv0:v=3:=HV.out
        go_wp2_with fail
        refine (CC.out _ S2.out.below).mono ?_
        rintro en w3 ⟨rfl,hb3⟩
        have S3:Hid (RB w B _ w3):=S2.out.call hb3
        clear hb3 p0 p1 p2 p3 p4 p5 p6 p7 p8 p9 HF
        obtain ⟨p0,p1,p2,p3,p4,p5,p6,p7,p8,p9⟩:=S3.out.cells
        have HF:=S3.out.below
        by_cases c4:q=0
        · have y1:((q:Int)==0)=true:=by rw [beq_iff_eq];omega
          have ltB:=(Array.getElem?_eq_some_iff.1 S3.out.row).1
          by_cases c5:xk=v
          · have e1:Hid (rz=0):=by show _=_;rw [HQ.out,if_neg (by simp [c4]),if_neg (by simp [c5])]
            subst c5
            subst hv0
            have HF2:Hid (∀o,Below w.heap.size w (w3.alloc o)):=fun o=>HF.alloc HF.size o
            go_wp2
            go_ret
            exact ⟨by rw [e1.out];rfl,HF2.out _⟩
          · have e1:Hid (rz=5):=by show _=_;rw [HQ.out,if_neg (by simp [c4]),if_pos c5]
            subst hv0
            have y2:((xk:Int)==3)=false:=by rw [beq_eq_false_iff_ne];omega
            have y3:((xk:Int) != 3)=true:=by simp;omega
            have HF2:Hid (∀o,Below w.heap.size w (w3.alloc o)):=fun o=>HF.alloc HF.size o
            go_wp2
            go_ret
            exact ⟨by rw [e1.out];rfl,HF2.out _⟩
        · have y1:((q:Int)==0)=false:=by rw [beq_eq_false_iff_ne];omega
          have e1:Hid (rz=q):=by show _=_;rw [HQ.out,if_pos c4]
          go_wp2
          go_ret
          exact ⟨by rw [e1.out];rfl,HF⟩
      · have hv0:v=6:=HV.out
        go_wp2_with fail
        refine (CC.out _ S2.out.below).mono ?_
        rintro en w3 ⟨rfl,hb3⟩
        have S3:Hid (RB w B _ w3):=S2.out.call hb3
        clear hb3 p0 p1 p2 p3 p4 p5 p6 p7 p8 p9 HF
        obtain ⟨p0,p1,p2,p3,p4,p5,p6,p7,p8,p9⟩:=S3.out.cells
        have HF:=S3.out.below
        by_cases c4:q=0
        · have y1:((q:Int)==0)=true:=by rw [beq_iff_eq];omega
          have ltB:=(Array.getElem?_eq_some_iff.1 S3.out.row).1
          by_cases c5:xk=v
          · have e1:Hid (rz=0):=by show _=_;rw [HQ.out,if_neg (by simp [c4]),if_neg (by simp [c5])]
            subst c5
            subst hv0
            have HF2:Hid (∀o,Below w.heap.size w (w3.alloc o)):=fun o=>HF.alloc HF.size o
            go_wp2
            go_ret
            exact ⟨by rw [e1.out];rfl,HF2.out _⟩
          · have e1:Hid (rz=5):=by show _=_;rw [HQ.out,if_neg (by simp [c4]),if_pos c5]
            subst hv0
            have y2:((xk:Int)==6)=false:=by rw [beq_eq_false_iff_ne];omega
            have y3:((xk:Int) != 6)=true:=by simp;omega
            have HF2:Hid (∀o,Below w.heap.size w (w3.alloc o)):=fun o=>HF.alloc HF.size o
            go_wp2
            go_ret
            exact ⟨by rw [e1.out];rfl,HF2.out _⟩
        · have y1:((q:Int)==0)=false:=by rw [beq_eq_false_iff_ne];omega
          have e1:Hid (rz=q):=by show _=_;rw [HQ.out,if_pos c4]
          go_wp2
          go_ret
          exact ⟨by rw [e1.out];rfl,HF⟩
      · have hv0:v=0:=HV.out
        go_wp2_with fail
        refine (CC.out _ S2.out.below).mono ?_
        rintro en w3 ⟨rfl,hb3⟩
        have S3:Hid (RB w B _ w3):=S2.out.call hb3
        clear hb3 p0 p1 p2 p3 p4 p5 p6 p7 p8 p9 HF
        obtain ⟨p0,p1,p2,p3,p4,p5,p6,p7,p8,p9⟩:=S3.out.cells
        have HF:=S3.out.below
        by_cases c4:q=0
        · have y1:((q:Int)==0)=true:=by rw [beq_iff_eq];omega
          have ltB:=(Array.getElem?_eq_some_iff.1 S3.out.row).1
          by_cases c5:xk=v
          · have e1:Hid (rz=0):=by show _=_;rw [HQ.out,if_neg (by simp [c4]),if_neg (by simp [c5])]
            subst c5
            subst hv0
            have HF2:Hid (∀o,Below w.heap.size w (w3.alloc o)):=fun o=>HF.alloc HF.size o
            go_wp2
            go_ret
            exact ⟨by rw [e1.out];rfl,HF2.out _⟩
          · have e1:Hid (rz=5):=by show _=_;rw [HQ.out,if_neg (by simp [c4]),if_pos c5]
            subst hv0
            have y2:((xk:Int)==0)=false:=by rw [beq_eq_false_iff_ne];omega
            have y3:((xk:Int) != 0)=true:=by simp;omega
            have HF2:Hid (∀o,Below w.heap.size w (w3.alloc o)):=fun o=>HF.alloc HF.size o
            go_wp2
            go_ret
            exact ⟨by rw [e1.out];rfl,HF2.out _⟩
        · have y1:((q:Int)==0)=false:=by rw [beq_eq_false_iff_ne];omega
          have e1:Hid (rz=q):=by show _=_;rw [HQ.out,if_pos c4]
          go_wp2
          go_ret
          exact ⟨by rw [e1.out];rfl,HF⟩
  · have z1:((nz:Int)==0)=false:=by rw [beq_eq_false_iff_ne];omega
    have e1:Hid (rz=nz):=by show _=_;rw [HW.out,if_neg c1,if_pos c2]
    go_wp2
    go_ret
    exact ⟨by rw [e1.out];rfl,HF⟩
end Go.Proofs.YtggnfejjcgbebaaGreatDoor
/- The document's text of a revision. -/
namespace Go.Proofs.YtggnfejjcgbebaaGreatDoor
open Go.RowKit
open Vl (V)
attribute [local go_sem ↓] Go.wp_at_zero Go.wp_at_succ
set_option maxHeartbeats 16000000 in
set_option maxRecDepth 100000 in
theorem rrevText_c (k:Nat) (tb:ByteArray) (d e:Nat) (t:V) (hk:k<256) (htb:tb.size≤maxLen) (hd:d<18446744073709551616) (he:e<18446744073709551616) (xk:Nat) (xb:Bool) (xn:Int) (xs:ByteArray) (xa:Option Addr) (xl xc:Nat) (ya:Option Addr) (yl yc:Nat) (hx:xk=t.1) (w:World) (H:Nat) (hH:H≤w.heap.size)
    (hR:Rep w H t (.agg #[.int .u8 (xk:Int),.bool xb,.int .i64 xn,.string xs,.slice xa xl xc,.slice ya yl yc])) :
    Calls Tryz.prog 14 #[.agg #[.int .u8 (k:Int),.string tb,.int .u64 (d:Int),.int .u64 (e:Int),.int .u8 (xk:Int),.bool xb,.int .i64 xn,.string xs,.slice xa xl xc,.slice ya yl yc]] w fun en w'=>en=.returned (.tuple #[.string (Jn.rtext ⟨k,tb,d,e,t⟩),.int .i64 (Jn.rerr ⟨k,tb,d,e,t⟩:Int)])∧Below w.heap.size w w':=by
  obtain ⟨B,hB⟩:∃B,B=w.heap.size:=⟨_,rfl⟩
  obtain ⟨w1,hw1⟩:∃w1,w1=w.alloc (.cells #[.int .u8 (k:Int),.string tb,.int .u64 (d:Int),.int .u64 (e:Int),.int .u8 (xk:Int),.bool xb,.int .i64 xn,.string xs,.slice xa xl xc,.slice ya yl yc] 34):=⟨_,rfl⟩
  have S1:Hid (RB w B #[.int .u8 (k:Int),.string tb,.int .u64 (d:Int),.int .u64 (e:Int),.int .u8 (xk:Int),.bool xb,.int .i64 xn,.string xs,.slice xa xl xc,.slice ya yl yc] w1):=by
    show RB _ _ _ _
    rw [hw1,hB];exact ⟨below_new _ _,heap_alloc_new w _⟩
  obtain ⟨wy,hwy⟩:∃wy,wy=Jn.rwhy ⟨k,tb,d,e,t⟩:=⟨_,rfl⟩
  obtain ⟨re,hre⟩:∃re,re=Jn.rerr ⟨k,tb,d,e,t⟩:=⟨_,rfl⟩
  obtain ⟨rt,hrt⟩:∃rt,rt=Jn.rtext ⟨k,tb,d,e,t⟩:=⟨_,rfl⟩
  obtain ⟨lt,hlt⟩:∃lt,lt=Jn.rv ⟨k,tb,d,e,t⟩:=⟨_,rfl⟩
  obtain ⟨le,hle⟩:∃le,le=Bn.werr lt:=⟨_,rfl⟩
  obtain ⟨lx,hlx⟩:∃lx,lx=Bn.wtext lt:=⟨_,rfl⟩
  have HRE:Hid (re=if wy≠0 then wy else if le≠0∨1024<lx.size then 4 else 0):=by show _=_;rw [hre,Jn.rerr,hwy,hle,hlx,hlt]
  have HRT:Hid (rt=if re=0 then lx else ⟨#[]⟩):=by show _=_;rw [hrt,Jn.rtext,hre,hlx,hlt]
  rw [←hre,←hrt]
  have HH:Hid (∀W,Below w.heap.size w W→Rep W W.heap.size t (.agg #[.int .u8 (xk:Int),.bool xb,.int .i64 xn,.string xs,.slice xa xl xc,.slice ya yl yc])):=fun W hW=>rep_stays (hW.mono hH) (Nat.le_trans hH hW.size) t _ hR
  have CK:Hid (∀W,Below w.heap.size w W→Calls Tryz.prog 50 #[.agg #[.int .u8 (k:Int),.string tb,.int .u64 (d:Int),.int .u64 (e:Int),.int .u8 (xk:Int),.bool xb,.int .i64 xn,.string xs,.slice xa xl xc,.slice ya yl yc]] W fun en w'=>en=.returned (.int .i64 (wy:Int))∧Below W.heap.size W w'):=fun W hW=>by
    rw [hwy];exact rcheckRev_c k tb d e t hk htb xk xb xn xs xa xl xc ya yl yc hx W W.heap.size (Nat.le_refl _) (HH.out W hW)
  obtain ⟨ik,hik⟩:∃i,i=Jn.i64 k:=⟨_,rfl⟩
  obtain ⟨id,hid⟩:∃i,i=Jn.i64 d:=⟨_,rfl⟩
  obtain ⟨ie,hie⟩:∃i,i=Jn.i64 e:=⟨_,rfl⟩
  have CN1:Hid (∀W,Calls Tryz.prog 52 #[.int .u64 (k:Int)] W fun en w'=>en=.returned (.agg #[.int .u8 2,.bool false,.int .i64 ik,.string ⟨#[]⟩,.slice none 0 0,.slice none 0 0])∧Below W.heap.size W w'):=fun W=>by rw [hik];exact rwhole_c k (by omega) W
  have CN2:Hid (∀W,Calls Tryz.prog 52 #[.int .u64 (d:Int)] W fun en w'=>en=.returned (.agg #[.int .u8 2,.bool false,.int .i64 id,.string ⟨#[]⟩,.slice none 0 0,.slice none 0 0])∧Below W.heap.size W w'):=fun W=>by rw [hid];exact rwhole_c d hd W
  have CN3:Hid (∀W,Calls Tryz.prog 52 #[.int .u64 (e:Int)] W fun en w'=>en=.returned (.agg #[.int .u8 2,.bool false,.int .i64 ie,.string ⟨#[]⟩,.slice none 0 0,.slice none 0 0])∧Below W.heap.size W w'):=fun W=>by rw [hie];exact rwhole_c e he W
  have CT:Hid (∀W,Calls Tryz.prog 53 #[.string tb] W fun en w'=>en=.returned (.agg #[.int .u8 3,.bool false,.int .i64 0,.string tb,.slice none 0 0,.slice none 0 0])∧Below W.heap.size W w'):=fun W=>rtextV_c tb W
  have CL:Hid (∀W,Below w.heap.size w W→Calls Tryz.prog 51 #[.slice (some ⟨W.heap.size,0,none⟩) 5 5] (W.alloc (.cells #[.int .u8 2,.bool false,.int .i64 ik,.string ⟨#[]⟩,.slice none 0 0,.slice none 0 0,.int .u8 3,.bool false,.int .i64 0,.string tb,.slice none 0 0,.slice none 0 0,.int .u8 2,.bool false,.int .i64 id,.string ⟨#[]⟩,.slice none 0 0,.slice none 0 0,.int .u8 2,.bool false,.int .i64 ie,.string ⟨#[]⟩,.slice none 0 0,.slice none 0 0,.int .u8 (xk:Int),.bool xb,.int .i64 xn,.string xs,.slice xa xl xc,.slice ya yl yc] 32)) fun en w'=>∃a c',en=.returned (.agg #[.int .u8 5,.bool false,.int .i64 0,.string ⟨#[]⟩,.slice a 5 c',.slice none 0 0])∧Rep w' w'.heap.size lt (.agg #[.int .u8 5,.bool false,.int .i64 0,.string ⟨#[]⟩,.slice a 5 c',.slice none 0 0])∧Below (W.alloc (.cells #[.int .u8 2,.bool false,.int .i64 ik,.string ⟨#[]⟩,.slice none 0 0,.slice none 0 0,.int .u8 3,.bool false,.int .i64 0,.string tb,.slice none 0 0,.slice none 0 0,.int .u8 2,.bool false,.int .i64 id,.string ⟨#[]⟩,.slice none 0 0,.slice none 0 0,.int .u8 2,.bool false,.int .i64 ie,.string ⟨#[]⟩,.slice none 0 0,.slice none 0 0,.int .u8 (xk:Int),.bool xb,.int .i64 xn,.string xs,.slice xa xl xc,.slice ya yl yc] 32)).heap.size (W.alloc (.cells #[.int .u8 2,.bool false,.int .i64 ik,.string ⟨#[]⟩,.slice none 0 0,.slice none 0 0,.int .u8 3,.bool false,.int .i64 0,.string tb,.slice none 0 0,.slice none 0 0,.int .u8 2,.bool false,.int .i64 id,.string ⟨#[]⟩,.slice none 0 0,.slice none 0 0,.int .u8 2,.bool false,.int .i64 ie,.string ⟨#[]⟩,.slice none 0 0,.slice none 0 0,.int .u8 (xk:Int),.bool xb,.int .i64 xn,.string xs,.slice xa xl xc,.slice ya yl yc] 32)) w'):=fun W hW=>by
    have hb:Below w.heap.size w (W.alloc (.cells #[.int .u8 2,.bool false,.int .i64 ik,.string ⟨#[]⟩,.slice none 0 0,.slice none 0 0,.int .u8 3,.bool false,.int .i64 0,.string tb,.slice none 0 0,.slice none 0 0,.int .u8 2,.bool false,.int .i64 id,.string ⟨#[]⟩,.slice none 0 0,.slice none 0 0,.int .u8 2,.bool false,.int .i64 ie,.string ⟨#[]⟩,.slice none 0 0,.slice none 0 0,.int .u8 (xk:Int),.bool xb,.int .i64 xn,.string xs,.slice xa xl xc,.slice ya yl yc] 32)):=hW.trans ((below_new _ _).mono hW.size)
    rw [hlt]
    refine rlistV_c W.heap.size 0 5 5 [Jn.num k,Jn.txt tb,Jn.num d,Jn.num e,t] rfl (by decide) (W.alloc _) (by simp) (rep_five (heap_alloc_new W _) ?_ ?_ ?_ ?_ (HH.out _ hb))
    · rw [hik];exact rep_flat _ _ 2 _ _ (by omega) (Jn.i64_range k (by omega)) (by decide)
    · exact rep_flat _ _ 3 _ _ (by omega) (by omega) htb
    · rw [hid];exact rep_flat _ _ 2 _ _ (by omega) (Jn.i64_range d hd) (by decide)
    · rw [hie];exact rep_flat _ _ 2 _ _ (by omega) (Jn.i64_range e he) (by decide)
  have CW:Hid (∀W v,Below w.heap.size w W→Rep W W.heap.size lt v→Calls Tryz.prog 38 #[v] W fun en w'=>en=.returned (.tuple #[.string lx,.int .i64 (le:Int)])∧Below W.heap.size W w'):=fun W v hW hr=>by
    rw [hlx,hle];exact rwrite19 lt W v hr
  have qk:IntKind.u64.wrap (k:Int)=(k:Int):=by rw [IntKind.wrap_u64];omega
  clear hR hx hwy hre hrt hlt hle hlx hik hid hie htb
  go_enter Tryz.func14,Tryz.ntmps14
  go_upto_region 1 with fail
  rw [←hw1,←hB]
  clear hw1 hB
  obtain ⟨p0,p1,p2,p3,p4,p5,p6,p7,p8,p9⟩:=S1.out.cells
  go_wp2_with fail
  refine (CK.out _ S1.out.below).mono ?_
  rintro en w2 ⟨rfl,hb2⟩
  have S2:Hid (RB w B #[.int .u8 (k:Int),.string tb,.int .u64 (d:Int),.int .u64 (e:Int),.int .u8 (xk:Int),.bool xb,.int .i64 xn,.string xs,.slice xa xl xc,.slice ya yl yc] w2):=S1.out.call hb2
  clear hb2 S1 CK p0 p1 p2 p3 p4 p5 p6 p7 p8 p9
  by_cases h1:wy=0
  · have q1:((wy:Int)==0)=true:=by rw [beq_iff_eq];omega
    go_upto_region 4 with fail
    obtain ⟨p0,p1,p2,p3,p4,p5,p6,p7,p8,p9⟩:=S2.out.cells
    go_region_held3 (fun W'=>W'.cell? ⟨B,0,none⟩=some (.int .u8 (k:Int))∧W'.cell? ⟨B,1,none⟩=some (.string tb)∧W'.cell? ⟨B,2,none⟩=some (.int .u64 (d:Int))∧W'.cell? ⟨B,3,none⟩=some (.int .u64 (e:Int))∧W'.cell? ⟨B,4,none⟩=some (.int .u8 (xk:Int))∧W'.cell? ⟨B,5,none⟩=some (.bool xb)∧W'.cell? ⟨B,6,none⟩=some (.int .i64 xn)∧W'.cell? ⟨B,7,none⟩=some (.string xs)∧W'.cell? ⟨B,8,none⟩=some (.slice xa xl xc)∧W'.cell? ⟨B,9,none⟩=some (.slice ya yl yc)) (go_keep) (first
      | (go_at_call 38;refine (CW.out _ _ R6.out.1 R6.out.2).mono ?_;rintro en w7 ⟨rfl,hb7⟩
         have S7:Hid (RB w B #[.int .u8 (k:Int),.string tb,.int .u64 (d:Int),.int .u64 (e:Int),.int .u8 (xk:Int),.bool xb,.int .i64 xn,.string xs,.slice xa xl xc,.slice ya yl yc] w7):=S6.out.call hb7
         obtain ⟨p0,p1,p2,p3,p4,p5,p6,p7,p8,p9⟩:=S7.out.cells
         clear hb7)
      | (go_at_call 51;refine (CL.out _ S3.out.below).mono ?_;rintro en w6 ⟨la,lc,rfl,hr6,hb6⟩
         have S6:Hid (RB w B #[.int .u8 (k:Int),.string tb,.int .u64 (d:Int),.int .u64 (e:Int),.int .u8 (xk:Int),.bool xb,.int .i64 xn,.string xs,.slice xa xl xc,.slice ya yl yc] w6):=(S3.out.call (below_new _ _)).call hb6
         have R6:Hid (Below w.heap.size w w6∧Rep w6 w6.heap.size lt (.agg #[.int .u8 5,.bool false,.int .i64 0,.string ⟨#[]⟩,.slice la 5 lc,.slice none 0 0])):=⟨S6.out.below,hr6⟩
         obtain ⟨p0,p1,p2,p3,p4,p5,p6,p7,p8,p9⟩:=S6.out.cells
         clear hb6 hr6)
      | (go_at_call_of 52 (Value.int .u64 (k:Int));refine (CN1.out _).mono ?_;rintro en w3 ⟨rfl,hb3⟩
         have S3:Hid (RB w B #[.int .u8 (k:Int),.string tb,.int .u64 (d:Int),.int .u64 (e:Int),.int .u8 (xk:Int),.bool xb,.int .i64 xn,.string xs,.slice xa xl xc,.slice ya yl yc] w3):=(by first | exact S2.out.call hb3 | exact (S2.out.call (Below.refl _ _).drew).call hb3)
         obtain ⟨p0,p1,p2,p3,p4,p5,p6,p7,p8,p9⟩:=S3.out.cells
         clear hb3)
      | (go_at_call 53;refine (CT.out _).mono ?_;rintro en w3 ⟨rfl,hb3⟩
         have S3:Hid (RB w B #[.int .u8 (k:Int),.string tb,.int .u64 (d:Int),.int .u64 (e:Int),.int .u8 (xk:Int),.bool xb,.int .i64 xn,.string xs,.slice xa xl xc,.slice ya yl yc] w3):=S3.out.call hb3
         obtain ⟨p0,p1,p2,p3,p4,p5,p6,p7,p8,p9⟩:=S3.out.cells
         clear hb3)
      | (go_at_call_of 52 (Value.int .u64 (d:Int));refine (CN2.out _).mono ?_;rintro en w3 ⟨rfl,hb3⟩
         have S3:Hid (RB w B #[.int .u8 (k:Int),.string tb,.int .u64 (d:Int),.int .u64 (e:Int),.int .u8 (xk:Int),.bool xb,.int .i64 xn,.string xs,.slice xa xl xc,.slice ya yl yc] w3):=S3.out.call hb3
         obtain ⟨p0,p1,p2,p3,p4,p5,p6,p7,p8,p9⟩:=S3.out.cells
         clear hb3)
      | (go_at_call_of 52 (Value.int .u64 (e:Int));refine (CN3.out _).mono ?_;rintro en w3 ⟨rfl,hb3⟩
         have S3:Hid (RB w B #[.int .u8 (k:Int),.string tb,.int .u64 (d:Int),.int .u64 (e:Int),.int .u8 (xk:Int),.bool xb,.int .i64 xn,.string xs,.slice xa xl xc,.slice ya yl yc] w3):=S3.out.call hb3
         obtain ⟨p0,p1,p2,p3,p4,p5,p6,p7,p8,p9⟩:=S3.out.cells
         clear hb3)
      | fail "no arm")
    all_goals
      have HF:=S7.out.below
      by_cases h2:le=0
      · have q2:((le:Int)==0)=true:=by rw [beq_iff_eq];omega
        by_cases h3:1024<lx.size
        · have q3:(1024:Int)<(lx.size:Int):=by omega
          have E1:Hid (re=4∧rt=⟨#[]⟩):=by
            have h:re=4:=by rw [HRE.out,if_neg (by simp [h1]),if_pos (.inr h3)]
            exact ⟨h,by rw [HRT.out,if_neg (by omega)]⟩
          go_wp2
          go_ret2
          exact ⟨by rw [E1.out.1,E1.out.2];rfl,HF⟩
        · have q3:¬(1024:Int)<(lx.size:Int):=by omega
          have E1:Hid (re=0∧rt=lx):=by
            have h:re=0:=by rw [HRE.out,if_neg (by simp [h1]),if_neg (by omega)]
            exact ⟨h,by rw [HRT.out,if_pos h]⟩
          go_wp2
          go_ret2
          exact ⟨by rw [E1.out.1,E1.out.2];rfl,HF⟩
      · have q2:((le:Int)==0)=false:=by rw [beq_eq_false_iff_ne];omega
        have E1:Hid (re=4∧rt=⟨#[]⟩):=by
          have h:re=4:=by rw [HRE.out,if_neg (by simp [h1]),if_pos (.inl h2)]
          exact ⟨h,by rw [HRT.out,if_neg (by omega)]⟩
        go_wp2
        go_ret2
        exact ⟨by rw [E1.out.1,E1.out.2];rfl,HF⟩
  · have q1:((wy:Int)==0)=false:=by rw [beq_eq_false_iff_ne];omega
    have E1:Hid (re=wy∧rt=⟨#[]⟩):=by
      have h:re=wy:=by rw [HRE.out,if_pos h1]
      exact ⟨h,by rw [HRT.out,if_neg (by omega)]⟩
    go_wp2
    go_ret2
    exact ⟨by rw [E1.out.1,E1.out.2];rfl,S2.out.below⟩
end Go.Proofs.YtggnfejjcgbebaaGreatDoor
/- The document's texts of revisions. -/
namespace Go.Proofs.YtggnfejjcgbebaaGreatDoor
open Go.RowKit
open Vl (V)
attribute [local go_sem ↓] Go.wp_at_zero Go.wp_at_succ
namespace Jn
theorem first_hit {l:List Nat} {k x:Nat} (h0:first (l.take k)=0) (hx:l[k]?=some x) (hne:x≠0):first l=x:=by
  obtain ⟨h1,h2⟩:=List.getElem?_eq_some_iff.1 hx
  have e:l=l.take k++x :: l.drop (k+1):=by
    rw [←h2,←List.drop_eq_getElem_cons h1,List.take_append_drop]
  rw [e,first_app,if_neg (by simp [h0]),first,if_pos hne]
theorem first_next {l:List Nat} {k:Nat} (h0:first (l.take k)=0) (hx:l[k]?=some 0):first (l.take (k+1))=0:=by
  rw [List.take_add_one,hx,first_app,if_neg (by simp [h0])]
  rfl
def tx (l:List R):List (List UInt8):=l.map fun r=>(rtext r).data.toList
theorem tx_len (l:List R):(tx l).length=l.length:=by simp [tx]
theorem tx_take {l:List R} {k:Nat} {r:R} (h:l[k]?=some r):(tx l).take (k+1)=(tx l).take k++[(rtext r).data.toList]:=by
  rw [List.take_add_one]
  simp [tx,h]
end Jn
set_option maxHeartbeats 16000000 in
set_option maxRecDepth 100000 in
theorem rtexts_c (rs:List Jn.R) (ra:Option Addr) (rn rc:Nat) (hn:rn=rs.length) (h64:rn≤64) (w:World)
    (hR:0<rn→∃g o,ra=some ⟨g,o,none⟩∧g<w.heap.size∧∀i r,rs[i]?=some r→RevAt w w.heap.size g (o+i*10) r) :
    Calls Tryz.prog 33 #[.slice ra rn rc] w fun e w'=>∃tv,e=.returned (.tuple #[tv,.int .i64 (Jn.first (rs.map Jn.rerr):Int)])∧Below w.heap.size w w'∧(Jn.first (rs.map Jn.rerr)≠0→tv=.slice none 0 0)∧(Jn.first (rs.map Jn.rerr)=0→w'.ownsRow w.heap.size 9 1 tv rn (scs (Jn.tx rs))):=by
  have HN:Hid (rn=rs.length):=hn
  have HR:Hid (∀W,Below w.heap.size w W→0<rn→∃g o,ra=some ⟨g,o,none⟩∧∀i r,rs[i]?=some r→RevAt W W.heap.size g (o+i*10) r):=fun W hW hp=>by
    obtain ⟨g,o,e,hg,hc⟩:=hR hp
    exact ⟨g,o,e,fun i r hi=>(hc i r hi).stays hW hg hW.size⟩
  obtain ⟨fe,hfe⟩:∃fe,fe=Jn.first (rs.map Jn.rerr):=⟨_,rfl⟩
  have HFE:Hid (fe=Jn.first (rs.map Jn.rerr)):=hfe
  rw [←hfe]
  clear hR hn hfe
  obtain ⟨i9,hi9,hr0,hr1,hr2⟩:=info_parts info9s
  go_enter Tryz.func33,Tryz.ntmps33
  go_wp2
  go_loopw [4,11] (fun o i W=>∃(k:Nat) (tv:Value),tv=o∧i=.int .i64 (k:Int)∧k≤rn∧Jn.first ((rs.map Jn.rerr).take k)=0∧TX w W ((Jn.tx rs).take k) tv) (fun _ i _=>rn - (intOf i).toNat)
  case atStart=>exact ⟨0,_,rfl,rfl,Nat.zero_le _,rfl,Below.refl _ _,World.ownsRow_nil _ _ _ _⟩
  case round =>
    obtain ⟨k,tv,htv,rfl,hk,hf,hX⟩:=hrel
    subst htv
    have X:Hid (TX w wr ((Jn.tx rs).take k) tv):=hX
    have HF:Hid (Jn.first ((rs.map Jn.rerr).take k)=0):=hf
    have HWR:Hid (Below w.heap.size w wr):=hX.below
    clear hX hf
    by_cases hlk:k<rn
    · have q2:(k:Int)<(rn:Int):=by omega
      obtain ⟨r,hr⟩:∃r,rs[k]?=some r:=⟨_,List.getElem?_eq_getElem (by have:=HN.out;omega)⟩
      obtain ⟨g2,o2,rfl,hrv⟩:=HR.out wr HWR.out (by omega)
      obtain ⟨xk,xb,xn,xs,xa,xl,xc,ya,yl,yc,u0,u1,u2,u3,u4,u5,u6,u7,u8,u9,hrep,hxk,hkd,htb,hdc,hvr⟩:=hrv k r hr
      have HR0:Hid (rs[k]?=some r∧(rs.map Jn.rerr)[k]?=some (Jn.rerr r)):=⟨hr,by rw [List.getElem?_map,hr];rfl⟩
      obtain ⟨rk,rtb,rd,rvv,rval⟩:=r
      obtain ⟨tx,htx⟩:∃tx,tx=Jn.rtext ⟨rk,rtb,rd,rvv,rval⟩:=⟨_,rfl⟩
      obtain ⟨er,her⟩:∃er,er=Jn.rerr ⟨rk,rtb,rd,rvv,rval⟩:=⟨_,rfl⟩
      have CRT:Hid (∀W,Below wr.heap.size wr W→Calls Tryz.prog 14 #[.agg #[.int .u8 (rk:Int),.string rtb,.int .u64 (rd:Int),.int .u64 (rvv:Int),.int .u8 (xk:Int),.bool xb,.int .i64 xn,.string xs,.slice xa xl xc,.slice ya yl yc]] W fun e w'=>e=.returned (.tuple #[.string tx,.int .i64 (er:Int)])∧Below W.heap.size W w'):=fun W hW=>by
        have h:=rrevText_c rk rtb rd rvv rval hkd htb hdc hvr xk xb xn xs xa xl xc ya yl yc hxk W W.heap.size (Nat.le_refl _) (rep_stays hW hW.size _ _ hrep)
        rw [←her,←htx] at h
        exact h
      have HTX:Hid (tx=Jn.rtext ⟨rk,rtb,rd,rvv,rval⟩∧er=Jn.rerr ⟨rk,rtb,rd,rvv,rval⟩):=⟨htx,her⟩
      have a2:(k:Int)+1≤9223372036854775807:=by omega
      clear hr htx her hrep hxk hkd htb hdc hvr hrv
      go_upto_region 5 with fail
      obtain ⟨w8,hw8⟩:∃w8,w8=wr.alloc (.cells #[.int .u8 (rk:Int),.string rtb,.int .u64 (rd:Int),.int .u64 (rvv:Int),.int .u8 (xk:Int),.bool xb,.int .i64 xn,.string xs,.slice xa xl xc,.slice ya yl yc] 34):=⟨_,rfl⟩
      obtain ⟨R,hR⟩:∃R,R=wr.heap.size:=⟨_,rfl⟩
      have V8:Hid (w8.heap[R]?=some (.cells #[.int .u8 (rk:Int),.string rtb,.int .u64 (rd:Int),.int .u64 (rvv:Int),.int .u8 (xk:Int),.bool xb,.int .i64 xn,.string xs,.slice xa xl xc,.slice ya yl yc] 34 (0,0))∧Below wr.heap.size wr w8):=by rw [hw8,hR];exact ⟨heap_alloc_new wr _,below_new _ _⟩
      rw [←hw8,←hR]
      clear hw8 hR u0 u1 u2 u3 u4 u5 u6 u7 u8 u9
      have u0:=block_cells V8.out.1 0 _ rfl
      have u1:=block_cells V8.out.1 1 _ rfl
      have u2:=block_cells V8.out.1 2 _ rfl
      have u3:=block_cells V8.out.1 3 _ rfl
      have u4:=block_cells V8.out.1 4 _ rfl
      have u5:=block_cells V8.out.1 5 _ rfl
      have u6:=block_cells V8.out.1 6 _ rfl
      have u7:=block_cells V8.out.1 7 _ rfl
      have u8:=block_cells V8.out.1 8 _ rfl
      have u9:=block_cells V8.out.1 9 _ rfl
      go_wp2_with fail
      refine Calls.mono (CRT.out _ V8.out.2) ?_
      rintro e w9 ⟨rfl,hb9⟩
      have X9:Hid (TX w w9 ((Jn.tx rs).take k) tv):=X.out.call (V8.out.2.trans (hb9.mono V8.out.2.size))
      clear hb9 V8 CRT u0 u1 u2 u3 u4 u5 u6 u7 u8 u9 X
      by_cases c1:er=0
      · have z1:((er:Int)==0)=true:=by rw [beq_iff_eq];omega
        have HF2:Hid (Jn.first ((rs.map Jn.rerr).take (k+1))=0):=Jn.first_next HF.out (by rw [HR0.out.2,←HTX.out.2,c1])
        have HKL:Hid (((Jn.tx rs).take k).length=k∧(Jn.tx rs).take (k+1)=(Jn.tx rs).take k++[tx.data.toList]):=by
          have h1:=HN.out
          refine ⟨by rw [List.length_take,Jn.tx_len];omega,by rw [Jn.tx_take HR0.out.1,HTX.out.1]⟩
        have HOWN:Hid (w9.ownsRow w.heap.size 9 1 tv k (scs ((Jn.tx rs).take k))):=by have h:=X9.out.row;rw [HKL.out.1] at h;exact h
        have fit63:Hid (k+1≤maxLen):=by show _≤_;unfold maxLen;omega
        have fit47:Hid ((k+1)*16≤140737488355328):=by show _≤_;omega
        have HSZ2:Hid (∀o,w.heap.size≤(w9.alloc o).heap.size):=fun o=>by have:=X9.out.below.size;simp;omega
        have HNX2:Hid (∀gg cap w5 o,(w9.alloc o).grownBy w5 tv.ownBlock→w5.ownsRow w.heap.size 9 1 (.slice (some ⟨gg,0,none⟩) (k+1) cap) (k+1) (scs ((Jn.tx rs).take k)++[.string tx])→TX w w5 ((Jn.tx rs).take (k+1)) (.slice (some ⟨gg,0,none⟩) (k+1) cap)):=by
          intro gg cap w5 o hgr hno
          rw [HKL.out.2]
          have hx:=X9.out
          refine TX.next (x:=tx.data.toList) hx hgr ?_
          rw [HKL.out.1,bs_data]
          exact hno
        go_upto_region 9 with (first | (at_builtin;refine wpList_append_lies _ rfl _ _ 23 rfl w.heap.size 9 i9 _ 1 16 Tryz.underlying23 hi9 hr0 hr1 hr2 rfl (by decide) _ _ _ rfl (HOWN.out.alloc _) ⟨w9.heap.size,0,none⟩ 1 1 [.string tx] rfl rfl (World.news_of_block (heap_alloc_new w9 _)) (by intro u hu;simp at hu;subst hu;rfl) (by decide) fit63.out fit47.out (HSZ2.out _) _ rfl ?_;intro gg cap w10 hown5 hgrow hat hglt;have S5:Hid (TX w w10 ((Jn.tx rs).take (k+1)) (.slice (some ⟨gg,0,none⟩) (k+1) cap)):=HNX2.out gg cap w10 _ hgrow hown5;clear hown5 hgrow hat hglt))
        go_wp2
        go_roundw
        case rel=>exact ⟨k+1,_,rfl,by first | go_num | (rw [arW a2];go_num),hlk,HF2.out,S5.out⟩
        case measure =>
          simp only [intOf]
          first | exact arJ hlk | (rw [arW a2];exact arJ hlk)
      · have z1:((er:Int)==0)=false:=by rw [beq_eq_false_iff_ne];omega
        have E1:Hid (fe=er):=by show _=_;rw [HFE.out];exact Jn.first_hit HF.out (by rw [HR0.out.2,←HTX.out.2]) c1
        have HFB:Hid (Below w.heap.size w w9):=X9.out.below
        have C1:Hid (¬er=0):=c1
        clear c1 a2 hlk hk q2
        go_wp2
        refine bodyPost_ret (results_tmp2 rfl _ _ _) rfl ⟨_,by rw [E1.out];rfl,HFB.out,fun _=>rfl,fun h=>?_⟩
        exact absurd (E1.out.symm.trans h) C1.out
    · have q2:¬(k:Int)<(rn:Int):=by omega
      have hkr:k=rn:=by omega
      subst hkr
      have E1:Hid (fe=0):=by
        have h:=HF.out
        rw [List.take_of_length_le (by rw [List.length_map,←HN.out];exact Nat.le_refl _)] at h
        show _=_
        rw [HFE.out,h]
      have HX:Hid (w.heap.size≤wr.heap.size∧wr.ownsRow w.heap.size 9 1 tv k (scs (Jn.tx rs))):=by
        have h:=X.out.row
        rw [List.take_of_length_le (by rw [Jn.tx_len,←HN.out];exact Nat.le_refl _),Jn.tx_len,←HN.out] at h
        exact ⟨HWR.out.size,h⟩
      have HFB:=HWR.out
      go_wp2
      refine bodyPost_ret (results_tmp2 rfl _ _ _) rfl ⟨_,?_,HFB,fun h=>absurd E1.out h,fun _=>HX.out.2⟩
      rw [E1.out]
      rfl
end Go.Proofs.YtggnfejjcgbebaaGreatDoor
/- Values that are put in a row one by one; the document's list of statements. -/
namespace Go.Proofs.YtggnfejjcgbebaaGreatDoor
open Go.RowKit
open Vl (V)
attribute [local go_sem ↓] Go.wp_at_zero Go.wp_at_succ
structure VX (w W:World) (K:List V) (v:Value):Prop where
  below:Below w.heap.size w W
  row:∃cs,W.ownsRow w.heap.size 32 6 v K.length cs∧Kept w w.heap.size cs K
theorem VX.start (w:World):VX w w [] (.slice none 0 0):=⟨Below.refl _ _,[],World.ownsRow_nil _ _ _ _,Kept.none _ _⟩
theorem VX.call {w W W':World} {K:List V} {v:Value} (h:VX w W K v) (hb:Below W.heap.size W W'):VX w W' K v:=by
  obtain ⟨cs,h1,h2⟩:=h.row
  exact ⟨h.below.trans (hb.mono h.below.size),cs,own_call h1 hb,h2⟩
theorem VX.next {w W wx W1:World} {K:List V} {v v':Value} {t:V} {cs:List Value} {c0 c1 c2 c3 c4 c5:Value} (h:VX w W K v) (hx:Below W.heap.size W wx) (ho:W.ownsRow w.heap.size 32 6 v K.length cs) (hk:Kept w w.heap.size cs K) (hr:Rep w w.heap.size t (.agg #[c0,c1,c2,c3,c4,c5])) (hg:wx.grownBy W1 v.ownBlock) (hn:W1.ownsRow w.heap.size 32 6 v' (K.length+1) (cs++[c0,c1,c2,c3,c4,c5])):VX w W1 (K++[t]) v':=by
  have hw:=h.below.trans (hx.mono h.below.size)
  exact ⟨hw.grown hg hw.size (fun k hk=>(own_in ho k hk).1),_,by rw [List.length_append];exact hn,hk.more hr⟩
theorem VX.rep {w W:World} {K:List V} {v:Value} (h:VX w W K v) (hK:K.length≤maxLen):∃a c,v=.slice a K.length c∧Rep W W.heap.size (Jn.lst K) (.agg #[.int .u8 5,.bool false,.int .i64 0,.string ⟨#[]⟩,.slice a K.length c,.slice none 0 0]):=by
  obtain ⟨cs,ho,hk⟩:=h.row
  have hr:∀t v,Rep w w.heap.size t v→Rep W W.heap.size t v:=fun t v hr=>rep_stays h.below h.below.size t v hr
  rcases ho.2 with ⟨rfl,h0⟩ | ⟨g,cap,cur,rfl,hg,hc,hx⟩
  · have hK0:K=[]:=List.eq_nil_of_length_eq_zero h0
    subst hK0
    exact ⟨none,0,rfl,rep_list (l:=[]) (by simp) (fun h=>by simp at h)⟩
  · refine ⟨_,_,rfl,rep_list hK fun _=>⟨g,0,rfl,(Array.getElem?_eq_some_iff.1 hc).1,repL_mk K 0 fun j t hj=>?_⟩⟩
    obtain ⟨c0,c1,c2,c3,c4,c5,e0,e1,e2,e3,e4,e5,hrr⟩:=hk.2 j t hj
    refine ⟨c0,c1,c2,c3,c4,c5,?_,hr _ _ hrr⟩
    rw [Nat.zero_add]
    exact ⟨own_cell ho e0,own_cell ho e1,own_cell ho e2,own_cell ho e3,own_cell ho e4,own_cell ho e5⟩
theorem rep_txt {W W':World} {H H':Nat} {s:ByteArray} {v:Value} (h:Rep W H (Jn.txt s) v):Rep W' H' (Jn.txt s) v:=by
  rw [Jn.txt,Rep] at h ⊢
  obtain ⟨ao,lc,fo,fc,h1,h2,h3,h4,h5,h6,h7,h8⟩:=h
  exact ⟨ao,lc,fo,fc,h1,h2,h3,h4,h5,h6,fun h=>by simp at h,fun h=>by simp at h⟩
theorem own_base {W:World} {B B' n sz:Nat} {t:TypeId} {v:Value} {xs:List Value} (h:W.ownsRow B t sz v n xs) (hb:B'≤B):W.ownsRow B' t sz v n xs:=by
  refine ⟨h.1,?_⟩
  rcases h.2 with h2 | ⟨g,cap,cur,h1,h2,h3⟩
  · exact .inl h2
  · exact .inr ⟨g,cap,cur,h1,Nat.le_trans hb h2,h3⟩
set_option maxHeartbeats 16000000 in
set_option maxRecDepth 100000 in
theorem rstatements_c (a:Option Addr) (n c:Nat) (l:List (List UInt8)) (hl:∀x∈l,x.length≤maxLen) (hn2:n≤1048576) (w:World) (hS0:Sl w w.heap.size (.slice a n c) l) :
    Calls Tryz.prog 39 #[.slice a n c] w fun e w'=>∃a c',e=.returned (.agg #[.int .u8 5,.bool false,.int .i64 0,.string ⟨#[]⟩,.slice a n c',.slice none 0 0])∧Rep w' w'.heap.size (Jn.lst (l.map fun x=>Jn.txt (bs x))) (.agg #[.int .u8 5,.bool false,.int .i64 0,.string ⟨#[]⟩,.slice a n c',.slice none 0 0])∧Below w.heap.size w w':=by
  obtain ⟨i0,hi,hz0,hz1,hz2⟩:=info_parts info26'
  obtain ⟨ts,hts⟩:∃ts,ts=l.map fun x=>Jn.txt (bs x):=⟨_,rfl⟩
  have HTS:Hid (ts=l.map fun x=>Jn.txt (bs x)):=hts
  have HSL:Hid (Sl w w.heap.size (.slice a n c) l):=hS0
  have HL:Hid (∀x∈l,x.length≤maxLen):=hl
  have HN:Hid (n=ts.length):=by show _=_;rw [hts,List.length_map];exact hS0.len
  rw [←hts]
  clear hS0 hts hl
  obtain ⟨w1,hw1⟩:∃w1,w1=w.alloc (.cells #[.int .u8 0,.bool false,.int .i64 0,.string ⟨#[]⟩,.slice none 0 0,.slice none 0 0] 32):=⟨_,rfl⟩
  have HZ:Hid (Z6 w1 w.heap.size∧Below w.heap.size w w1∧w1.heap.size=w.heap.size+1):=by
    rw [hw1]
    exact ⟨⟨by simp,heap_alloc_new w _⟩,below_new _ _,by simp⟩
  go_enter Tryz.func39,Tryz.ntmps39
  go_upto_region 1 with fail
  rw [←hw1]
  clear hw1
  go_wp2
  go_loopw [3,8] (fun o i wr=>∃(j:Nat) (lv:Value),lv=o∧j≤n∧i=.int .i64 j∧VX w1 wr (ts.take j) lv) (fun _ i _=>n - (intOf i).toNat)
  case atStart=>exact ⟨0,_,rfl,Nat.zero_le _,rfl,VX.start w1⟩
  case round =>
    obtain ⟨j,lv,hlv,hj,rfl,hS⟩:=hrel
    subst hlv
    have S2:Hid (VX w1 wr (ts.take j) lv):=hS
    clear hS
    by_cases hlt:j<n
    · have q1:(j:Int)<(n:Int):=by omega
      have hll:j<l.length:=by have h:=HN.out;rw [HTS.out,List.length_map] at h;omega
      obtain ⟨x,hx⟩:∃x,l[j]?=some x:=⟨_,List.getElem?_eq_getElem hll⟩
      obtain ⟨g,o,rfl,hnl,hg,hc⟩:=HSL.out.at (by omega)
      obtain ⟨xs,hxs⟩:∃xs:ByteArray,xs=bs x:=⟨_,rfl⟩
      have hwr:Below w.heap.size w wr:=HZ.out.2.1.trans (S2.out.below.mono HZ.out.2.1.size)
      have d0:wr.cell? ⟨g,o+j,none⟩=some (.string xs):=by rw [hxs];exact (hwr.cell (p:=⟨g,o+j,none⟩) hg).trans (hc j x hx)
      have HX:Hid (ts[j]?=some (Jn.txt xs)):=by show _=_;rw [HTS.out,List.getElem?_map,hx,hxs];rfl
      have HRX:Hid (Rep w1 w1.heap.size (Jn.txt xs) (.agg #[.int .u8 3,.bool false,.int .i64 0,.string xs,.slice none 0 0,.slice none 0 0])):=by
        show Rep _ _ _ _
        rw [Jn.txt]
        refine rep_flat _ _ 3 _ _ (by omega) (by omega) ?_
        rw [hxs,bs_size];exact HL.out x (List.mem_of_getElem? hx)
      have hlj:(ts.take j).length=j:=by rw [List.length_take,←HN.out];omega
      have HLJ:Hid ((ts.take j).length=j):=hlj
      have C9:Hid (∀W,Calls Tryz.prog 53 #[.string xs] W fun e w'=>e=.returned (.agg #[.int .u8 3,.bool false,.int .i64 0,.string xs,.slice none 0 0,.slice none 0 0])∧Below W.heap.size W w'):=fun W=>rtextV_c xs W
      clear hx hlj hc hxs hnl hll hwr
      obtain ⟨cs,hown,hel⟩:=S2.out.row
      rw [HLJ.out] at hown
      have HOWN:Hid (wr.ownsRow w1.heap.size 32 6 lv j cs):=hown
      have HEL:Hid (Kept w1 w1.heap.size cs (ts.take j)):=hel
      clear hown hel
      have fit63:Hid (j+1≤maxLen):=by show _≤_;unfold maxLen;omega
      have fit47:Hid ((j+1)*80≤140737488355328):=by show _≤_;omega
      go_wp2_with fail
      refine Calls.mono (C9.out _) ?_
      rintro e w3 ⟨rfl,hb3⟩
      have HB3:Hid (Below wr.heap.size wr w3):=hb3
      have HSZ2:Hid (∀o,w1.heap.size≤(w3.alloc o).heap.size):=fun o=>by have:=S2.out.below.size;have:=HB3.out.size;simp;omega
      have HNX:Hid (∀gg cap w5 o,(w3.alloc o).grownBy w5 lv.ownBlock→w5.ownsRow w1.heap.size 32 6 (.slice (some ⟨gg,0,none⟩) (j+1) cap) (j+1) (cs++[.int .u8 3,.bool false,.int .i64 0,.string xs,.slice none 0 0,.slice none 0 0])→VX w1 w5 (ts.take (j+1)) (.slice (some ⟨gg,0,none⟩) (j+1) cap)):=by
        intro gg cap w5 o hgr hno
        rw [List.take_add_one,HX.out]
        exact VX.next S2.out (HB3.out.trans ((below_new _ _).mono HB3.out.size)) (by rw [HLJ.out];exact HOWN.out) HEL.out HRX.out hgr (by rw [HLJ.out];exact hno)
      clear hb3
      go_upto_region 6 with (first | (at_builtin;refine wpList_append_lies _ rfl _ _ 29 rfl w1.heap.size 32 i0 _ 6 80 Tryz.underlying29 hi hz0 hz1 hz2 rfl (by decide) _ _ _ rfl ((own_call HOWN.out HB3.out).alloc _) ⟨w3.heap.size,0,none⟩ 1 1 [.int .u8 3,.bool false,.int .i64 0,.string xs,.slice none 0 0,.slice none 0 0] rfl rfl (World.news_of_block (heap_alloc_new w3 _)) (by simp [Value.oneCell']) (by decide) fit63.out fit47.out (HSZ2.out _) _ rfl ?_;intro gg cap w5 hown5 hgrow hat hglt;have S5:Hid (VX w1 w5 (ts.take (j+1)) (.slice (some ⟨gg,0,none⟩) (j+1) cap)):=HNX.out gg cap w5 _ hgrow hown5;clear hown5 hgrow hat hglt))
      go_wp2
      go_roundw
      case rel=>exact ⟨j+1,_,rfl,hlt,by go_num,S5.out⟩
      case measure =>
        simp only [intOf]
        exact arJ hlt
    · have q1:¬(j:Int)<(n:Int):=by omega
      have hjn:j=n:=by omega
      subst hjn
      have hall:ts.take j=ts:=List.take_of_length_le (by rw [←HN.out];exact Nat.le_refl _)
      have S9:Hid (VX w1 wr ts lv):=by have h:=S2.out;rw [hall] at h;exact h
      obtain ⟨a',c',hlv,_⟩:=S9.out.rep (by rw [←HN.out];unfold maxLen;omega)
      rw [←HN.out] at hlv
      subst hlv
      clear S2 hall
      go_wp2_with fail
      refine Calls.mono (rlist_c a' j c' _) ?_
      rintro e w3 ⟨rfl,hb3⟩
      have S3:Hid (VX w1 w3 ts (.slice a' j c')):=S9.out.call hb3
      have Z3:Hid (Z6 w3 w.heap.size):=by
        have h1:Below w1.heap.size w1 w3:=S9.out.below.trans (hb3.mono S9.out.below.size)
        exact HZ.out.1.call h1
      clear hb3 S9
      obtain ⟨q0,q1,q2,q3,q4,q5⟩:=Z3.out.cells
      have fz:=Z3.out.free
      have ltz:=Z3.out.1
      have k6:Hid (∀k,k≠w.heap.size→(w3.setCells w.heap.size 0 [.int .u8 5,.bool false,.int .i64 0,.string ⟨#[]⟩,.slice a' j c',.slice none 0 0]).heap[k]?=w3.heap[k]?):=fun k hk=>setCells_block hk _
      have s6:Hid ((w3.setCells w.heap.size 0 [.int .u8 5,.bool false,.int .i64 0,.string ⟨#[]⟩,.slice a' j c',.slice none 0 0]).heap.size=w3.heap.size):=size_setCellsV' _ _ _ _
      have b6:Hid (Below w.heap.size w (w3.setCells w.heap.size 0 [.int .u8 5,.bool false,.int .i64 0,.string ⟨#[]⟩,.slice a' j c',.slice none 0 0])):=below_setCellsV (Nat.le_refl _) _ _ (HZ.out.2.1.trans (S3.out.below.mono HZ.out.2.1.size))
      have p6:Hid ((w3.setCells w.heap.size 0 [.int .u8 5,.bool false,.int .i64 0,.string ⟨#[]⟩,.slice a' j c',.slice none 0 0]).heap[w.heap.size]?=some (.cells #[.int .u8 5,.bool false,.int .i64 0,.string ⟨#[]⟩,.slice a' j c',.slice none 0 0] 32 (0,0))):=Z6.put Z3.out _ _ _ _ _ _
      go_wp2
      rw [sets6]
      obtain ⟨w6,hw6⟩:∃w6,w6=w3.setCells w.heap.size 0 [.int .u8 5,.bool false,.int .i64 0,.string ⟨#[]⟩,.slice a' j c',.slice none 0 0]:=⟨_,rfl⟩
      rw [←hw6] at k6 s6 b6 p6 ⊢
      clear hw6
      have HREP:Rep w6 w6.heap.size (Jn.lst ts) (.agg #[.int .u8 5,.bool false,.int .i64 0,.string ⟨#[]⟩,.slice a' j c',.slice none 0 0]):=by
        obtain ⟨cs,ho,hk⟩:=S3.out.row
        have ho6:w6.ownsRow w1.heap.size 32 6 (.slice a' j c') ts.length cs:=own_block ho fun g hg=>k6.out g (by have:=(own_in ho g hg).1;have:=HZ.out.2.2;omega)
        have hflat:∀j t,ts[j]?=some t→∃c0 c1 c2 c3 c4 c5,cs[j*6]?=some c0∧cs[j*6+1]?=some c1∧cs[j*6+2]?=some c2∧cs[j*6+3]?=some c3∧cs[j*6+4]?=some c4∧cs[j*6+5]?=some c5∧Rep w w.heap.size t (.agg #[c0,c1,c2,c3,c4,c5]):=by
          intro j t hj
          obtain ⟨c0,c1,c2,c3,c4,c5,e0,e1,e2,e3,e4,e5,hr⟩:=hk.2 j t hj
          refine ⟨c0,c1,c2,c3,c4,c5,e0,e1,e2,e3,e4,e5,?_⟩
          rw [HTS.out,List.getElem?_map] at hj
          obtain ⟨x,_,rfl⟩:=Option.map_eq_some_iff.1 hj
          exact rep_txt hr
        have h6:VX w w6 ts (.slice a' j c'):=⟨b6.out,cs,own_base ho6 (by have:=HZ.out.2.2;omega),hk.1,hflat⟩
        obtain ⟨a2,c2,e2,h7⟩:=h6.rep (by rw [←HN.out];unfold maxLen;omega)
        rw [←HN.out] at e2 h7
        injection e2 with e2 _ e3
        subst e2 e3
        exact h7
      exact bodyPost_ret (v:=.agg #[.int .u8 5,.bool false,.int .i64 0,.string ⟨#[]⟩,.slice a' j c',.slice none 0 0]) (results_cell_row rfl _ _ w.heap.size 32 #[.int .u8 5,.bool false,.int .i64 0,.string ⟨#[]⟩,.slice a' j c',.slice none 0 0] (0,0) _ rfl p6.out Tryz.underlying32 rfl infoVal) rfl ⟨_,_,rfl,HREP,b6.out⟩
end Go.Proofs.YtggnfejjcgbebaaGreatDoor
/- The document's text of a block. -/
namespace Go.Proofs.YtggnfejjcgbebaaGreatDoor
open Go.RowKit
open Vl (V)
attribute [local go_sem ↓] Go.wp_at_zero Go.wp_at_succ
set_option maxHeartbeats 16000000 in
set_option maxRecDepth 100000 in
theorem rraw_c (sq:Nat) (pv rt:ByteArray) (hsq:sq<18446744073709551616) (hpv:pv.size≤maxLen) (hrt:rt.size≤maxLen) (sa:Option Addr) (sn sc:Nat) (ra:Option Addr) (rn rc:Nat) (hsn:sn≤1048576) (ss:List (List UInt8)) (hss:∀x∈ss,x.length≤maxLen) (rs:List Jn.R) (hrn:rn=rs.length) (h64:rn≤64) (w:World) (hS:Sl w w.heap.size (.slice sa sn sc) ss)
    (hR:0<rn→∃g o,ra=some ⟨g,o,none⟩∧g<w.heap.size∧∀i r,rs[i]?=some r→RevAt w w.heap.size g (o+i*10) r) (hok:Jn.first (rs.map Jn.rerr)=0) (bt:V) (hbt:bt=Jn.lst [Jn.num sq,Jn.blob pv,Jn.blob rt,Jn.lst (ss.map fun x=>Jn.txt (bs x)),Jn.lst ((Jn.tx rs).map fun x=>Jn.blob (bs x))]) :
    Calls Tryz.prog 36 #[.agg #[.int .u64 (sq:Int),.string pv,.string rt,.slice sa sn sc,.slice ra rn rc]] w fun e w'=>e=.returned (.tuple #[.string (Bn.wtext bt),.int .i64 (Bn.werr bt:Int)])∧Below w.heap.size w w':=by
  obtain ⟨B,hB⟩:∃B,B=w.heap.size:=⟨_,rfl⟩
  obtain ⟨w1,hw1⟩:∃w1,w1=w.alloc (.cells #[.int .u64 (sq:Int),.string pv,.string rt,.slice sa sn sc,.slice ra rn rc] 26):=⟨_,rfl⟩
  obtain ⟨cs5,hcs5⟩:∃cs5:Array Value,cs5=#[.int .u64 (sq:Int),.string pv,.string rt,.slice sa sn sc,.slice ra rn rc]:=⟨_,rfl⟩
  have S1:Hid (BB w B cs5 w1):=by
    show BB _ _ _ _
    rw [hw1,hB,hcs5];exact ⟨below_new _ _,Nat.le_refl _,heap_alloc_new w _⟩
  have HC5:Hid (∀W,BB w B cs5 W→W.cell? ⟨B,0,none⟩=some (.int .u64 (sq:Int))∧W.cell? ⟨B,1,none⟩=some (.string pv)∧W.cell? ⟨B,2,none⟩=some (.string rt)∧W.cell? ⟨B,3,none⟩=some (.slice sa sn sc)∧W.cell? ⟨B,4,none⟩=some (.slice ra rn rc)):=fun W hW=>by
    rw [hcs5] at hW;exact hW.cells
  obtain ⟨le,hle⟩:∃le,le=Bn.werr bt:=⟨_,rfl⟩
  obtain ⟨lx,hlx⟩:∃lx,lx=Bn.wtext bt:=⟨_,rfl⟩
  rw [←hle,←hlx]
  obtain ⟨iq,hiq⟩:∃i,i=Jn.i64 sq:=⟨_,rfl⟩
  obtain ⟨t3,ht3⟩:∃t3,t3=Jn.lst (ss.map fun x=>Jn.txt (bs x)):=⟨_,rfl⟩
  obtain ⟨t4,ht4⟩:∃t4,t4=Jn.lst ((Jn.tx rs).map fun x=>Jn.blob (bs x)):=⟨_,rfl⟩
  have CN:Hid (∀W,Calls Tryz.prog 52 #[.int .u64 (sq:Int)] W fun en w'=>en=.returned (.agg #[.int .u8 2,.bool false,.int .i64 iq,.string ⟨#[]⟩,.slice none 0 0,.slice none 0 0])∧Below W.heap.size W w'):=fun W=>by rw [hiq];exact rwhole_c sq hsq W
  have CP:Hid (∀W,Calls Tryz.prog 66 #[.string pv] W fun en w'=>en=.returned (.agg #[.int .u8 4,.bool false,.int .i64 0,.string pv,.slice none 0 0,.slice none 0 0])∧Below W.heap.size W w'):=fun W=>rblobV_c pv W
  have CR:Hid (∀W,Calls Tryz.prog 66 #[.string rt] W fun en w'=>en=.returned (.agg #[.int .u8 4,.bool false,.int .i64 0,.string rt,.slice none 0 0,.slice none 0 0])∧Below W.heap.size W w'):=fun W=>rblobV_c rt W
  have C3:Hid (∀W,Below w.heap.size w W→Calls Tryz.prog 39 #[.slice sa sn sc] W fun en w'=>∃l1 m1,en=.returned (.agg #[.int .u8 5,.bool false,.int .i64 0,.string ⟨#[]⟩,.slice l1 sn m1,.slice none 0 0])∧Rep w' w'.heap.size t3 (.agg #[.int .u8 5,.bool false,.int .i64 0,.string ⟨#[]⟩,.slice l1 sn m1,.slice none 0 0])∧Below W.heap.size W w'):=fun W hW=>by
    rw [ht3];exact rstatements_c sa sn sc ss hss hsn W ((hS.stays hW (Nat.le_refl _)).mono hW.size)
  have CL:Hid (∀W l1 m1 l2 m2,Below w.heap.size w W→Rep W W.heap.size t3 (.agg #[.int .u8 5,.bool false,.int .i64 0,.string ⟨#[]⟩,.slice l1 sn m1,.slice none 0 0])→Rep W W.heap.size t4 (.agg #[.int .u8 5,.bool false,.int .i64 0,.string ⟨#[]⟩,.slice l2 rn m2,.slice none 0 0])→Calls Tryz.prog 51 #[.slice (some ⟨W.heap.size,0,none⟩) 5 5] (W.alloc (.cells #[.int .u8 2,.bool false,.int .i64 iq,.string ⟨#[]⟩,.slice none 0 0,.slice none 0 0,.int .u8 4,.bool false,.int .i64 0,.string pv,.slice none 0 0,.slice none 0 0,.int .u8 4,.bool false,.int .i64 0,.string rt,.slice none 0 0,.slice none 0 0,.int .u8 5,.bool false,.int .i64 0,.string ⟨#[]⟩,.slice l1 sn m1,.slice none 0 0,.int .u8 5,.bool false,.int .i64 0,.string ⟨#[]⟩,.slice l2 rn m2,.slice none 0 0] 32)) fun en w'=>∃a c',en=.returned (.agg #[.int .u8 5,.bool false,.int .i64 0,.string ⟨#[]⟩,.slice a 5 c',.slice none 0 0])∧Rep w' w'.heap.size bt (.agg #[.int .u8 5,.bool false,.int .i64 0,.string ⟨#[]⟩,.slice a 5 c',.slice none 0 0])∧Below (W.alloc (.cells #[.int .u8 2,.bool false,.int .i64 iq,.string ⟨#[]⟩,.slice none 0 0,.slice none 0 0,.int .u8 4,.bool false,.int .i64 0,.string pv,.slice none 0 0,.slice none 0 0,.int .u8 4,.bool false,.int .i64 0,.string rt,.slice none 0 0,.slice none 0 0,.int .u8 5,.bool false,.int .i64 0,.string ⟨#[]⟩,.slice l1 sn m1,.slice none 0 0,.int .u8 5,.bool false,.int .i64 0,.string ⟨#[]⟩,.slice l2 rn m2,.slice none 0 0] 32)).heap.size (W.alloc (.cells #[.int .u8 2,.bool false,.int .i64 iq,.string ⟨#[]⟩,.slice none 0 0,.slice none 0 0,.int .u8 4,.bool false,.int .i64 0,.string pv,.slice none 0 0,.slice none 0 0,.int .u8 4,.bool false,.int .i64 0,.string rt,.slice none 0 0,.slice none 0 0,.int .u8 5,.bool false,.int .i64 0,.string ⟨#[]⟩,.slice l1 sn m1,.slice none 0 0,.int .u8 5,.bool false,.int .i64 0,.string ⟨#[]⟩,.slice l2 rn m2,.slice none 0 0] 32)) w'):=fun W l1 m1 l2 m2 hW h3 h4=>by
    rw [hbt,←ht3,←ht4]
    refine rlistV_c W.heap.size 0 5 5 [Jn.num sq,Jn.blob pv,Jn.blob rt,t3,t4] rfl (by decide) (W.alloc _) (by simp) (rep_five (heap_alloc_new W _) ?_ ?_ ?_ (rep_stays (below_new _ _) (by simp) _ _ h3) (rep_stays (below_new _ _) (by simp) _ _ h4))
    · rw [hiq];exact rep_flat _ _ 2 _ _ (by omega) (Jn.i64_range sq hsq) (by decide)
    · exact rep_flat _ _ 4 _ _ (by omega) (by omega) hpv
    · exact rep_flat _ _ 4 _ _ (by omega) (by omega) hrt
  have CW:Hid (∀W v,Below w.heap.size w W→Rep W W.heap.size bt v→Calls Tryz.prog 38 #[v] W fun en w'=>en=.returned (.tuple #[.string lx,.int .i64 (le:Int)])∧Below W.heap.size W w'):=fun W v hW hr=>by
    rw [hlx,hle];exact rwrite19 bt W v hr
  have CTX:Hid (∀W,Below w.heap.size w W→Calls Tryz.prog 33 #[.slice ra rn rc] W fun e w'=>∃tv,e=.returned (.tuple #[tv,.int .i64 0])∧Below W.heap.size W w'∧w'.ownsRow W.heap.size 9 1 tv rn (scs (Jn.tx rs))):=fun W hW=>by
    have h:=rtexts_c rs ra rn rc hrn h64 W (fun hp=>by
      obtain ⟨g,o,e,hg,hc⟩:=hR hp
      exact ⟨g,o,e,Nat.lt_of_lt_of_le hg hW.size,fun i r hi=>(hc i r hi).stays hW hg hW.size⟩)
    refine h.mono ?_
    rintro e w' ⟨tv,rfl,h1,_,h2⟩
    exact ⟨tv,by rw [hok];rfl,h1,h2 hok⟩
  obtain ⟨ts,hts⟩:∃ts,ts=(Jn.tx rs).map fun x=>Jn.blob (bs x):=⟨_,rfl⟩
  have HTS:Hid (ts=(Jn.tx rs).map (fun x=>Jn.blob (bs x))∧t4=Jn.lst ts∧rn=ts.length∧rn=(Jn.tx rs).length):=⟨hts,by rw [ht4,hts],by rw [hts,List.length_map,Jn.tx_len,hrn],by rw [Jn.tx_len,hrn]⟩
  have HTB:Hid (∀x∈Jn.tx rs,x.length≤maxLen):=by
    intro x hx
    rw [Jn.tx] at hx
    obtain ⟨r,_,rfl⟩:=List.mem_map.1 hx
    have:=Jn.rtext_size r
    rw [←Lib.size_eq];unfold maxLen;omega
  obtain ⟨i0,hi,hz0,hz1,hz2⟩:=info_parts info26'
  clear hS hle hlx hiq ht3 ht4 hcs5 hbt hss hpv hrt hR hok hts hrn
  go_enter Tryz.func36,Tryz.ntmps36
  go_upto_region 1 with fail
  rw [←hw1,←hB]
  clear hw1 hB
  obtain ⟨p0,p1,p2,p3,p4⟩:=HC5.out _ S1.out
  go_wp2_with fail
  refine Calls.mono (CTX.out _ S1.out.below) ?_
  rintro e w2 ⟨tv,rfl,hb2,hown2⟩
  have S2:Hid (BB w B cs5 w2):=S1.out.call hb2
  have HOT:Hid (∀W,Below w2.heap.size w2 W→W.ownsRow w1.heap.size 9 1 tv rn (scs (Jn.tx rs))):=fun W hW=>own_call hown2 hW
  obtain ⟨ta,tc,rfl⟩:∃a c,tv=.slice a rn c:=own_slc hown2
  clear hb2 hown2 p0 p1 p2 p3 p4
  go_wp2
  go_loopw [6,17] (fun o i wr=>∃(j:Nat) (lv:Value),lv=o∧j≤rn∧i=.int .i64 j∧VX w2 wr (ts.take j) lv) (fun _ i _=>rn - (intOf i).toNat)
  case atStart=>exact ⟨0,_,rfl,Nat.zero_le _,rfl,VX.start w2⟩
  case round =>
   obtain ⟨j,lv,hlv,hj,rfl,hX⟩:=hrel
   subst hlv
   have X:Hid (VX w2 wr (ts.take j) lv):=hX
   clear hX
   by_cases hlt:j<rn
   · have q1:(j:Int)<(rn:Int):=by omega
     obtain ⟨x,hx⟩:∃x,(Jn.tx rs)[j]?=some x:=⟨_,List.getElem?_eq_getElem (by have:=HTS.out.2.2.2;omega)⟩
     obtain ⟨g,cap,e2,hg,hcell⟩:=own_cellsJ (by omega) (HOT.out wr X.out.below)
     injection e2 with e2 _ e3
     subst e2
     obtain ⟨xs,hxs⟩:∃xs:ByteArray,xs=bs x:=⟨_,rfl⟩
     have d0:wr.cell? ⟨g,j,none⟩=some (.string xs):=by rw [hxs];exact hcell j _ (by rw [scs,List.getElem?_map,hx];rfl)
     have HX:Hid (ts[j]?=some (Jn.blob xs)):=by show _=_;rw [HTS.out.1,List.getElem?_map,hx,hxs];rfl
     have HRX:Hid (Rep w2 w2.heap.size (Jn.blob xs) (.agg #[.int .u8 4,.bool false,.int .i64 0,.string xs,.slice none 0 0,.slice none 0 0])):=by
       show Rep _ _ _ _
       rw [Jn.blob]
       refine rep_flat _ _ 4 _ _ (by omega) (by omega) ?_
       rw [hxs,bs_size];exact HTB.out x (List.mem_of_getElem? hx)
     have hlj:(ts.take j).length=j:=by rw [List.length_take,←HTS.out.2.2.1];omega
     have HLJ:Hid ((ts.take j).length=j):=hlj
     have C9:Hid (∀W,Calls Tryz.prog 66 #[.string xs] W fun e w'=>e=.returned (.agg #[.int .u8 4,.bool false,.int .i64 0,.string xs,.slice none 0 0,.slice none 0 0])∧Below W.heap.size W w'):=fun W=>rblobV_c xs W
     clear hx hlj hcell hxs hg e3
     obtain ⟨cs,hown,hel⟩:=X.out.row
     rw [HLJ.out] at hown
     have HOWN:Hid (wr.ownsRow w2.heap.size 32 6 lv j cs):=hown
     have HEL:Hid (Kept w2 w2.heap.size cs (ts.take j)):=hel
     clear hown hel
     have fit63:Hid (j+1≤maxLen):=by show _≤_;unfold maxLen;omega
     have fit47:Hid ((j+1)*80≤140737488355328):=by show _≤_;omega
     go_wp2_with fail
     refine Calls.mono (C9.out _) ?_
     rintro e w3 ⟨rfl,hb3⟩
     have HB3:Hid (Below wr.heap.size wr w3):=hb3
     have HSZ2:Hid (∀o,w2.heap.size≤(w3.alloc o).heap.size):=fun o=>by have:=X.out.below.size;have:=HB3.out.size;simp;omega
     have HNX:Hid (∀gg cap w5 o,(w3.alloc o).grownBy w5 lv.ownBlock→w5.ownsRow w2.heap.size 32 6 (.slice (some ⟨gg,0,none⟩) (j+1) cap) (j+1) (cs++[.int .u8 4,.bool false,.int .i64 0,.string xs,.slice none 0 0,.slice none 0 0])→VX w2 w5 (ts.take (j+1)) (.slice (some ⟨gg,0,none⟩) (j+1) cap)):=by
       intro gg cap w5 o hgr hno
       rw [List.take_add_one,HX.out]
       exact VX.next X.out (HB3.out.trans ((below_new _ _).mono HB3.out.size)) (by rw [HLJ.out];exact HOWN.out) HEL.out HRX.out hgr (by rw [HLJ.out];exact hno)
     clear hb3
     go_upto_region 7 with (first | (at_builtin;refine wpList_append_lies _ rfl _ _ 29 rfl w2.heap.size 32 i0 _ 6 80 Tryz.underlying29 hi hz0 hz1 hz2 rfl (by decide) _ _ _ rfl ((own_call HOWN.out HB3.out).alloc _) ⟨w3.heap.size,0,none⟩ 1 1 [.int .u8 4,.bool false,.int .i64 0,.string xs,.slice none 0 0,.slice none 0 0] rfl rfl (World.news_of_block (heap_alloc_new w3 _)) (by simp [Value.oneCell']) (by decide) fit63.out fit47.out (HSZ2.out _) _ rfl ?_;intro gg cap w5 hown5 hgrow hat hglt;have S5:Hid (VX w2 w5 (ts.take (j+1)) (.slice (some ⟨gg,0,none⟩) (j+1) cap)):=HNX.out gg cap w5 _ hgrow hown5;clear hown5 hgrow hat hglt))
     go_wp2
     go_roundw
     case rel=>exact ⟨j+1,_,rfl,hlt,by go_num,S5.out⟩
     case measure =>
       simp only [intOf]
       exact arJ hlt
   have q1:¬(j:Int)<(rn:Int):=by omega
   have hjn:rn=j:=by omega
   subst hjn
   have X9:Hid (∀W,Below wr.heap.size wr W→VX w2 W ts lv):=fun W hW=>by
     have h:=X.out.call hW
     rw [List.take_of_length_le (by rw [←HTS.out.2.2.1];exact Nat.le_refl _)] at h
     exact h
   obtain ⟨l2,m2,hlv,_⟩:=(X9.out wr (Below.refl _ _)).rep (by rw [←HTS.out.2.2.1];unfold maxLen;omega)
   rw [←HTS.out.2.2.1] at hlv
   subst hlv
   have XR:Hid (∀W,Below wr.heap.size wr W→Rep W W.heap.size t4 (.agg #[.int .u8 5,.bool false,.int .i64 0,.string ⟨#[]⟩,.slice l2 rn m2,.slice none 0 0])):=fun W hW=>by
     obtain ⟨a3,c3,e3,h3⟩:=(X9.out W hW).rep (by rw [←HTS.out.2.2.1];unfold maxLen;omega)
     rw [←HTS.out.2.2.1] at e3 h3
     injection e3 with e3 _ e4
     subst e3 e4
     rw [HTS.out.2.1]
     exact h3
   have SR:Hid (BB w B cs5 wr):=S2.out.call X.out.below
   clear X9 X HOT CTX S1 S2
   have C4:Hid (∀W,Calls Tryz.prog 51 #[.slice l2 rn m2] W fun e w'=>e=.returned (.agg #[.int .u8 5,.bool false,.int .i64 0,.string ⟨#[]⟩,.slice l2 rn m2,.slice none 0 0])∧Below W.heap.size W w'):=fun W=>rlist_c l2 rn m2 W
   go_upto_region 8 with fail
   obtain ⟨p0,p1,p2,p3,p4⟩:=HC5.out _ SR.out
   go_region_held3 (fun W'=>W'.cell? ⟨B,0,none⟩=some (.int .u64 (sq:Int))∧W'.cell? ⟨B,1,none⟩=some (.string pv)∧W'.cell? ⟨B,2,none⟩=some (.string rt)∧W'.cell? ⟨B,3,none⟩=some (.slice sa sn sc)∧W'.cell? ⟨B,4,none⟩=some (.slice ra rn rc)) (go_keep) (first
    | (go_at_call 38;refine (CW.out _ _ S6.out.below R6.out).mono ?_;rintro en w7 ⟨rfl,hb7⟩
       have S7:Hid (BB w B cs5 w7):=S6.out.call hb7
       obtain ⟨p0,p1,p2,p3,p4⟩:=HC5.out _ S7.out
       clear hb7)
    | (go_at_call_of 51 (Value.slice l2 rn m2);refine (C4.out _).mono ?_;rintro en w5 ⟨rfl,hb5⟩
       have S5:Hid (BB w B cs5 w5):=S4.out.call hb5
       have B5:Hid (Below wr.heap.size wr w5):=B4.out.trans (hb5.mono B4.out.size)
       have R4:Hid (Rep w5 w5.heap.size t3 (.agg #[.int .u8 5,.bool false,.int .i64 0,.string ⟨#[]⟩,.slice l1 sn m1,.slice none 0 0])):=rep_stays hb5 hb5.size _ _ R3.out
       have R5:Hid (Rep w5 w5.heap.size t4 (.agg #[.int .u8 5,.bool false,.int .i64 0,.string ⟨#[]⟩,.slice l2 rn m2,.slice none 0 0])):=XR.out _ B5.out
       obtain ⟨p0,p1,p2,p3,p4⟩:=HC5.out _ S5.out
       clear hb5)
    | (go_at_call 51;refine (CL.out _ _ _ _ _ S5.out.below R4.out R5.out).mono ?_;rintro en w6 ⟨la,lc,rfl,hr6,hb6⟩
       have S6:Hid (BB w B cs5 w6):=(S5.out.call (below_new _ _)).call hb6
       have R6:Hid (Rep w6 w6.heap.size bt (.agg #[.int .u8 5,.bool false,.int .i64 0,.string ⟨#[]⟩,.slice la 5 lc,.slice none 0 0])):=hr6
       obtain ⟨p0,p1,p2,p3,p4⟩:=HC5.out _ S6.out
       clear hb6 hr6)
    | (go_at_call 39;refine (C3.out _ S3.out.below).mono ?_;rintro en w4 ⟨l1,m1,rfl,hr4,hb4⟩
       have S4:Hid (BB w B cs5 w4):=S3.out.call hb4
       have B4:Hid (Below wr.heap.size wr w4):=B3.out.trans (hb4.mono B3.out.size)
       have R3:Hid (Rep w4 w4.heap.size t3 (.agg #[.int .u8 5,.bool false,.int .i64 0,.string ⟨#[]⟩,.slice l1 sn m1,.slice none 0 0])):=hr4
       obtain ⟨p0,p1,p2,p3,p4⟩:=HC5.out _ S4.out
       clear hb4 hr4)
    | (go_at_call 52;refine (CN.out _).mono ?_;rintro en w3 ⟨rfl,hb3⟩
       have S3:Hid (BB w B cs5 w3):=(by first | exact SR.out.call hb3 | exact (SR.out.call (Below.refl _ _).drew).call hb3)
       have B3:Hid (Below wr.heap.size wr w3):=(by first | exact hb3 | exact (Below.refl _ _).drew.trans hb3)
       obtain ⟨p0,p1,p2,p3,p4⟩:=HC5.out _ S3.out
       clear hb3)
    | (go_at_call_of 66 (Value.string pv);refine (CP.out _).mono ?_;rintro en w3 ⟨rfl,hb3⟩
       have S3:Hid (BB w B cs5 w3):=S3.out.call hb3
       have B3:Hid (Below wr.heap.size wr w3):=B3.out.trans (hb3.mono B3.out.size)
       obtain ⟨p0,p1,p2,p3,p4⟩:=HC5.out _ S3.out
       clear hb3)
    | (go_at_call_of 66 (Value.string rt);refine (CR.out _).mono ?_;rintro en w3 ⟨rfl,hb3⟩
       have S3:Hid (BB w B cs5 w3):=S3.out.call hb3
       have B3:Hid (Below wr.heap.size wr w3):=B3.out.trans (hb3.mono B3.out.size)
       obtain ⟨p0,p1,p2,p3,p4⟩:=HC5.out _ S3.out
       clear hb3)
    | fail "no arm")
   all_goals
    have HF:=S7.out.below
    go_wp2
    go_ret2
    exact ⟨rfl,HF⟩
end Go.Proofs.YtggnfejjcgbebaaGreatDoor
/- Why a block's parts are not right, as the document says; Check, Text. -/
namespace Go.Proofs.YtggnfejjcgbebaaGreatDoor
open Go.RowKit
open Vl (V)
attribute [local go_sem ↓] Go.wp_at_zero Go.wp_at_succ
set_option maxHeartbeats 16000000 in
set_option maxRecDepth 100000 in
theorem rparts_c (b:Jn.B) (sa:Option Addr) (sn sc:Nat) (ra:Option Addr) (rn rc:Nat) (w:World) (hB:Bk w w.heap.size b sa sn sc ra rn rc) :
    Calls Tryz.prog 32 #[.agg #[.int .u64 (b.seq:Int),.string b.prev,.string b.root,.slice sa sn sc,.slice ra rn rc]] w fun e w'=>e=.returned (.int .i64 (Jn.twhy b:Int))∧Below w.heap.size w w':=by
  have HBK:Hid (∀W,Below w.heap.size w W→Bk W W.heap.size b sa sn sc ra rn rc):=fun W hW=>hB.stays hW hW.size
  have hsn:sn=b.sts.length:=by have h:=hB.sts.len;rw [List.length_map] at h;exact h
  have hrn:rn=b.revs.length:=hB.many
  obtain ⟨cq,hcq⟩:∃cq,cq=b.seq:=⟨_,rfl⟩
  obtain ⟨cp,hcp⟩:∃cp,cp=b.prev:=⟨_,rfl⟩
  obtain ⟨cr,hcr⟩:∃cr,cr=b.root:=⟨_,rfl⟩
  obtain ⟨tw,htw⟩:∃tw,tw=Jn.twhy b:=⟨_,rfl⟩
  obtain ⟨fs,hfs⟩:∃fs,fs=Jn.first (b.sts.map Jn.swhy):=⟨_,rfl⟩
  obtain ⟨fr,hfr⟩:∃fr,fr=Jn.first (b.revs.map Jn.rerr):=⟨_,rfl⟩
  have HT:Hid (tw=if cq<1∨4611686018427387904<cq then 2 else if cp.size≠32∨cr.size≠32 then 4 else if 64<sn∨rn<1∨64<rn then 3 else if fs≠0 then fs else fr):=by
    show _=_
    rw [htw,Jn.twhy,Jn.sizes,hfs,hfr,hcq,hcp,hcr,hsn,hrn]
    by_cases c1:b.seq<1∨4611686018427387904<b.seq
    · simp only [if_pos c1];rfl
    by_cases c2:b.prev.size≠32∨b.root.size≠32
    · simp only [if_neg c1,if_pos c2];rfl
    by_cases c3:64<b.sts.length∨b.revs.length<1∨64<b.revs.length
    · simp only [if_neg c1,if_neg c2,if_pos c3];rfl
    simp only [if_neg c1,if_neg c2,if_neg c3]
    rfl
  have HN:Hid (sn=b.sts.length∧rn=b.revs.length∧fs=Jn.first (b.sts.map Jn.swhy)∧fr=Jn.first (b.revs.map Jn.rerr)∧cp.size≤maxLen∧cr.size≤maxLen):=⟨hsn,hrn,hfs,hfr,by rw [hcp];exact hB.prev,by rw [hcr];exact hB.root⟩
  obtain ⟨B,hBe⟩:∃B,B=w.heap.size:=⟨_,rfl⟩
  obtain ⟨w1,hw1⟩:∃w1,w1=w.alloc (.cells #[.int .u64 (cq:Int),.string cp,.string cr,.slice sa sn sc,.slice ra rn rc] 26):=⟨_,rfl⟩
  have S1:Hid (BB w B #[.int .u64 (cq:Int),.string cp,.string cr,.slice sa sn sc,.slice ra rn rc] w1):=by
    show BB _ _ _ _
    rw [hw1,hBe];exact ⟨below_new _ _,Nat.le_refl _,heap_alloc_new w _⟩
  rw [←htw,←hcq,←hcp,←hcr]
  have hrl:=hB.len
  unfold maxLen at hrl
  clear hB hsn hrn hfs hfr htw hcq hcp hcr
  go_enter Tryz.func32,Tryz.ntmps32
  go_upto_region 1 with fail
  rw [←hw1,←hBe]
  clear hw1 hBe
  obtain ⟨p0,p1,p2,p3,p4⟩:=S1.out.cells
  have HF:=S1.out.below
  by_cases c1:cq<1∨4611686018427387904<cq
  · have e1:Hid (tw=2):=by show _=_;rw [HT.out,if_pos c1]
    by_cases h0:cq<1
    · have q1:(cq:Int)<1:=by omega
      go_wp2
      go_ret
      exact ⟨by rw [e1.out];rfl,HF⟩
    · have q1:¬(cq:Int)<1:=by omega
      have q2:(4611686018427387904:Int)<(cq:Int):=by omega
      go_wp2
      go_ret
      exact ⟨by rw [e1.out];rfl,HF⟩
  have q1:¬(cq:Int)<1:=by omega
  have q2:¬(4611686018427387904:Int)<(cq:Int):=by omega
  by_cases c2:cp.size≠32∨cr.size≠32
  · have e1:Hid (tw=4):=by show _=_;rw [HT.out,if_neg c1,if_pos c2]
    by_cases h0:cp.size=32
    · have q3:((cp.size:Int)==32)=true:=by rw [beq_iff_eq];omega
      have q4:((cr.size:Int)==32)=false:=by rw [beq_eq_false_iff_ne];omega
      go_wp2
      go_ret
      exact ⟨by rw [e1.out];rfl,HF⟩
    · have q3:((cp.size:Int)==32)=false:=by rw [beq_eq_false_iff_ne];omega
      go_wp2
      go_ret
      exact ⟨by rw [e1.out];rfl,HF⟩
  have q3:((cp.size:Int)==32)=true:=by rw [beq_iff_eq];omega
  have q4:((cr.size:Int)==32)=true:=by rw [beq_iff_eq];omega
  have q3n:((cp.size:Int) != 32)=false:=by rw [bne,q3];rfl
  have q4n:((cr.size:Int) != 32)=false:=by rw [bne,q4];rfl
  by_cases c3:64<sn∨rn<1∨64<rn
  · have e1:Hid (tw=3):=by show _=_;rw [HT.out,if_neg c1,if_neg c2,if_pos c3]
    by_cases h0:64<sn
    · have q5:(64:Int)<(sn:Int):=by omega
      go_wp2
      go_ret
      exact ⟨by rw [e1.out];rfl,HF⟩
    · have q5:¬(64:Int)<(sn:Int):=by omega
      by_cases h1:rn<1
      · have q6:(rn:Int)<1:=by omega
        go_wp2
        go_ret
        exact ⟨by rw [e1.out];rfl,HF⟩
      · have q6:¬(rn:Int)<1:=by omega
        have q7:(64:Int)<(rn:Int):=by omega
        go_wp2
        go_ret
        exact ⟨by rw [e1.out];rfl,HF⟩
  have q5:¬(64:Int)<(sn:Int):=by omega
  have q6:¬(rn:Int)<1:=by omega
  have q7:¬(64:Int)<(rn:Int):=by omega
  have HTW:Hid (tw=if fs≠0 then fs else fr):=by show _=_;rw [HT.out,if_neg c1,if_neg c2,if_neg c3]
  have hs64:sn≤64:=by omega
  have hr64:rn≤64:=by omega
  clear HT c1 c2 c3
  go_wp2
  go_loopw [44] (fun i wr=>∃(j:Nat),j≤sn∧i=.int .i64 (j:Int)∧Jn.first ((b.sts.map Jn.swhy).take j)=0∧Below w1.heap.size w1 wr) (fun i _=>sn - (intOf i).toNat)
  case atStart=>exact ⟨0,Nat.zero_le _,rfl,rfl,Below.refl _ _⟩
  case round =>
    obtain ⟨j,hj,rfl,hf,hbr⟩:=hrel
    have HF2:Hid (Jn.first ((b.sts.map Jn.swhy).take j)=0):=hf
    have SR:Hid (BB w B #[.int .u64 (cq:Int),.string cp,.string cr,.slice sa sn sc,.slice ra rn rc] wr):=S1.out.call hbr
    have HBR:Hid (Below w1.heap.size w1 wr):=hbr
    clear hf hbr p0 p1 p2 p3 p4 HF
    by_cases hlt:j<sn
    · have z1:(j:Int)<(sn:Int):=by omega
      have HB1:=HBK.out wr SR.out.below
      obtain ⟨s,hs⟩:∃s,b.sts[j]?=some s:=⟨_,List.getElem?_eq_getElem (by have:=HN.out.1;omega)⟩
      obtain ⟨g,o,rfl,-,hg,hc⟩:=HB1.sts.at (by rw [List.length_map];have:=HN.out.1;omega)
      have d0:wr.cell? ⟨g,o+j,none⟩=some (.string s):=by
        have h:=hc j s.data.toList (by rw [List.getElem?_map,hs];rfl)
        rw [encS,bs_data] at h
        exact h
      have HX:Hid ((b.sts.map Jn.swhy)[j]?=some (Jn.swhy s)∧s.size≤maxLen):=⟨by rw [List.getElem?_map,hs];rfl,HB1.small s (List.mem_of_getElem? hs)⟩
      have hsz:s.size≤9223372036854775807:=by have:=HX.out.2;unfold maxLen at this;omega
      clear hc hs HB1 hg
      obtain ⟨u,hu⟩:∃u,u=Bn.u8 s:=⟨_,rfl⟩
      by_cases c1:1024<s.size
      · have z2:(1024:Int)<(s.size:Int):=by omega
        have e1:Hid (tw=4):=by
          have h:fs=4:=by rw [HN.out.2.2.1];exact Jn.first_hit HF2.out (by rw [HX.out.1,Jn.swhy,if_pos c1]) (by decide)
          show _=_
          rw [HTW.out,if_pos (by rw [h];decide),h]
        have HF:=SR.out.below
        go_wp2
        go_ret
        exact ⟨by rw [e1.out];rfl,HF⟩
      · have z2:¬(1024:Int)<(s.size:Int):=by omega
        have CU:Hid (∀W,Calls Tryz.prog 72 #[.string s] W fun e w'=>e=.returned (.bool u)∧Below W.heap.size W w'):=fun W=>by rw [hu];exact rutf59 s W (by omega)
        have HU:Hid (u=Bn.u8 s):=hu
        clear hu
        go_wp2_with fail
        refine Calls.mono (CU.out _) ?_
        rintro e w3 ⟨rfl,hb3⟩
        have HB3:Hid (Below w1.heap.size w1 w3∧Below w.heap.size w w3):=⟨HBR.out.trans (hb3.mono HBR.out.size),SR.out.below.trans (hb3.mono SR.out.below.size)⟩
        clear hb3
        cases u
        · have e1:Hid (tw=9):=by
            have h:fs=9:=by rw [HN.out.2.2.1];exact Jn.first_hit HF2.out (by rw [HX.out.1,Jn.swhy,if_neg c1,if_pos HU.out.symm]) (by decide)
            show _=_
            rw [HTW.out,if_pos (by rw [h];decide),h]
          go_wp2
          go_ret
          exact ⟨by rw [e1.out];rfl,HB3.out.2⟩
        · have HF3:Hid (Jn.first ((b.sts.map Jn.swhy).take (j+1))=0):=Jn.first_next HF2.out (by rw [HX.out.1,Jn.swhy,if_neg c1,if_neg (by rw [←HU.out];decide)])
          go_wp2
          go_roundw
          case rel=>first | exact ⟨j+1,hlt,by go_num,HF3.out,HB3.out.1⟩ | ((repeat apply Exists.intro);exact ⟨⟨j+1,hlt,by go_num,HF3.out,HB3.out.1⟩,rfl⟩)
          case measure =>
            simp only [intOf]
            exact arJ hlt
    · have z1:¬(j:Int)<(sn:Int):=by omega
      have hjn:j=sn:=by omega
      subst hjn
      have e1:Hid (tw=fr):=by
        have h:=HF2.out
        rw [List.take_of_length_le (by rw [List.length_map,←HN.out.1];exact Nat.le_refl _),←HN.out.2.2.1] at h
        show _=_
        rw [HTW.out,if_neg (by simp [h])]
      obtain ⟨p0,p1,p2,p3,p4⟩:=SR.out.cells
      go_wp2_with fail
      refine Calls.mono (rtexts_c b.revs ra rn rc HN.out.2.1 hr64 _ (HBK.out _ SR.out.below).revs) ?_
      rintro e w3 ⟨tv,rfl,hb3,_,_⟩
      have HB3:Hid (Below w.heap.size w w3):=SR.out.below.trans (hb3.mono SR.out.below.size)
      rw [←HN.out.2.2.2.1]
      clear hb3
      go_wp2
      go_ret
      exact ⟨by rw [e1.out];rfl,HB3.out⟩
theorem Jn.twhy_zero {b:Jn.B} (h:Jn.twhy b=0):Jn.sizes b=0∧Jn.first (b.revs.map Jn.rerr)=0:=by
  rw [Jn.twhy] at h
  split at h
  · rename_i h1;exact absurd h h1
  · rename_i h1
    split at h
    · rename_i h2;exact absurd h h2
    · exact ⟨by simpa using h1,h⟩
theorem Jn.sizes_zero {b:Jn.B} (h:Jn.sizes b=0):b.sts.length≤64∧b.revs.length≤64∧1≤b.revs.length:=by
  rw [Jn.sizes] at h
  split at h
  · cases h
  · split at h
    · cases h
    · split at h
      · cases h
      · rename_i h3
        omega
theorem Jn.bv_is (b:Jn.B):Jn.bv b=Jn.lst [Jn.num b.seq,Jn.blob b.prev,Jn.blob b.root,Jn.lst ((b.sts.map fun s=>s.data.toList).map fun x=>Jn.txt (bs x)),Jn.lst ((Jn.tx b.revs).map fun x=>Jn.blob (bs x))]:=by
  simp [Jn.bv,Jn.tx,bs_data,Function.comp_def]
theorem rrawB_c (b:Jn.B) (sa:Option Addr) (sn sc:Nat) (ra:Option Addr) (rn rc:Nat) (w:World) (hB:Bk w w.heap.size b sa sn sc ra rn rc) (ht:Jn.twhy b=0) :
    Calls Tryz.prog 36 #[.agg #[.int .u64 (b.seq:Int),.string b.prev,.string b.root,.slice sa sn sc,.slice ra rn rc]] w fun e w'=>e=.returned (.tuple #[.string (Bn.wtext (Jn.bv b)),.int .i64 (Bn.werr (Jn.bv b):Int)])∧Below w.heap.size w w':=by
  obtain ⟨h1,h2⟩:=Jn.twhy_zero ht
  obtain ⟨h3,h4,_⟩:=Jn.sizes_zero h1
  have hsn:sn=b.sts.length:=by have h:=hB.sts.len;rw [List.length_map] at h;exact h
  exact rraw_c b.seq b.prev b.root hB.seq hB.prev hB.root sa sn sc ra rn rc (by omega) (b.sts.map fun s=>s.data.toList) (fun x hx=>by
    obtain ⟨s,hs,rfl⟩:=List.mem_map.1 hx
    rw [←Lib.size_eq];exact hB.small s hs) b.revs hB.many (by have:=hB.many;omega) w hB.sts hB.revs h2 (Jn.bv b) (Jn.bv_is b)
end Go.Proofs.YtggnfejjcgbebaaGreatDoor
/- The document's Check and Text of a block; a head's text and digest. -/
namespace Go.Proofs.YtggnfejjcgbebaaGreatDoor
open Go.RowKit
open Vl (V)
attribute [local go_sem ↓] Go.wp_at_zero Go.wp_at_succ
theorem own_capR {W:World} {B n m c size:Nat} {t:TypeId} {a:Option Addr} {L:List Value} (h:W.ownsRow B t size (.slice a m c) n L):n≤c:=by
  rcases h.2 with ⟨e,h1⟩ | ⟨g,cap,cur,e,_,_,h4,_⟩
  · omega
  · injection e with _ _ e3
    omega
set_option maxHeartbeats 16000000 in
set_option maxRecDepth 100000 in
theorem rcheckB_c (b:Jn.B) (sa:Option Addr) (sn sc:Nat) (ra:Option Addr) (rn rc:Nat) (w:World) (hB:Bk w w.heap.size b sa sn sc ra rn rc) :
    Calls Tryz.prog 18 #[.agg #[.int .u64 (b.seq:Int),.string b.prev,.string b.root,.slice sa sn sc,.slice ra rn rc]] w fun e w'=>e=.returned (.int .i64 (Jn.berr b:Int))∧Below w.heap.size w w':=by
  have HBK:Hid (∀W,Below w.heap.size w W→Bk W W.heap.size b sa sn sc ra rn rc):=fun W hW=>hB.stays hW hW.size
  obtain ⟨cq,hcq⟩:∃cq,cq=b.seq:=⟨_,rfl⟩
  obtain ⟨cp,hcp⟩:∃cp,cp=b.prev:=⟨_,rfl⟩
  obtain ⟨cr,hcr⟩:∃cr,cr=b.root:=⟨_,rfl⟩
  obtain ⟨be,hbe⟩:∃be,be=Jn.berr b:=⟨_,rfl⟩
  obtain ⟨tw,htw⟩:∃tw,tw=Jn.twhy b:=⟨_,rfl⟩
  obtain ⟨rr,hrr⟩:∃rr,rr=bs (Mk.root (Jn.tx b.revs)):=⟨_,rfl⟩
  obtain ⟨we,hwe⟩:∃we,we=Bn.werr (Jn.bv b):=⟨_,rfl⟩
  obtain ⟨wx,hwx⟩:∃wx,wx=Bn.wtext (Jn.bv b):=⟨_,rfl⟩
  have HBE:Hid (be=if tw≠0 then tw else if cr≠rr then 11 else we):=by
    show _=_
    rw [hbe,Jn.berr,htw,hcr,hrr,hwe];rfl
  have CP:Hid (∀W,Below w.heap.size w W→Calls Tryz.prog 32 #[.agg #[.int .u64 (cq:Int),.string cp,.string cr,.slice sa sn sc,.slice ra rn rc]] W fun e w'=>e=.returned (.int .i64 (tw:Int))∧Below W.heap.size W w'):=fun W hW=>by
    rw [htw,hcq,hcp,hcr];exact rparts_c b sa sn sc ra rn rc W (HBK.out W hW)
  have CT:Hid (tw=0→∀W,Below w.heap.size w W→Calls Tryz.prog 33 #[.slice ra rn rc] W fun e w'=>∃ta tc,e=.returned (.tuple #[.slice ta rn tc,.int .i64 0])∧Below W.heap.size W w'∧rn≤tc∧Sl w' w'.heap.size (.slice ta rn tc) (Jn.tx b.revs)):=fun h W hW=>by
    have hk:=HBK.out W hW
    obtain ⟨h1,h2⟩:=Jn.twhy_zero (b:=b) (by rw [←htw];exact h)
    obtain ⟨_,h4,_⟩:=Jn.sizes_zero h1
    refine (rtexts_c b.revs ra rn rc hk.many (by have:=hk.many;omega) W hk.revs).mono ?_
    rintro e w' ⟨tv,rfl,h5,_,h6⟩
    have h7:=h6 h2
    obtain ⟨ta,tc,rfl⟩:=own_slc h7
    have h8:w'.ownsRow W.heap.size 9 1 (.slice ta rn tc) (Jn.tx b.revs).length (scs (Jn.tx b.revs)):=by rw [Jn.tx_len,←hk.many];exact h7
    exact ⟨ta,tc,by rw [h2];rfl,h5,own_capR h7,own_sl h8⟩
  have CR:Hid (∀W ta tc,rn≤tc→Sl W W.heap.size (.slice ta rn tc) (Jn.tx b.revs)→tw=0→Calls Tryz.prog 34 #[.slice ta rn tc] W fun e w'=>e=.returned (.string rr)∧Below W.heap.size W w'):=fun W ta tc hc hs h=>by
    obtain ⟨h1,h2⟩:=Jn.twhy_zero (b:=b) (by rw [←htw];exact h)
    obtain ⟨_,h4,_⟩:=Jn.sizes_zero h1
    rw [hrr]
    refine rroot_all b.revs.length (by omega) (Jn.tx b.revs) (Jn.tx_len _) (fun x hx=>?_) W ta rn tc W.heap.size (Nat.le_refl _) hc hs
    rw [Jn.tx] at hx
    obtain ⟨r,_,rfl⟩:=List.mem_map.1 hx
    have:=Jn.rtext_size r
    rw [←Lib.size_eq];omega
  have CW:Hid (tw=0→∀W,Below w.heap.size w W→Calls Tryz.prog 36 #[.agg #[.int .u64 (cq:Int),.string cp,.string cr,.slice sa sn sc,.slice ra rn rc]] W fun e w'=>e=.returned (.tuple #[.string wx,.int .i64 (we:Int)])∧Below W.heap.size W w'):=fun h W hW=>by
    rw [hwx,hwe,hcq,hcp,hcr];exact rrawB_c b sa sn sc ra rn rc W (HBK.out W hW) (by rw [←htw];exact h)
  obtain ⟨B,hBe⟩:∃B,B=w.heap.size:=⟨_,rfl⟩
  obtain ⟨w1,hw1⟩:∃w1,w1=w.alloc (.cells #[.int .u64 (cq:Int),.string cp,.string cr,.slice sa sn sc,.slice ra rn rc] 26):=⟨_,rfl⟩
  have S1:Hid (BB w B #[.int .u64 (cq:Int),.string cp,.string cr,.slice sa sn sc,.slice ra rn rc] w1):=by
    show BB _ _ _ _
    rw [hw1,hBe];exact ⟨below_new _ _,Nat.le_refl _,heap_alloc_new w _⟩
  rw [←hbe,←hcq,←hcp,←hcr]
  clear hB hbe hcq hcp hcr htw hrr hwe hwx HBK
  go_enter Tryz.func18,Tryz.ntmps18
  go_upto_region 1 with fail
  rw [←hw1,←hBe]
  clear hw1 hBe
  obtain ⟨p0,p1,p2,p3,p4⟩:=S1.out.cells
  go_wp2_with fail
  refine Calls.mono (CP.out _ S1.out.below) ?_
  rintro e w2 ⟨rfl,hb2⟩
  have S2:Hid (BB w B #[.int .u64 (cq:Int),.string cp,.string cr,.slice sa sn sc,.slice ra rn rc] w2):=S1.out.call hb2
  clear hb2 S1 p0 p1 p2 p3 p4 CP
  by_cases c1:tw=0
  · have z1:((tw:Int)==0)=true:=by rw [beq_iff_eq];omega
    have C1:Hid (tw=0):=c1
    clear c1
    obtain ⟨p0,p1,p2,p3,p4⟩:=S2.out.cells
    go_wp2_with fail
    refine Calls.mono (CT.out C1.out _ S2.out.below) ?_
    rintro e w3 ⟨ta,tc,rfl,hb3,htc,hsl⟩
    have S3:Hid (BB w B #[.int .u64 (cq:Int),.string cp,.string cr,.slice sa sn sc,.slice ra rn rc] w3):=S2.out.call hb3
    have HSL:Hid (rn≤tc∧Sl w3 w3.heap.size (.slice ta rn tc) (Jn.tx b.revs)):=⟨htc,hsl⟩
    clear hb3 htc hsl S2 p0 p1 p2 p3 p4
    have d2:∀pp:BelowOf w3.heap.size w3,pp.W.cell? ⟨B,2,none⟩=some (.string cr):=fun pp=>(S3.out.call pp.h).cells.2.2.1
    have CRO:Hid (∀pp:BelowOf w3.heap.size w3,Calls Tryz.prog 34 #[.slice ta rn tc] pp.W fun e w''=>e=.returned (.string rr)∧∃q:BelowOf w3.heap.size w3,w''=q.W):=fun pp =>
      below_call pp (Nat.le_refl _) (CR.out pp.W ta tc HSL.out.1 ((HSL.out.2.stays pp.h (Nat.le_refl _)).mono pp.h.size) C1.out)
    go_upto_region 5 with fail
    refine wp_region_below w3.heap.size w3 (Below.refl _ _) (by kernel_rfl) (by kernel_rfl) ?_
    repeat (go_big_quiet_step ((go_at_call 34;exact CRO.out _)))
    refine wpQuiet_nil ?_
    intro _ hw'
    obtain ⟨pq,hw''⟩:=hw'
    subst hw''
    have S4:Hid (BB w B #[.int .u64 (cq:Int),.string cp,.string cr,.slice sa sn sc,.slice ra rn rc] pq.W):=S3.out.call pq.h
    clear d2 CRO S3
    obtain ⟨bq,hbq⟩:∃bq:Bool,bq=!(rr.toList==cr.toList):=⟨_,rfl⟩
    rw [←hbq]
    have HQ:Hid (bq=false ↔ cr=rr):=by
      rw [hbq]
      constructor
      · intro h
        have h1:rr.toList=cr.toList:=by simpa using h
        have h2:rr.data.toList=cr.data.toList:=by rw [←Lib.toList_data,←Lib.toList_data,h1]
        exact (Jn.ba_ext h2).symm
      · intro h
        rw [h]
        simp
    clear hbq
    cases bq
    · have c2:=HQ.out.1 rfl
      have e1:Hid (be=we):=by show _=_;rw [HBE.out,if_neg (by simp [C1.out]),if_neg (by simp [c2])]
      obtain ⟨p0,p1,p2,p3,p4⟩:=S4.out.cells
      clear c2
      go_wp2_with fail
      refine Calls.mono (CW.out C1.out _ S4.out.below) ?_
      rintro e w5 ⟨rfl,hb5⟩
      have HF:Hid (Below w.heap.size w w5):=S4.out.below.trans (hb5.mono S4.out.below.size)
      clear hb5 S4 p0 p1 p2 p3 p4
      go_wp2
      go_ret
      exact ⟨by rw [e1.out];rfl,HF.out⟩
    · have c2:¬cr=rr:=fun h=>by have:=HQ.out.2 h;cases this
      have e1:Hid (be=11):=by show _=_;rw [HBE.out,if_neg (by simp [C1.out]),if_pos c2]
      have HF:Hid (Below w.heap.size w pq.W):=S4.out.below
      clear c2 S4
      go_wp2
      go_ret
      exact ⟨by rw [e1.out];rfl,HF.out⟩
  · have z1:((tw:Int)==0)=false:=by rw [beq_eq_false_iff_ne];omega
    have e1:Hid (be=tw):=by show _=_;rw [HBE.out,if_pos c1]
    have HF:=S2.out.below
    clear c1
    go_wp2
    go_ret
    exact ⟨by rw [e1.out];rfl,HF⟩
set_option maxHeartbeats 16000000 in
set_option maxRecDepth 100000 in
theorem rheadText_c (sq:Nat) (pv rt:ByteArray) (rn:Nat) (st:ByteArray) (hsq:sq<18446744073709551616) (hpv:pv.size≤maxLen) (hrt:rt.size≤maxLen) (hrn:rn<18446744073709551616) (hst:st.size≤maxLen) (w:World) :
    Calls Tryz.prog 25 #[.agg #[.int .u64 (sq:Int),.string pv,.string rt,.int .u64 (rn:Int),.string st]] w fun e w'=>e=.returned (.string (Jn.htext ⟨sq,pv,rt,rn,st⟩))∧Below w.heap.size w w':=by
  obtain ⟨B,hB⟩:∃B,B=w.heap.size:=⟨_,rfl⟩
  obtain ⟨w1,hw1⟩:∃w1,w1=w.alloc (.cells #[.int .u64 (sq:Int),.string pv,.string rt,.int .u64 (rn:Int),.string st] 41):=⟨_,rfl⟩
  obtain ⟨cs5,hcs5⟩:∃cs5:Array Value,cs5=#[.int .u64 (sq:Int),.string pv,.string rt,.int .u64 (rn:Int),.string st]:=⟨_,rfl⟩
  have S1:Hid (HB w B cs5 w1):=by
    show HB _ _ _ _
    rw [hw1,hB,hcs5];exact ⟨below_new _ _,heap_alloc_new w _⟩
  have HC5:Hid (∀W,HB w B cs5 W→W.cell? ⟨B,0,none⟩=some (.int .u64 (sq:Int))∧W.cell? ⟨B,1,none⟩=some (.string pv)∧W.cell? ⟨B,2,none⟩=some (.string rt)∧W.cell? ⟨B,3,none⟩=some (.int .u64 (rn:Int))∧W.cell? ⟨B,4,none⟩=some (.string st)):=fun W hW=>by
    rw [hcs5] at hW;exact hW.cells
  obtain ⟨bt,hbt⟩:∃bt,bt=Jn.hv ⟨sq,pv,rt,rn,st⟩:=⟨_,rfl⟩
  obtain ⟨le,hle⟩:∃le,le=Bn.werr bt:=⟨_,rfl⟩
  obtain ⟨lx,hlx⟩:∃lx,lx=Bn.wtext bt:=⟨_,rfl⟩
  have hlt:Jn.htext ⟨sq,pv,rt,rn,st⟩=lx:=by rw [Jn.htext,hlx,hbt]
  rw [hlt]
  obtain ⟨iq,hiq⟩:∃i,i=Jn.i64 sq:=⟨_,rfl⟩
  obtain ⟨ir,hir⟩:∃i,i=Jn.i64 rn:=⟨_,rfl⟩
  have CN:Hid (∀W,Calls Tryz.prog 52 #[.int .u64 (sq:Int)] W fun en w'=>en=.returned (.agg #[.int .u8 2,.bool false,.int .i64 iq,.string ⟨#[]⟩,.slice none 0 0,.slice none 0 0])∧Below W.heap.size W w'):=fun W=>by rw [hiq];exact rwhole_c sq hsq W
  have CM:Hid (∀W,Calls Tryz.prog 52 #[.int .u64 (rn:Int)] W fun en w'=>en=.returned (.agg #[.int .u8 2,.bool false,.int .i64 ir,.string ⟨#[]⟩,.slice none 0 0,.slice none 0 0])∧Below W.heap.size W w'):=fun W=>by rw [hir];exact rwhole_c rn hrn W
  have CP:Hid (∀W,Calls Tryz.prog 66 #[.string pv] W fun en w'=>en=.returned (.agg #[.int .u8 4,.bool false,.int .i64 0,.string pv,.slice none 0 0,.slice none 0 0])∧Below W.heap.size W w'):=fun W=>rblobV_c pv W
  have CR:Hid (∀W,Calls Tryz.prog 66 #[.string rt] W fun en w'=>en=.returned (.agg #[.int .u8 4,.bool false,.int .i64 0,.string rt,.slice none 0 0,.slice none 0 0])∧Below W.heap.size W w'):=fun W=>rblobV_c rt W
  have CS:Hid (∀W,Calls Tryz.prog 66 #[.string st] W fun en w'=>en=.returned (.agg #[.int .u8 4,.bool false,.int .i64 0,.string st,.slice none 0 0,.slice none 0 0])∧Below W.heap.size W w'):=fun W=>rblobV_c st W
  have CL:Hid (∀W,Below w.heap.size w W→Calls Tryz.prog 51 #[.slice (some ⟨W.heap.size,0,none⟩) 5 5] (W.alloc (.cells #[.int .u8 2,.bool false,.int .i64 iq,.string ⟨#[]⟩,.slice none 0 0,.slice none 0 0,.int .u8 4,.bool false,.int .i64 0,.string pv,.slice none 0 0,.slice none 0 0,.int .u8 4,.bool false,.int .i64 0,.string rt,.slice none 0 0,.slice none 0 0,.int .u8 2,.bool false,.int .i64 ir,.string ⟨#[]⟩,.slice none 0 0,.slice none 0 0,.int .u8 4,.bool false,.int .i64 0,.string st,.slice none 0 0,.slice none 0 0] 32)) fun en w'=>∃a c',en=.returned (.agg #[.int .u8 5,.bool false,.int .i64 0,.string ⟨#[]⟩,.slice a 5 c',.slice none 0 0])∧Rep w' w'.heap.size bt (.agg #[.int .u8 5,.bool false,.int .i64 0,.string ⟨#[]⟩,.slice a 5 c',.slice none 0 0])∧Below (W.alloc (.cells #[.int .u8 2,.bool false,.int .i64 iq,.string ⟨#[]⟩,.slice none 0 0,.slice none 0 0,.int .u8 4,.bool false,.int .i64 0,.string pv,.slice none 0 0,.slice none 0 0,.int .u8 4,.bool false,.int .i64 0,.string rt,.slice none 0 0,.slice none 0 0,.int .u8 2,.bool false,.int .i64 ir,.string ⟨#[]⟩,.slice none 0 0,.slice none 0 0,.int .u8 4,.bool false,.int .i64 0,.string st,.slice none 0 0,.slice none 0 0] 32)).heap.size (W.alloc (.cells #[.int .u8 2,.bool false,.int .i64 iq,.string ⟨#[]⟩,.slice none 0 0,.slice none 0 0,.int .u8 4,.bool false,.int .i64 0,.string pv,.slice none 0 0,.slice none 0 0,.int .u8 4,.bool false,.int .i64 0,.string rt,.slice none 0 0,.slice none 0 0,.int .u8 2,.bool false,.int .i64 ir,.string ⟨#[]⟩,.slice none 0 0,.slice none 0 0,.int .u8 4,.bool false,.int .i64 0,.string st,.slice none 0 0,.slice none 0 0] 32)) w'):=fun W hW=>by
    rw [hbt]
    refine rlistV_c W.heap.size 0 5 5 [Jn.num sq,Jn.blob pv,Jn.blob rt,Jn.num rn,Jn.blob st] rfl (by decide) (W.alloc _) (by simp) (rep_five (heap_alloc_new W _) ?_ ?_ ?_ ?_ ?_)
    · rw [hiq];exact rep_flat _ _ 2 _ _ (by omega) (Jn.i64_range sq hsq) (by decide)
    · exact rep_flat _ _ 4 _ _ (by omega) (by omega) hpv
    · exact rep_flat _ _ 4 _ _ (by omega) (by omega) hrt
    · rw [hir];exact rep_flat _ _ 2 _ _ (by omega) (Jn.i64_range rn hrn) (by decide)
    · exact rep_flat _ _ 4 _ _ (by omega) (by omega) hst
  have CW:Hid (∀W v,Below w.heap.size w W→Rep W W.heap.size bt v→Calls Tryz.prog 38 #[v] W fun en w'=>en=.returned (.tuple #[.string lx,.int .i64 (le:Int)])∧Below W.heap.size W w'):=fun W v hW hr=>by
    rw [hlx,hle];exact rwrite19 bt W v hr
  clear hle hlx hiq hir hcs5 hbt hpv hrt hst hlt
  go_enter Tryz.func25,Tryz.ntmps25
  go_upto_region 1 with fail
  rw [←hw1,←hB]
  clear hw1 hB
  obtain ⟨p0,p1,p2,p3,p4⟩:=HC5.out _ S1.out
  go_region_held3 (fun W'=>W'.cell? ⟨B,0,none⟩=some (.int .u64 (sq:Int))∧W'.cell? ⟨B,1,none⟩=some (.string pv)∧W'.cell? ⟨B,2,none⟩=some (.string rt)∧W'.cell? ⟨B,3,none⟩=some (.int .u64 (rn:Int))∧W'.cell? ⟨B,4,none⟩=some (.string st)) (go_keep) (first
    | (go_at_call 38;refine (CW.out _ _ S6.out.below R6.out).mono ?_;rintro en w7 ⟨rfl,hb7⟩
       have S7:Hid (HB w B cs5 w7):=S6.out.call hb7
       obtain ⟨p0,p1,p2,p3,p4⟩:=HC5.out _ S7.out
       clear hb7)
    | (go_at_call 51;refine (CL.out _ S3.out.below).mono ?_;rintro en w6 ⟨la,lc,rfl,hr6,hb6⟩
       have S6:Hid (HB w B cs5 w6):=(S3.out.call (below_new _ _)).call hb6
       have R6:Hid (Rep w6 w6.heap.size bt (.agg #[.int .u8 5,.bool false,.int .i64 0,.string ⟨#[]⟩,.slice la 5 lc,.slice none 0 0])):=hr6
       obtain ⟨p0,p1,p2,p3,p4⟩:=HC5.out _ S6.out
       clear hb6 hr6)
    | (go_at_call_of 52 (Value.int .u64 (sq:Int));refine (CN.out _).mono ?_;rintro en w3 ⟨rfl,hb3⟩
       have S3:Hid (HB w B cs5 w3):=(by first | exact S1.out.call hb3 | exact (S1.out.call (Below.refl _ _).drew).call hb3)
       obtain ⟨p0,p1,p2,p3,p4⟩:=HC5.out _ S3.out
       clear hb3)
    | (go_at_call_of 66 (Value.string pv);refine (CP.out _).mono ?_;rintro en w3 ⟨rfl,hb3⟩
       have S3:Hid (HB w B cs5 w3):=S3.out.call hb3
       obtain ⟨p0,p1,p2,p3,p4⟩:=HC5.out _ S3.out
       clear hb3)
    | (go_at_call_of 66 (Value.string rt);refine (CR.out _).mono ?_;rintro en w3 ⟨rfl,hb3⟩
       have S3:Hid (HB w B cs5 w3):=S3.out.call hb3
       obtain ⟨p0,p1,p2,p3,p4⟩:=HC5.out _ S3.out
       clear hb3)
    | (go_at_call_of 52 (Value.int .u64 (rn:Int));refine (CM.out _).mono ?_;rintro en w3 ⟨rfl,hb3⟩
       have S3:Hid (HB w B cs5 w3):=S3.out.call hb3
       obtain ⟨p0,p1,p2,p3,p4⟩:=HC5.out _ S3.out
       clear hb3)
    | (go_at_call_of 66 (Value.string st);refine (CS.out _).mono ?_;rintro en w3 ⟨rfl,hb3⟩
       have S3:Hid (HB w B cs5 w3):=S3.out.call hb3
       obtain ⟨p0,p1,p2,p3,p4⟩:=HC5.out _ S3.out
       clear hb3)
    | fail "no arm")
  all_goals
    have HF:=S7.out.below
    go_wp2
    go_ret
    exact ⟨rfl,HF⟩
set_option maxHeartbeats 2000000 in
theorem rdigest_c (sq:Nat) (pv rt:ByteArray) (rn:Nat) (st:ByteArray) (hsq:sq<18446744073709551616) (hpv:pv.size≤maxLen) (hrt:rt.size≤maxLen) (hrn:rn<18446744073709551616) (hst:st.size≤maxLen) (w:World) :
    Calls Tryz.prog 27 #[.agg #[.int .u64 (sq:Int),.string pv,.string rt,.int .u64 (rn:Int),.string st]] w fun e w'=>e=.returned (.string (Jn.digest ⟨sq,pv,rt,rn,st⟩))∧Below w.heap.size w w':=by
  obtain ⟨x,hx⟩:∃x,x=Jn.htext ⟨sq,pv,rt,rn,st⟩:=⟨_,rfl⟩
  obtain ⟨d,hd⟩:∃d,d=Jn.digest ⟨sq,pv,rt,rn,st⟩:=⟨_,rfl⟩
  have C1:Hid (∀W,Below w.heap.size w W→Calls Tryz.prog 25 #[.agg #[.int .u64 (sq:Int),.string pv,.string rt,.int .u64 (rn:Int),.string st]] W fun e w'=>e=.returned (.string x)∧Below W.heap.size W w'):=fun W hW=>by
    rw [hx];exact rheadText_c sq pv rt rn st hsq hpv hrt hrn hst W
  have C2:Hid (∀W,Below w.heap.size w W→Calls Tryz.prog 40 #[.string x] W fun e w'=>e=.returned (.string d)∧Below W.heap.size W w'):=fun W hW=>by
    have h:=sum10 x (by rw [hx,Jn.htext];have:=Jn.wtext_size (Jn.hv ⟨sq,pv,rt,rn,st⟩);omega) W
    rw [hd,Jn.digest,←hx];exact h
  rw [←hd]
  clear hx hd
  go_enter Tryz.func27,Tryz.ntmps27
  go_wp2_with fail
  refine (C1.out _ (below_new _ _)).mono ?_
  rintro e w2 ⟨rfl,hb2⟩
  have HF:Hid (Below w.heap.size w w2):=(below_new w (.cells #[.int .u64 (sq:Int),.string pv,.string rt,.int .u64 (rn:Int),.string st] 41)).trans (hb2.mono (by simp))
  clear hb2 C1
  go_wp2_with fail
  refine (C2.out _ HF.out).mono ?_
  rintro e w3 ⟨rfl,hb3⟩
  have HF3:=HF.out.trans (hb3.mono HF.out.size)
  clear hb3 C2
  go_wp2
  go_ret
  exact ⟨rfl,HF3⟩
end Go.Proofs.YtggnfejjcgbebaaGreatDoor
/- The document's head of a block. -/
namespace Go.Proofs.YtggnfejjcgbebaaGreatDoor
open Go.RowKit
open Vl (V)
attribute [local go_sem ↓] Go.wp_at_zero Go.wp_at_succ
set_option maxHeartbeats 16000000 in
set_option maxRecDepth 100000 in
theorem rshortB_c (b:Jn.B) (sa:Option Addr) (sn sc:Nat) (ra:Option Addr) (rn rc:Nat) (w:World) (hB:Bk w w.heap.size b sa sn sc ra rn rc) :
    Calls Tryz.prog 10 #[.agg #[.int .u64 (b.seq:Int),.string b.prev,.string b.root,.slice sa sn sc,.slice ra rn rc]] w fun e w'=>e=.returned (.tuple #[hcells (if Jn.berr b=0 then Jn.headOf b else ⟨0,⟨#[]⟩,⟨#[]⟩,0,⟨#[]⟩⟩),.int .i64 (Jn.berr b:Int)])∧Below w.heap.size w w':=by
  obtain ⟨B,hBe⟩:∃B,B=w.heap.size:=⟨_,rfl⟩
  obtain ⟨w1,hw1⟩:∃w1,w1=(w.alloc (.cells #[.int .u64 (b.seq:Int),.string b.prev,.string b.root,.slice sa sn sc,.slice ra rn rc] 26)).alloc (.cells #[.int .u64 0,.string ⟨#[]⟩,.string ⟨#[]⟩,.int .u64 0,.string ⟨#[]⟩] 41):=⟨_,rfl⟩
  obtain ⟨cs5,hcs5⟩:∃cs5:Array Value,cs5=#[.int .u64 (b.seq:Int),.string b.prev,.string b.root,.slice sa sn sc,.slice ra rn rc]:=⟨_,rfl⟩
  have S1:Hid (HH w B cs5 w1):=by
    show HH _ _ _ _
    rw [hw1,hBe,hcs5]
    exact ⟨below_new2 _ _ _,rfl,(heap_alloc_old _ _ (by simp)).trans (heap_alloc_new w _),heap_new2 w _ _⟩
  have HC5:Hid (∀W,HH w B cs5 W→W.cell? ⟨B,0,none⟩=some (.int .u64 (b.seq:Int))∧W.cell? ⟨B,1,none⟩=some (.string b.prev)∧W.cell? ⟨B,2,none⟩=some (.string b.root)∧W.cell? ⟨B,3,none⟩=some (.slice sa sn sc)∧W.cell? ⟨B,4,none⟩=some (.slice ra rn rc)):=fun W hW=>by
    have h:=hW.row
    rw [hcs5] at h
    exact ⟨block_cells h 0 _ rfl,block_cells h 1 _ rfl,block_cells h 2 _ rfl,block_cells h 3 _ rfl,block_cells h 4 _ rfl⟩
  have HZ5:Hid (∀W,HH w B cs5 W→W.cell? ⟨B+1,0,none⟩=some (.int .u64 0)∧W.cell? ⟨B+1,1,none⟩=some (.string ⟨#[]⟩)∧W.cell? ⟨B+1,2,none⟩=some (.string ⟨#[]⟩)∧W.cell? ⟨B+1,3,none⟩=some (.int .u64 0)∧W.cell? ⟨B+1,4,none⟩=some (.string ⟨#[]⟩)):=fun W hW =>
    ⟨block_cells hW.res 0 _ rfl,block_cells hW.res 1 _ rfl,block_cells hW.res 2 _ rfl,block_cells hW.res 3 _ rfl,block_cells hW.res 4 _ rfl⟩
  obtain ⟨be,hbe⟩:∃be,be=Jn.berr b:=⟨_,rfl⟩
  obtain ⟨sd,hsd⟩:∃sd,sd=Jn.stsDigest (b.sts.map fun s=>s.data.toList):=⟨_,rfl⟩
  have CC:Hid (∀W,Below w.heap.size w W→Calls Tryz.prog 18 #[.agg #[.int .u64 (b.seq:Int),.string b.prev,.string b.root,.slice sa sn sc,.slice ra rn rc]] W fun e w'=>e=.returned (.int .i64 (be:Int))∧Below W.heap.size W w'):=fun W hW=>by
    rw [hbe];exact rcheckB_c b sa sn sc ra rn rc W (hB.stays hW hW.size)
  obtain ⟨ss,hss⟩:∃ss,ss=b.sts.map fun s=>s.data.toList:=⟨_,rfl⟩
  obtain ⟨t3,ht3⟩:∃t3,t3=Jn.lst (ss.map fun x=>Jn.txt (bs x)):=⟨_,rfl⟩
  obtain ⟨le,hle⟩:∃le,le=Bn.werr t3:=⟨_,rfl⟩
  obtain ⟨lx,hlx⟩:∃lx,lx=Bn.wtext t3:=⟨_,rfl⟩
  have C3:Hid (be=0→∀W,Below w.heap.size w W→Calls Tryz.prog 39 #[.slice sa sn sc] W fun en w'=>∃l1 m1,en=.returned (.agg #[.int .u8 5,.bool false,.int .i64 0,.string ⟨#[]⟩,.slice l1 sn m1,.slice none 0 0])∧Rep w' w'.heap.size t3 (.agg #[.int .u8 5,.bool false,.int .i64 0,.string ⟨#[]⟩,.slice l1 sn m1,.slice none 0 0])∧Below W.heap.size W w'):=fun h W hW=>by
    have hk:=hB.stays hW hW.size
    have hsl:=hk.sts.len
    rw [List.length_map] at hsl
    have h9:=Jn.berr_seq (b:=b) (by rw [←hbe];exact h)
    rw [ht3,hss]
    exact rstatements_c sa sn sc _ (fun x hx=>by
      obtain ⟨s,hs,rfl⟩:=List.mem_map.1 hx
      rw [←Lib.size_eq];exact hk.small s hs) (by omega) W hk.sts
  have CW:Hid (∀W v,Rep W W.heap.size t3 v→Calls Tryz.prog 38 #[v] W fun en w'=>en=.returned (.tuple #[.string lx,.int .i64 (le:Int)])∧Below W.heap.size W w'):=fun W v hr=>by
    rw [hlx,hle];exact rwrite19 t3 W v hr
  have CD:Hid (∀W,Calls Tryz.prog 40 #[.string lx] W fun en w'=>en=.returned (.string sd)∧Below W.heap.size W w'):=fun W=>by
    have h:=sum10 lx (by rw [hlx];have:=Jn.wtext_size t3;omega) W
    rw [hsd,Jn.stsDigest,←hss,←ht3,←hlx];exact h
  have qr:IntKind.u64.wrap (rn:Int)=(rn:Int):=by rw [IntKind.wrap_u64];have:=hB.len;unfold maxLen at this;omega
  have qr2:(rn:Int)≤9223372036854775807:=by have:=hB.len;unfold maxLen at this;omega
  obtain ⟨hv,hhv⟩:∃hv,hv=hcells (if be=0 then Jn.headOf b else ⟨0,⟨#[]⟩,⟨#[]⟩,0,⟨#[]⟩⟩):=⟨_,rfl⟩
  have HR:Hid (be=0→hv=.agg #[.int .u64 (b.seq:Int),.string b.prev,.string b.root,.int .u64 (rn:Int),.string sd]):=fun h=>by
    rw [hhv,if_pos h,hcells,Jn.headOf,hsd,hB.many]
  have HR2:Hid (be≠0→hv=.agg #[.int .u64 0,.string ⟨#[]⟩,.string ⟨#[]⟩,.int .u64 0,.string ⟨#[]⟩]):=fun h=>by
    rw [hhv,if_neg h];rfl
  rw [←hbe,←hhv]
  clear hB hbe hsd hcs5 hhv hss ht3 hle hlx
  go_enter Tryz.func10,Tryz.ntmps10
  go_upto_region 1 with fail
  rw [←hw1,←hBe]
  clear hw1 hBe
  obtain ⟨p0,p1,p2,p3,p4⟩:=HC5.out _ S1.out
  go_wp2_with fail
  refine (CC.out _ S1.out.below).mono ?_
  rintro e w2 ⟨rfl,hb2⟩
  have S2:Hid (HH w B cs5 w2):=S1.out.call hb2
  clear hb2 S1 CC p0 p1 p2 p3 p4
  by_cases h1:be=0
  · have q1:((be:Int)==0)=true:=by rw [beq_iff_eq];omega
    obtain ⟨p0,p1,p2,p3,p4⟩:=HC5.out _ S2.out
    have E1:=HR.out h1
    have HE:Hid (hv=.agg #[.int .u64 (b.seq:Int),.string b.prev,.string b.root,.int .u64 (rn:Int),.string sd]∧be=0):=⟨E1,h1⟩
    clear E1
    go_wp2_with fail
    refine (C3.out h1 _ S2.out.below).mono ?_
    rintro e w3 ⟨l1,m1,rfl,hr3,hb3⟩
    have S3:Hid (HH w B cs5 w3):=S2.out.call hb3
    have R3:Hid (Rep w3 w3.heap.size t3 (.agg #[.int .u8 5,.bool false,.int .i64 0,.string ⟨#[]⟩,.slice l1 sn m1,.slice none 0 0])):=hr3
    clear hb3 hr3 S2 C3 p0 p1 p2 p3 p4
    go_wp2_with fail
    refine (CW.out _ _ R3.out).mono ?_
    rintro e w4 ⟨rfl,hb4⟩
    have S4:Hid (HH w B cs5 w4):=S3.out.call hb4
    clear hb4 S3 R3 CW
    clear h1 q1
    go_upto_region 5 with fail
    obtain ⟨p0,p1,p2,p3,p4⟩:=HC5.out _ S4.out
    obtain ⟨z0,z1,z2,z3,z4⟩:=HZ5.out _ S4.out
    go_region_held3 (fun W'=>W'.cell? ⟨B,0,none⟩=some (.int .u64 (b.seq:Int))∧W'.cell? ⟨B,1,none⟩=some (.string b.prev)∧W'.cell? ⟨B,2,none⟩=some (.string b.root)∧W'.cell? ⟨B,3,none⟩=some (.slice sa sn sc)∧W'.cell? ⟨B,4,none⟩=some (.slice ra rn rc)) (go_keep) (first
      | (go_at_call 40;refine (CD.out _).mono ?_;rintro en w6 ⟨rfl,hb6⟩
         have S6:Hid (HH w B cs5 w6):=(by first | exact S4.out.call hb6 | exact (S4.out.call (Below.refl _ _).drew).call hb6)
         obtain ⟨p0,p1,p2,p3,p4⟩:=HC5.out _ S6.out
         obtain ⟨z0,z1,z2,z3,z4⟩:=HZ5.out _ S6.out
         have fz:=row_freeV S6.out.res
         clear hb6)
      | fail "no arm")
    all_goals
      have F1:=five_put S6.out.res (.int .u64 (b.seq:Int)) (.string b.prev) (.string b.root) (.int .u64 (rn:Int)) (.string sd)
      have F2:Below w.heap.size w (w6.setCells (B+1) 0 [.int .u64 (b.seq:Int),.string b.prev,.string b.root,.int .u64 (rn:Int),.string sd]):=below_setCellsV (by have:=S6.out.base;omega) _ _ S6.out.below
      have HF:Hid (_∧_):=⟨F1,F2⟩
      clear F1 F2
      go_wp2
      rw [sets5]
      exact bodyPost_ret (v:=.tuple #[.agg #[.int .u64 (b.seq:Int),.string b.prev,.string b.root,.int .u64 (rn:Int),.string sd],.int .i64 0]) ((results_row_tmpV (fn:=Tryz.f10) (p:=2) (u:=3) (ty:=41) (by rfl) _ _ (B+1) 41 #[.int .u64 (b.seq:Int),.string b.prev,.string b.root,.int .u64 (rn:Int),.string sd] (0,0) _ rfl HF.out.1 Tryz.underlying41 rfl info_head).trans (by rfl)) rfl ⟨by first | (rw [HE.out.1,HE.out.2];rfl) | (rw [HE.out.1];rfl) | rw [HE.out.1],HF.out.2⟩
  · have q1:((be:Int)==0)=false:=by rw [beq_eq_false_iff_ne];omega
    have HE:Hid (hv=.agg #[.int .u64 0,.string ⟨#[]⟩,.string ⟨#[]⟩,.int .u64 0,.string ⟨#[]⟩]):=HR2.out h1
    obtain ⟨w3,rfl⟩:∃w3,w3=w2:=⟨_,rfl⟩
    have S3:Hid (HH w B cs5 w3):=S2.out
    obtain ⟨z0,z1,z2,z3,z4⟩:=HZ5.out _ S3.out
    have fz:=row_freeV S3.out.res
    have F1:=five_put S3.out.res (.int .u64 0) (.string ⟨#[]⟩) (.string ⟨#[]⟩) (.int .u64 0) (.string ⟨#[]⟩)
    have F2:Below w.heap.size w (w3.setCells (B+1) 0 [.int .u64 0,.string ⟨#[]⟩,.string ⟨#[]⟩,.int .u64 0,.string ⟨#[]⟩]):=below_setCellsV (by have:=S3.out.base;omega) _ _ S3.out.below
    have HF:Hid (_∧_):=⟨F1,F2⟩
    clear F1 F2
    go_wp2
    rw [sets5]
    exact bodyPost_ret (v:=.tuple #[.agg #[.int .u64 0,.string ⟨#[]⟩,.string ⟨#[]⟩,.int .u64 0,.string ⟨#[]⟩],.int .i64 (be:Int)]) ((results_row_tmpV (fn:=Tryz.f10) (p:=2) (u:=3) (ty:=41) (by rfl) _ _ (B+1) 41 #[.int .u64 0,.string ⟨#[]⟩,.string ⟨#[]⟩,.int .u64 0,.string ⟨#[]⟩] (0,0) _ rfl HF.out.1 Tryz.underlying41 rfl info_head).trans (by rfl)) rfl ⟨by rw [HE.out],HF.out.2⟩
end Go.Proofs.YtggnfejjcgbebaaGreatDoor
/- The document's frames. -/
namespace Go.Proofs.YtggnfejjcgbebaaGreatDoor
open Go.RowKit
open Vl (V)
attribute [local go_sem ↓] Go.wp_at_zero Go.wp_at_succ
theorem cnt_cells (n:Nat):#[.int .u8 ((n:Int) % 256),.int .u8 ((n:Int) / 256 % 256),.int .u8 ((n:Int) / 65536 % 256),.int .u8 ((n:Int) / 16777216 % 256)]=(Lib.byteCells (Jn.cnt n)).toArray:=by
  rw [←Jn.four_all]
  simp [Jn.four,Jn.low]
set_option maxHeartbeats 4000000 in
set_option maxRecDepth 100000 in
theorem rframed_c (t:ByteArray) (ht:t.size≤140737488355328) (w:World):Calls Tryz.prog 43 #[.string t] w fun e w'=>e=.returned (.string (Jn.frameOf t))∧Below w.heap.size w w':=by
  obtain ⟨n,hn⟩:∃n,n=t.size:=⟨_,rfl⟩
  have hns:(t.size:Int)=(n:Int):=by rw [hn]
  obtain ⟨fx,hfx⟩:∃fx,fx=Jn.frameOf t:=⟨_,rfl⟩
  obtain ⟨cn,hcn⟩:∃cn,cn=bs (Jn.cnt n):=⟨_,rfl⟩
  obtain ⟨d,hd⟩:∃d:ByteArray,d=⟨(Sh.sum (cn++t).data.toList).toArray⟩:=⟨_,rfl⟩
  obtain ⟨sl,hsl⟩:∃sl,sl=Jn.sealOf cn t:=⟨_,rfl⟩
  obtain ⟨w1,hw1⟩:∃w1,w1=w.alloc (.cells #[.int .u8 ((n:Int) % 256),.int .u8 ((n:Int) / 256 % 256),.int .u8 ((n:Int) / 65536 % 256),.int .u8 ((n:Int) / 16777216 % 256)] 5):=⟨_,rfl⟩
  have h4:cn.size=4:=by rw [hcn,bs_size];rfl
  have HB1:Hid (Below w.heap.size w w1):=by rw [hw1];exact below_new _ _
  have HFX:Hid (fx=(cn++sl)++t):=by rw [hfx,Jn.frameOf,hsl,hcn,hn];rfl
  have CS:Hid (∀W,Calls Tryz.prog 40 #[.string (cn++t)] W fun e w'=>e=.returned (.string d)∧Below W.heap.size W w'):=fun W=>by
    rw [hd];exact sum10 (cn++t) (by rw [ByteArray.size_append];omega) W
  have hs8:d.extract 0 8=sl:=by
    rw [hsl,Jn.sealOf]
    refine Jn.ba_ext ?_
    rw [Jn.ext_list,hd]
    simp
  have hd32:d.size=32:=by rw [hd,Lib.size_eq];show (Sh.sum _).length=32;exact Mk.sum_length _
  have hsli:∀wx,(Instr.slice 9 (.string d) none (some (.int .i64 8)) none).run Tryz.prog wx=.ok (.string sl) wx:=fun wx=>by
    rw [run_slice_string_to_if (P:=Tryz.prog) wx 9 d .i64 8 Tryz.underlying9,if_pos ⟨by omega,by omega⟩]
    rw [show (8:Int).toNat=8 by rfl,hs8]
  have HSZ:Hid (cn.size+t.size≤9223372036854775807∧cn.size+sl.size≤9223372036854775807∧(cn++sl).size+t.size≤9223372036854775807):=by
    have h8:sl.size=8:=by rw [hsl,Jn.sealOf,bs_size,List.length_take,Mk.sum_length];rfl
    refine ⟨by omega,by omega,?_⟩
    rw [ByteArray.size_append];omega
  have HO:w1.ownsRow w.heap.size 5 1 (.slice (some ⟨w.heap.size,0,none⟩) 4 4) (Jn.cnt n).length (Lib.byteCells (Jn.cnt n)):=by
    rw [hw1]
    refine ⟨by simp [Lib.byteCells,Jn.cnt],.inr ⟨w.heap.size,4,_,rfl,Nat.le_refl _,heap_alloc_new w _,by simp [Jn.cnt],by unfold maxLen;omega,by simp,?_⟩⟩
    rw [cnt_cells]
    simp [Lib.byteCells,Jn.cnt]
  obtain ⟨g,n',cap,str,hv,hc,hs⟩:=own_string HO (by simp [Jn.cnt])
  injection hv with h1 h2 h3
  injection h1 with h1
  injection h1 with h1
  subst h1 h2 h3
  have hstr:str=cn:=by rw [hs.out,hcn]
  subst hstr
  rw [←hfx]
  clear HO hs hfx hcn hd hsl hn ht h4 hs8 hd32
  go_enter Tryz.func43,Tryz.ntmps43
  go_upto_region 2 with fail
  have hw1':=hw1.symm
  clear hw1
  go_upto_region 3 with fail
  obtain ⟨k1,k2,k3⟩:=HSZ.out
  go_wp2_with fail
  refine Calls.mono (CS.out _) ?_
  rintro e w2 ⟨rfl,hb2⟩
  have HF:Hid (Below w.heap.size w w2):=HB1.out.trans (hb2.mono HB1.out.size)
  clear hb2
  go_wp2
  go_ret
  exact ⟨by rw [HFX.out];rfl,HF.out⟩
end Go.Proofs.YtggnfejjcgbebaaGreatDoor
/- The document's Make. -/
namespace Go.Proofs.YtggnfejjcgbebaaGreatDoor
open Go.RowKit
open Vl (V)
attribute [local go_sem ↓] Go.wp_at_zero Go.wp_at_succ
end Go.Proofs.YtggnfejjcgbebaaGreatDoor
