/- Several texts, joined: BinVal, BinWrite -/
import Derived.Test.YtggnfejjcgbebaaGreatDoorJDM
import Derived.Test.YtggnfejjcgbebaaGreatDoorJAM
import Derived.Test.YtggnfejjcgbebaaGreatDoorBinUM
/- The writer's value, walked: what it holds behind a value. -/
namespace Go.Proofs.YtggnfejjcgbebaaGreatDoor
open Go.RowKit
open Vl (V)
namespace Bn
theorem fitL_mem:∀(l:List V) (x:V),fitL l→x∈l→fit x
  | y :: r,x,h,hx=>by
    rw [fitL] at h
    rcases List.mem_cons.1 hx with rfl | hx
    · exact h.1
    · exact fitL_mem r x h.2 hx
theorem fitF_mem:∀(l:List (ByteArray × V)) (m:ByteArray) (x:V),fitF l→(m,x)∈l→m.size≤65536∧fit x
  | (p,y) :: r,m,x,h,hx=>by
    rw [fitF] at h
    rcases List.mem_cons.1 hx with e | hx
    · cases e;exact h.1
    · exact fitF_mem r m x h.2 hx
theorem runs_wrL (step:Nat→List UInt8→List UInt8) (l:List V) (hs:∀j x o,l[j]?=some x→step j o=wr x o):∀(m j:Nat) (o:List UInt8),m+j=l.length→runs step m j o=wrL (l.drop j) o
  | 0,j,o,h=>by rw [runs,List.drop_of_length_le (by omega),wrL]
  | m+1,j,o,h=>by
    have hj:j<l.length:=by omega
    rw [List.drop_eq_getElem_cons hj,runs,wrL,runs_wrL step l hs m (j+1) _ (by omega),hs j _ o (List.getElem?_eq_getElem hj)]
theorem runs_wrF (step:Nat→List UInt8→List UInt8) (l:List (ByteArray × V)) (hs:∀j m x o,l[j]?=some (m,x)→step j o=wr x (o++text m)):∀(k j:Nat) (o:List UInt8),k+j=l.length→runs step k j o=wrF (l.drop j) o
  | 0,j,o,h=>by rw [runs,List.drop_of_length_le (by omega),wrF]
  | k+1,j,o,h=>by
    have hj:j<l.length:=by omega
    rw [List.drop_eq_getElem_cons hj,runs,wrF,runs_wrF step l hs k (j+1) _ (by omega),hs j _ _ o (List.getElem?_eq_getElem hj)]
    rfl
def stepL (l:List V) (j:Nat) (o:List UInt8):List UInt8:=match l[j]? with | some x=>wr x o | none=>o
def stepF (l:List (ByteArray × V)) (j:Nat) (o:List UInt8):List UInt8:=match l[j]? with | some (m,x)=>wr x (o++text m) | none=>o
end Bn
structure Boxes (W:World) (g B:Nat) (v v0 v1 v2 v3 v4 v5:Value):Prop where
  lt:B+1<W.heap.size
  ptr:W.heap[B]?=some (.cells #[.pointer (some ⟨g,0,none⟩)] 154 (0,0))
  val:W.heap[B+1]?=some (.cells #[v0,v1,v2,v3,v4,v5] 32 (0,0))
  ne:v.ownBlock≠some B∧v.ownBlock≠some (B+1)
theorem Boxes.wrote {W W':World} {g B:Nat} {v v' v0 v1 v2 v3 v4 v5:Value} (h:Boxes W g B v v0 v1 v2 v3 v4 v5) (hg:g<B) (hw:Wrote g v v' W W'):Boxes W' g B v' v0 v1 v2 v3 v4 v5 :=
  ⟨Nat.lt_of_lt_of_le h.lt hw.size,(hw.block B (by have:=h.lt;omega) (by omega) h.ne.1).trans h.ptr,(hw.block (B+1) h.lt (by omega) h.ne.2).trans h.val,
    hw.keeps (by have:=h.lt;omega) h.ne.1,hw.keeps h.lt h.ne.2⟩
set_option maxHeartbeats 4000000 in
set_option maxRecDepth 10000 in
theorem value42:∀(N:Nat) (t:V),Vl.count t≤N→Bn.fit t→∀(g H:Nat) (o:List UInt8) (v:Value) (w:World) (tv:Value),o.length≤100000→H≤g→Out g o v w→Rep w H t tv →
    Calls Tryz.prog 87 #[.pointer (some ⟨g,0,none⟩),tv] w fun e w'=>e=.returned (.tuple #[])∧∃v',Out g (Bn.wr t o) v' w'∧Wrote g v v' w w':=by
  intro N
  induction N with
  | zero=>intro t ht;obtain ⟨k,b,n,s,l,f⟩:=t;rw [Vl.count] at ht;omega
  | succ N ih =>
    rintro ⟨k,b,n,s,l,f⟩ ht hfit g H o v w tv ho hH hout hr
    rw [Rep] at hr
    obtain ⟨ao,lc,fo,fc,rfl,h2,h3,h4,h5,h6,h7,h8⟩:=hr
    have hfit':=hfit
    rw [Bn.fit] at hfit
    obtain ⟨g0,g1,g2,g3,g4,g5,⟨g6,g6'⟩,g7,g8,g9,g10,g11⟩:=hfit
    have C67:Hid (∀(x:UInt8) W,Below w.heap.size w W→Calls Tryz.prog 111 #[.pointer (some ⟨g,0,none⟩),.int .u8 (x.toNat:Int)] W fun e w'=>e=.returned (.tuple #[])∧∃v',Out g (o++[x]) v' w'∧Wrote g v v' W w'):=fun x W hW=>first67 g o (by omega) x v W (hout.call hW)
    have C68:Hid (∀W,Below w.heap.size w W→Calls Tryz.prog 112 #[.pointer (some ⟨g,0,none⟩),.bool b] W fun e w'=>e=.returned (.tuple #[])∧∃v',Out g (o++[Bn.truth b]) v' w'∧Wrote g v v' W w'):=fun W hW=>truth68 g o (by omega) b v W (hout.call hW)
    have C70:Hid (∀W,Calls Tryz.prog 114 #[.int .i64 n] W fun e w'=>e=.returned (.int .u64 (Bn.fold n:Int))∧w'=W):=fun W=>folded70 n g6 g6' W
    have C69:Hid (∀(x:UInt8) (v1:Value) W,Out g (o++[x]) v1 W→Calls Tryz.prog 113 #[.pointer (some ⟨g,0,none⟩),.int .u64 (Bn.fold n:Int)] W fun e w'=>e=.returned (.tuple #[])∧∃v',Out g ((o++[x])++Bn.num (Bn.fold n)) v' w'∧Wrote g v1 v' W w'):=fun x v1 W hW=>number69 g (o++[x]) (by rw [List.length_append];simp;omega) (Bn.fold n) (Bn.fold_lt n g6 g6') v1 W hW
    have C71:Hid (∀(x:UInt8) (v1:Value) W,Out g (o++[x]) v1 W→Calls Tryz.prog 115 #[.pointer (some ⟨g,0,none⟩),.string s] W fun e w'=>e=.returned (.tuple #[])∧∃v',Out g ((o++[x])++Bn.text s) v' w'∧Wrote g v1 v' W w'):=fun x v1 W hW=>text71 g (o++[x]) (by rw [List.length_append];simp;omega) s (by omega) v1 W hW
    obtain ⟨B,hB⟩:∃B,B=w.heap.size:=⟨_,rfl⟩
    have HGB:g<B:=by rw [hB];exact hout.lt
    obtain ⟨w2,hw2⟩:∃w2,w2=(w.alloc (.cells #[.pointer (some ⟨g,0,none⟩)] 154)).alloc (.cells #[.int .u8 (k:Int),.bool b,.int .i64 n,.string s,.slice ao l.length lc,.slice fo f.length fc] 32):=⟨_,rfl⟩
    have hb2:Below w.heap.size w w2:=by rw [hw2];exact (below_new _ _).trans ((below_new _ _).mono (by simp))
    have HB2:Hid (Below w.heap.size w w2):=hb2
    have HO2:Hid (Out g o v w2):=hout.call hb2
    have HBX:Hid (Boxes w2 g B v (.int .u8 (k:Int)) (.bool b) (.int .i64 n) (.string s) (.slice ao l.length lc) (.slice fo f.length fc)):=by
      have hlt:∀q,v.ownBlock=some q→q<w.heap.size:=fun q hq=>(hout.own.lt q hq).2
      refine ⟨by rw [hw2,hB];simp,?_,?_,fun e=>?_,fun e=>?_⟩
      · rw [hw2,hB,Below.heap_alloc _ _ _ (by simp)];exact heap_alloc_new w _
      · rw [hw2,hB]
        have:=heap_alloc_new (w.alloc (.cells #[.pointer (some ⟨g,0,none⟩)] 154)) (.cells #[.int .u8 (k:Int),.bool b,.int .i64 n,.string s,.slice ao l.length lc,.slice fo f.length fc] 32)
        simpa using this
      · have:=hlt _ e;omega
      · have:=hlt _ e;omega
    have CL:Hid (k=5→∀v1 W,Out g (o++[6]) v1 W→Wrote g v v1 w2 W→Calls Tryz.prog 116 #[.pointer (some ⟨g,0,none⟩),.int .i64 (l.length:Int),.func (.func 117) #[] #[.pointer (some ⟨B,0,none⟩),.pointer (some ⟨B+1,0,none⟩)]] W fun e w'=>e=.returned (.tuple #[])∧∃v',Out g (Bn.wrL l ((o++[6])++Bn.num l.length)) v' w'∧Wrote g v1 v' W w'):=by
      intro _ v1 W hO hW
      have bx:=HBX.out.wrote HGB hW
      have hbW:Below g w W:=(hb2.mono (Nat.le_of_lt hout.lt)).trans (hW.below HO2.out)
      refine (parts72L g B (o++[6]) (by rw [List.length_append];simp;omega) l.length g8 (Bn.stepL l) v1 W hO (fun j o1 v2 W2 hj ho1 hO2 hW2=>?_)).mono (fun e w' ⟨e1,v',e2,e3⟩=>⟨e1,v',?_,e3⟩)
      · obtain ⟨x,hx⟩:∃x,l[j]?=some x:=⟨_,List.getElem?_eq_getElem hj⟩
        obtain ⟨ga,oa,rfl,hga,hra⟩:=h7 (by omega)
        have bx2:=bx.wrote HGB hW2
        have hbW2:Below H w W2:=(hbW.trans (hW2.below hO)).mono hH
        have est:Bn.stepL l j o1=Bn.wr x o1:=by rw [Bn.stepL,hx]
        rw [est]
        refine part73 g B l j x hx g8 H ga oa lc k b n s fo f.length fc o1 v2 W2 bx2.ptr bx2.val (repL_stays hbW2 (Nat.le_refl _) hga l oa hra) (fun xv W' hxr hW'=>?_)
        refine (ih x (by have:=Vl.count_partL (k:=k) (b:=b) (n:=n) (s:=s) (f:=f) hx;omega) (Bn.fitL_mem l x g10 (List.mem_of_getElem? hx)) g H o1 v2 W' xv (by omega) hH (hO2.call hW') (rep_stays (hW'.mono (by have:=hO2.lt;omega)) (Nat.le_refl _) x xv hxr)).mono (fun e w' ⟨h1,v',h2,h3⟩=>⟨h1,v',h2,h3.after hW'⟩)
      · rw [Bn.runs_wrL (Bn.stepL l) l (fun j x o hx=>by rw [Bn.stepL,hx]) l.length 0 _ (by omega),List.drop_zero] at e2
        exact e2
    have CF:Hid (k=6→∀v1 W,Out g (o++[7]) v1 W→Wrote g v v1 w2 W→Calls Tryz.prog 116 #[.pointer (some ⟨g,0,none⟩),.int .i64 (f.length:Int),.func (.func 118) #[] #[.pointer (some ⟨B,0,none⟩),.pointer (some ⟨B+1,0,none⟩)]] W fun e w'=>e=.returned (.tuple #[])∧∃v',Out g (Bn.wrF f ((o++[7])++Bn.num f.length)) v' w'∧Wrote g v1 v' W w'):=by
      intro _ v1 W hO hW
      have bx:=HBX.out.wrote HGB hW
      have hbW:Below g w W:=(hb2.mono (Nat.le_of_lt hout.lt)).trans (hW.below HO2.out)
      refine (parts72F g B (o++[7]) (by rw [List.length_append];simp;omega) f.length g9 (Bn.stepF f) v1 W hO (fun j o1 v2 W2 hj ho1 hO2 hW2=>?_)).mono (fun e w' ⟨e1,v',e2,e3⟩=>⟨e1,v',?_,e3⟩)
      · obtain ⟨⟨m,x⟩,hx⟩:∃x,f[j]?=some x:=⟨_,List.getElem?_eq_getElem hj⟩
        obtain ⟨ga,oa,rfl,hga,hra⟩:=h8 (by omega)
        have bx2:=bx.wrote HGB hW2
        have hbW2:Below H w W2:=(hbW.trans (hW2.below hO)).mono hH
        have est:Bn.stepF f j o1=Bn.wr x (o1++Bn.text m):=by rw [Bn.stepF,hx]
        obtain ⟨hm1,hm2⟩:=Bn.fitF_mem f m x g11 (List.mem_of_getElem? hx)
        rw [est]
        refine part74 g B f j m x hx g9 H ga oa fc k b n s ao l.length lc o1 ho1 hm1 v2 W2 hO2 HGB bx2.lt bx2.ne bx2.ptr bx2.val hH hga (repF_stays hbW2 (Nat.le_refl _) hga f oa hra) (fun xv v3 W3 W' hxr hO3 hW3 hW'=>?_)
        refine (ih x (by have:=Vl.count_partF (k:=k) (b:=b) (n:=n) (s:=s) (l:=l) hx;omega) hm2 g H (o1++Bn.text m) v3 W' xv ?_ hH (hO3.call hW') (rep_stays (hW'.mono (by have:=hO3.lt;omega)) (Nat.le_refl _) x xv hxr)).mono (fun e w' ⟨h1,v',h2,h3⟩=>⟨h1,v',h2,hW3.trans (h3.after hW')⟩)
        have:=Bn.num_len10 (m:=m.size) (by omega)
        rw [List.length_append,Bn.text,List.length_append,←Lib.size_eq]
        omega
      · rw [Bn.runs_wrF (Bn.stepF f) f (fun j m x o hx=>by rw [Bn.stepF,hx]) f.length 0 _ (by omega),List.drop_zero] at e2
        exact e2
    obtain ⟨nl,hnl⟩:∃nl,nl=l.length:=⟨_,rfl⟩
    obtain ⟨nf,hnf⟩:∃nf,nf=f.length:=⟨_,rfl⟩
    rw [←hnl,←hnf] at hw2 HBX ⊢
    rw [←hnl] at CL
    rw [←hnf] at CF
    have E0:Hid (k=0→Bn.wr ⟨k,b,n,s,l,f⟩ o=o++[0]):=by intro e;subst e;rw [Bn.wr];rfl
    have E1:Hid (k=1→Bn.wr ⟨k,b,n,s,l,f⟩ o=o++[Bn.truth b]):=by intro e;subst e;rw [Bn.wr];rfl
    have E2:Hid (k=2→Bn.wr ⟨k,b,n,s,l,f⟩ o=(o++[3])++Bn.num (Bn.fold n)):=by intro e;subst e;rw [Bn.wr];rfl
    have E3:Hid (k=3→Bn.wr ⟨k,b,n,s,l,f⟩ o=(o++[4])++Bn.text s):=by intro e;subst e;rw [Bn.wr];rfl
    have E4:Hid (k=4→Bn.wr ⟨k,b,n,s,l,f⟩ o=(o++[5])++Bn.text s):=by intro e;subst e;rw [Bn.wr];rfl
    have E5:Hid (k=5→Bn.wr ⟨k,b,n,s,l,f⟩ o=Bn.wrL l ((o++[6])++Bn.num nl)):=by intro e;subst e;rw [Bn.wr,hnl];rfl
    have E6:Hid (k=6→Bn.wr ⟨k,b,n,s,l,f⟩ o=Bn.wrF f ((o++[7])++Bn.num nf)):=by intro e;subst e;rw [Bn.wr,hnf];rfl
    rw [hB] at HBX CL CF HGB
    have HN:Hid (nl≤64∧nf≤64):=⟨by omega,by omega⟩
    have hk6:k≤6:=g0
    clear h7 h8 ih hfit' g0 g1 g2 g3 g4 g5 g6 g6' g7 g8 g9 g10 g11 hout ht ho hH h5 h6 h4 hb2 hB hnl hnf
    obtain ⟨wo,hwo⟩:∃wo,wo=Bn.wr ⟨k,b,n,s,l,f⟩ o:=⟨_,rfl⟩
    rw [←hwo] at E0 E1 E2 E3 E4 E5 E6 ⊢
    clear hwo
    go_enter Tryz.func87,Tryz.ntmps87
    go_upto_region 1 with fail
    rw [←hw2]
    clear hw2
    obtain ⟨B,hB⟩:∃B,B=w.heap.size:=⟨_,rfl⟩
    rw [←hB] at HBX CL CF HGB ⊢
    clear hB
    have p0:=block_cells HBX.out.ptr 0 _ rfl
    have v0:=block_cells HBX.out.val 0 _ rfl
    have v1:=block_cells HBX.out.val 1 _ rfl
    rcases Bn.seven hk6 with rfl | rfl | rfl | rfl | rfl | rfl | rfl
    · go_wp2_with (first
        | (go_at_call 111;refine (C67.out 0 _ HB2.out).mono ?_;rintro e w3 ⟨rfl,v3,h1,h2⟩
           have R1:Hid (Out g (o++[0]) v3 w3):=h1
           have R2:Hid (Wrote g v v3 w2 w3):=h2
           clear h1 h2))
      go_end0
      exact ⟨rfl,v3,by rw [E0.out (by first | rfl | trivial)];exact R1.out,R2.out.after HB2.out⟩
    · go_wp2_with (first
        | (go_at_call 112;refine (C68.out _ HB2.out).mono ?_;rintro e w3 ⟨rfl,v3,h1,h2⟩
           have R1:Hid (Out g (o++[Bn.truth b]) v3 w3):=h1
           have R2:Hid (Wrote g v v3 w2 w3):=h2
           clear h1 h2))
      go_end0
      exact ⟨rfl,v3,by rw [E1.out (by first | rfl | trivial)];exact R1.out,R2.out.after HB2.out⟩
    · go_wp2_with (first
        | (go_at_call 111;refine (C67.out 3 _ HB2.out).mono ?_;rintro e w3 ⟨rfl,v3,h1,h2⟩
           have R1:Hid (Out g (o++[3]) v3 w3):=h1
           have R2:Hid (Wrote g v v3 w2 w3):=h2
           have BX:Hid (Boxes w3 g B v3 (.int .u8 2) (.bool b) (.int .i64 n) (.string s) (.slice ao nl lc) (.slice fo nf fc)):=HBX.out.wrote HGB h2
           have p0:=block_cells BX.out.ptr 0 _ rfl
           have v2:=block_cells BX.out.val 2 _ rfl
           clear h1 h2))
      go_region_law (first
        | (go_simp;go_at_call 114;refine (C70.out _).mono ?_;rintro e w4 ⟨rfl,rfl⟩)
        | (go_simp;go_at_call 113;refine (C69.out 3 v3 _ (by first | exact R1.out | exact R1.out.call (Below.refl _ _).drew)).mono ?_;rintro e w5 ⟨rfl,v5,h1,h2⟩
           have R3:Hid (Out g ((o++[3])++Bn.num (Bn.fold n)) v5 w5):=h1
           have R4:Hid (Wrote g v v5 w2 w5):=(by first | exact R2.out.trans h2 | exact R2.out.trans (h2.after (Below.refl _ _).drew))
           clear h1 h2))
      all_goals
        go_end0
        exact ⟨rfl,v5,by rw [E2.out (by first | rfl | trivial)];exact R3.out,R4.out.after HB2.out⟩
    · go_wp2_with (first
        | (go_at_call 111;refine (C67.out 4 _ HB2.out).mono ?_;rintro e w3 ⟨rfl,v3,h1,h2⟩
           have R1:Hid (Out g (o++[4]) v3 w3):=h1
           have R2:Hid (Wrote g v v3 w2 w3):=h2
           have BX:Hid (Boxes w3 g B v3 (.int .u8 3) (.bool b) (.int .i64 n) (.string s) (.slice ao nl lc) (.slice fo nf fc)):=HBX.out.wrote HGB h2
           have p0:=block_cells BX.out.ptr 0 _ rfl
           have v3':=block_cells BX.out.val 3 _ rfl
           clear h1 h2)
        | (go_at_call 115;refine (C71.out 4 _ _ R1.out).mono ?_;rintro e w4 ⟨rfl,v4,h1,h2⟩
           have R3:Hid (Out g ((o++[4])++Bn.text s) v4 w4):=h1
           have R4:Hid (Wrote g v v4 w2 w4):=R2.out.trans h2
           clear h1 h2))
      go_end0
      exact ⟨rfl,v4,by rw [E3.out (by first | rfl | trivial)];exact R3.out,R4.out.after HB2.out⟩
    · go_wp2_with (first
        | (go_at_call 111;refine (C67.out 5 _ HB2.out).mono ?_;rintro e w3 ⟨rfl,v3,h1,h2⟩
           have R1:Hid (Out g (o++[5]) v3 w3):=h1
           have R2:Hid (Wrote g v v3 w2 w3):=h2
           have BX:Hid (Boxes w3 g B v3 (.int .u8 4) (.bool b) (.int .i64 n) (.string s) (.slice ao nl lc) (.slice fo nf fc)):=HBX.out.wrote HGB h2
           have p0:=block_cells BX.out.ptr 0 _ rfl
           have v3':=block_cells BX.out.val 3 _ rfl
           clear h1 h2)
        | (go_at_call 115;refine (C71.out 5 _ _ R1.out).mono ?_;rintro e w4 ⟨rfl,v4,h1,h2⟩
           have R3:Hid (Out g ((o++[5])++Bn.text s) v4 w4):=h1
           have R4:Hid (Wrote g v v4 w2 w4):=R2.out.trans h2
           clear h1 h2))
      go_end0
      exact ⟨rfl,v4,by rw [E4.out (by first | rfl | trivial)];exact R3.out,R4.out.after HB2.out⟩
    · go_wp2_with (first
        | (go_at_call 111;refine (C67.out 6 _ HB2.out).mono ?_;rintro e w3 ⟨rfl,v3,h1,h2⟩
           have R1:Hid (Out g (o++[6]) v3 w3):=h1
           have R2:Hid (Wrote g v v3 w2 w3):=h2
           have BX:Hid (Boxes w3 g B v3 (.int .u8 5) (.bool b) (.int .i64 n) (.string s) (.slice ao nl lc) (.slice fo nf fc)):=HBX.out.wrote HGB h2
           have p0:=block_cells BX.out.ptr 0 _ rfl
           have v3':=block_cells BX.out.val 4 _ rfl
           clear h1 h2)
        | (go_at_call 116;refine (CL.out (by first | rfl | trivial) _ _ R1.out R2.out).mono ?_;rintro e w4 ⟨rfl,v4,h1,h2⟩
           have R3:Hid (Out g (Bn.wrL l ((o++[6])++Bn.num nl)) v4 w4):=h1
           have R4:Hid (Wrote g v v4 w2 w4):=R2.out.trans h2
           clear h1 h2))
      go_end0
      exact ⟨rfl,v4,by rw [E5.out (by first | rfl | trivial)];exact R3.out,R4.out.after HB2.out⟩
    · go_wp2_with (first
        | (go_at_call 111;refine (C67.out 7 _ HB2.out).mono ?_;rintro e w3 ⟨rfl,v3,h1,h2⟩
           have R1:Hid (Out g (o++[7]) v3 w3):=h1
           have R2:Hid (Wrote g v v3 w2 w3):=h2
           have BX:Hid (Boxes w3 g B v3 (.int .u8 6) (.bool b) (.int .i64 n) (.string s) (.slice ao nl lc) (.slice fo nf fc)):=HBX.out.wrote HGB h2
           have p0:=block_cells BX.out.ptr 0 _ rfl
           have v3':=block_cells BX.out.val 5 _ rfl
           clear h1 h2)
        | (go_at_call 116;refine (CF.out (by first | rfl | trivial) _ _ R1.out R2.out).mono ?_;rintro e w4 ⟨rfl,v4,h1,h2⟩
           have R3:Hid (Out g (Bn.wrF f ((o++[7])++Bn.num nf)) v4 w4):=h1
           have R4:Hid (Wrote g v v4 w2 w4):=R2.out.trans h2
           clear h1 h2))
      go_end0
      exact ⟨rfl,v4,by rw [E6.out (by first | rfl | trivial)];exact R3.out,R4.out.after HB2.out⟩
end Go.Proofs.YtggnfejjcgbebaaGreatDoor
/- Write, walked: a right value's bytes, or why not. -/
namespace Go.Proofs.YtggnfejjcgbebaaGreatDoor
open Go.RowKit
open Vl (V)
namespace Bn
mutual
theorem rep_rng {w:World} {H:Nat}:∀(t:V) (v:Value),Rep w H t v→rng t
  | ⟨k,b,n,s,l,f⟩,v,h=>by
    rw [Rep] at h
    rw [rng]
    obtain ⟨ao,lc,fo,fc,h1,h2,h3,h4,h5,h6,h7,h8⟩:=h
    refine ⟨⟨h3.1,by omega⟩,?_,?_⟩
    · by_cases hp:0<l.length
      · obtain ⟨g,o,e,hg,hr⟩:=h7 hp
        exact repL_rng l o hr
      · obtain rfl:l=[]:=List.eq_nil_of_length_eq_zero (by omega)
        rw [rngL];trivial
    · by_cases hp:0<f.length
      · obtain ⟨g,o,e,hg,hr⟩:=h8 hp
        exact repF_rng f o hr
      · obtain rfl:f=[]:=List.eq_nil_of_length_eq_zero (by omega)
        rw [rngF];trivial
theorem repL_rng {w:World} {H g:Nat}:∀(l:List V) (o:Nat),RepL w H g o l→rngL l
  | [],_,_=>by rw [rngL];trivial
  | x :: r,o,h=>by
    rw [RepL] at h
    rw [rngL]
    obtain ⟨⟨c0,c1,c2,c3,c4,c5,h1,h2⟩,h3⟩:=h
    exact ⟨rep_rng x _ h2,repL_rng r _ h3⟩
theorem repF_rng {w:World} {H g:Nat}:∀(l:List (ByteArray × V)) (o:Nat),RepF w H g o l→rngF l
  | [],_,_=>by rw [rngF];trivial
  | (m,x) :: r,o,h=>by
    rw [RepF] at h
    rw [rngF]
    obtain ⟨⟨h0,hm,c0,c1,c2,c3,c4,c5,h1,h2⟩,h3⟩:=h
    exact ⟨rep_rng x _ h2,repF_rng r _ h3⟩
end
def werr (t:V):Nat:=if Vl.check u8 0 t≠0 then Vl.check u8 0 t else if 16384<(bytes t).length then 4 else 0
def wtext (t:V):ByteArray:=if werr t=0 then ⟨(bytes t).toArray⟩ else ⟨#[]⟩
theorem werr_why {t:V} (h:Vl.check u8 0 t≠0):werr t=Vl.check u8 0 t∧wtext t=⟨#[]⟩:=by
  have e:werr t=Vl.check u8 0 t:=by rw [werr,if_pos h]
  exact ⟨e,by rw [wtext,if_neg (by rw [e];exact h)]⟩
theorem werr_long {t:V} (h:Vl.check u8 0 t=0) (h2:16384<(bytes t).length):werr t=4∧wtext t=⟨#[]⟩:=by
  have e:werr t=4:=by rw [werr,if_neg (by simp [h]),if_pos h2]
  exact ⟨e,by rw [wtext,if_neg (by omega)]⟩
theorem werr_ok {t:V} (h:Vl.check u8 0 t=0) (h2:¬16384<(bytes t).length):werr t=0∧wtext t=⟨(bytes t).toArray⟩:=by
  have e:werr t=0:=by rw [werr,if_neg (by simp [h]),if_neg h2]
  exact ⟨e,by rw [wtext,if_pos e]⟩
end Bn
theorem out_new (w:World):Out w.heap.size [] (.slice none 0 0) (w.alloc (.cells #[.slice none 0 0] 109)):=by
  refine ⟨by simp,block_cells (heap_alloc_new w _) 0 _ rfl,row_freeV (heap_alloc_new w _) 0,⟨rfl,Or.inl ⟨rfl,rfl⟩⟩⟩
set_option maxHeartbeats 2000000 in
set_option maxRecDepth 10000 in
theorem write18 (t:V) (w:World) (hT:Bn.HasU w) (H:Nat) (v:Value) (hH:H≤w.heap.size) (hR:Rep w H t v) :
    Calls Tryz.prog 45 #[v] w fun e w'=>e=.returned (.tuple #[.string (Bn.wtext t),.int .i64 ((Bn.werr t:Nat):Int)])∧Below w.heap.size w w':=by
  obtain ⟨xk,xb,xn,xs,xa,xl,xc,ya,yl,yc,hv⟩:=repV_form hR
  subst hv
  obtain ⟨c,hc⟩:∃c,c=Vl.check Bn.u8 0 t:=⟨_,rfl⟩
  have C27:Hid (∀W,Below w.heap.size w W→Calls Tryz.prog 85 #[.agg #[.int .u8 (xk:Int),.bool xb,.int .i64 xn,.string xs,.slice xa xl xc,.slice ya yl yc]] W fun e w'=>e=.returned (.int .i64 (c:Int))∧Below W.heap.size W w'):=fun W hW=>by
    rw [hc]
    exact check27 t W (hT.stays hW) H _ (by have:=hW.size;omega) (rep_stays (hW.mono hH) (Nat.le_refl _) t _ hR)
  have C42:Hid (c=0→∀W g v0,Below w.heap.size w W→w.heap.size≤g→Out g [] v0 W→Calls Tryz.prog 87 #[.pointer (some ⟨g,0,none⟩),.agg #[.int .u8 (xk:Int),.bool xb,.int .i64 xn,.string xs,.slice xa xl xc,.slice ya yl yc]] W fun e w'=>e=.returned (.tuple #[])∧∃v',Out g (Bn.wr t []) v' w'∧Wrote g v0 v' W w'):=fun h0 W g v0 hW hg hO =>
    value42 _ t (Nat.le_refl _) (Bn.fit_of Bn.u8 0 t (by rw [←hc];exact h0) (Bn.rep_rng t _ hR)) g H [] v0 W _ (by simp) (by omega) hO (rep_stays (hW.mono hH) (Nat.le_refl _) t _ hR)
  have HWE:Hid (c≠0→Bn.werr t=c∧Bn.wtext t=⟨#[]⟩):=fun h=>by rw [hc] at h ⊢;exact Bn.werr_why h
  have HWL:Hid (c=0→16384<(Bn.wr t []).length→Bn.werr t=4∧Bn.wtext t=⟨#[]⟩):=fun h h2=>by
    refine Bn.werr_long (by rw [←hc];exact h) (Nat.lt_of_not_le fun h3=>?_)
    rw [Bn.wr_all t [] (by simpa using h3)] at h2
    simp at h2;omega
  have HWO:Hid (c=0→¬16384<(Bn.wr t []).length→Bn.werr t=0∧Bn.wtext t=⟨(Bn.wr t []).toArray⟩∧Bn.wr t []≠[]):=fun h h2=>by
    have h3:¬16384<(Bn.bytes t).length:=fun h3=>h2 (Bn.wr_over t [] (by simpa using h3))
    have e:Bn.wr t []=Bn.bytes t:=by rw [Bn.wr_all t [] (by simp;omega),List.nil_append]
    rw [e]
    have hft:=Bn.fit_of Bn.u8 0 t (by rw [←hc];exact h) (Bn.rep_rng t _ hR)
    exact ⟨(Bn.werr_ok (by rw [←hc];exact h) h3).1,(Bn.werr_ok (by rw [←hc];exact h) h3).2,by rw [Bn.bytes_hd t hft];simp⟩
  obtain ⟨we,hwe⟩:∃we,we=Bn.werr t:=⟨_,rfl⟩
  obtain ⟨wt,hwt⟩:∃wt,wt=Bn.wtext t:=⟨_,rfl⟩
  rw [←hwe,←hwt] at HWE HWL HWO ⊢
  clear hR hc hwe hwt
  go_enter Tryz.func45,Tryz.ntmps45
  by_cases h0:c=0
  · have D42:Hid (∀W g v0,Below w.heap.size w W→w.heap.size≤g→Out g [] v0 W→Calls Tryz.prog 87 #[.pointer (some ⟨g,0,none⟩),.agg #[.int .u8 (xk:Int),.bool xb,.int .i64 xn,.string xs,.slice xa xl xc,.slice ya yl yc]] W fun e w'=>e=.returned (.tuple #[])∧∃v',Out g (Bn.wr t []) v' w'∧Wrote g v0 v' W w'):=C42.out h0
    have DWL:Hid (16384<(Bn.wr t []).length→we=4∧wt=⟨#[]⟩):=HWL.out h0
    have DWO:Hid (¬16384<(Bn.wr t []).length→we=0∧wt=⟨(Bn.wr t []).toArray⟩∧Bn.wr t []≠[]):=HWO.out h0
    subst h0
    clear C42 HWE HWL HWO
    obtain ⟨L,hL⟩:∃L,L=Bn.wr t []:=⟨_,rfl⟩
    rw [←hL] at D42 DWL DWO
    clear hL
    go_upto_region 1 with fail
    obtain ⟨w1,hw1⟩:∃w1,w1=w.alloc (.cells #[.int .u8 (xk:Int),.bool xb,.int .i64 xn,.string xs,.slice xa xl xc,.slice ya yl yc] 32):=⟨_,rfl⟩
    have HB1:Hid (Below w.heap.size w w1):=by show Below _ _ _;rw [hw1];exact below_new _ _
    have HR1:Hid (w1.heap[w.heap.size]?=some (.cells #[.int .u8 (xk:Int),.bool xb,.int .i64 xn,.string xs,.slice xa xl xc,.slice ya yl yc] 32 (0,0))):=by show _=_;rw [hw1];exact heap_alloc_new w _
    have HS1:Hid (w1.heap.size=w.heap.size+1):=by show _=_;rw [hw1];simp
    rw [←hw1]
    clear hw1
    obtain ⟨G,hG⟩:∃G,G=w.heap.size:=⟨_,rfl⟩
    rw [←hG] at HR1 HS1 ⊢
    have HG:Hid (G=w.heap.size):=hG
    clear hG
    have a0:=block_cells HR1.out 0 _ rfl
    have a1:=block_cells HR1.out 1 _ rfl
    have a2:=block_cells HR1.out 2 _ rfl
    have a3:=block_cells HR1.out 3 _ rfl
    have a4:=block_cells HR1.out 4 _ rfl
    have a5:=block_cells HR1.out 5 _ rfl
    by_cases hov:16384<L.length
    · obtain ⟨rfl,rfl⟩:=DWL.out hov
      have C43:Hid (∀g v W,Out g L v W→Calls Tryz.prog 88 #[.pointer (some ⟨g,0,none⟩)] W fun e w'=>e=.returned (.bool true)∧w'=W):=fun g v W h=>(over43 g L v W h).mono (by rintro e w' ⟨rfl,rfl⟩;simp [hov])
      clear hov DWL DWO
      go_wp2_with (first
        | (go_at_call 85;refine (C27.out _ HB1.out).mono ?_;rintro e w2 ⟨rfl,hb2⟩
           have HB2:Hid (Below w.heap.size w w2):=HB1.out.trans (hb2.mono HB1.out.size)
           have HR2:Hid (w2.heap[G]?=some (.cells #[.int .u8 (xk:Int),.bool xb,.int .i64 xn,.string xs,.slice xa xl xc,.slice ya yl yc] 32 (0,0))):=(hb2.block G (by have:=HS1.out;omega)).trans HR1.out
           have lt2:G<w2.heap.size:=by have:=HS1.out;have:=hb2.size;omega
           clear hb2 a0 a1 a2 a3 a4 a5
           have a0:=block_cells HR2.out 0 _ rfl
           have a1:=block_cells HR2.out 1 _ rfl
           have a2:=block_cells HR2.out 2 _ rfl
           have a3:=block_cells HR2.out 3 _ rfl
           have a4:=block_cells HR2.out 4 _ rfl
           have a5:=block_cells HR2.out 5 _ rfl)
        | (go_at_call 87;refine (D42.out _ _ (.slice none 0 0) (HB2.out.trans ((below_new _ _).mono HB2.out.size)) HB2.out.size (out_new _)).mono ?_;rintro e w3 ⟨rfl,v3,h1,h2⟩
           have R3:Hid (Out w2.heap.size L v3 w3):=h1
           have R4:Hid (Below w.heap.size w w3):=(HB2.out.trans ((below_new _ _).mono HB2.out.size)).trans ((h2.below (out_new _)).mono HB2.out.size)
           clear h1 h2)
        | (go_at_call 88;refine (C43.out _ _ _ R3.out).mono ?_;rintro e w4 ⟨rfl,rfl⟩))
      go_ret2
      exact ⟨rfl,R4.out⟩
    · obtain ⟨rfl,HWT,HNE⟩:=DWO.out hov
      have DWT:Hid (wt=⟨L.toArray⟩):=HWT
      have DNE:Hid (L≠[]):=HNE
      have C43:Hid (∀g v W,Out g L v W→Calls Tryz.prog 88 #[.pointer (some ⟨g,0,none⟩)] W fun e w'=>e=.returned (.bool false)∧w'=W):=fun g v W h=>(over43 g L v W h).mono (by rintro e w' ⟨rfl,rfl⟩;simp [hov])
      clear hov DWL DWO HWT HNE
      go_wp2_with (first
        | (go_at_call 85;refine (C27.out _ HB1.out).mono ?_;rintro e w2 ⟨rfl,hb2⟩
           have HB2:Hid (Below w.heap.size w w2):=HB1.out.trans (hb2.mono HB1.out.size)
           have HR2:Hid (w2.heap[G]?=some (.cells #[.int .u8 (xk:Int),.bool xb,.int .i64 xn,.string xs,.slice xa xl xc,.slice ya yl yc] 32 (0,0))):=(hb2.block G (by have:=HS1.out;omega)).trans HR1.out
           have lt2:G<w2.heap.size:=by have:=HS1.out;have:=hb2.size;omega
           clear hb2 a0 a1 a2 a3 a4 a5
           have a0:=block_cells HR2.out 0 _ rfl
           have a1:=block_cells HR2.out 1 _ rfl
           have a2:=block_cells HR2.out 2 _ rfl
           have a3:=block_cells HR2.out 3 _ rfl
           have a4:=block_cells HR2.out 4 _ rfl
           have a5:=block_cells HR2.out 5 _ rfl)
        | (go_at_call 87;refine (D42.out _ _ (.slice none 0 0) (HB2.out.trans ((below_new _ _).mono HB2.out.size)) HB2.out.size (out_new _)).mono ?_;rintro e w3 ⟨rfl,v3,h1,h2⟩
           have R3:Hid (Out w2.heap.size L v3 w3):=h1
           have R4:Hid (Below w.heap.size w w3):=(HB2.out.trans ((below_new _ _).mono HB2.out.size)).trans ((h2.below (out_new _)).mono HB2.out.size)
           obtain ⟨gg,k,cap,str,hv,hconv,hstr⟩:=Bn.own_string h1.own DNE.out
           subst hv
           have c3:=h1.cell
           clear h1 h2)
        | (go_at_call 88;refine (C43.out _ _ _ R3.out).mono ?_;rintro e w4 ⟨rfl,rfl⟩))
      go_ret2
      exact ⟨by rw [hstr.out,DWT.out];rfl,R4.out⟩
  · obtain ⟨rfl,rfl⟩:=HWE.out h0
    have h0':¬(we:Int)=0:=by omega
    clear C42 HWE HWL HWO h0
    go_upto_region 1 with fail
    obtain ⟨w1,hw1⟩:∃w1,w1=w.alloc (.cells #[.int .u8 (xk:Int),.bool xb,.int .i64 xn,.string xs,.slice xa xl xc,.slice ya yl yc] 32):=⟨_,rfl⟩
    have HB1:Hid (Below w.heap.size w w1):=by show Below _ _ _;rw [hw1];exact below_new _ _
    have HR1:Hid (w1.heap[w.heap.size]?=some (.cells #[.int .u8 (xk:Int),.bool xb,.int .i64 xn,.string xs,.slice xa xl xc,.slice ya yl yc] 32 (0,0))):=by show _=_;rw [hw1];exact heap_alloc_new w _
    rw [←hw1]
    clear hw1
    obtain ⟨G,hG⟩:∃G,G=w.heap.size:=⟨_,rfl⟩
    rw [←hG] at HR1 ⊢
    have a0:=block_cells HR1.out 0 _ rfl
    have a1:=block_cells HR1.out 1 _ rfl
    have a2:=block_cells HR1.out 2 _ rfl
    have a3:=block_cells HR1.out 3 _ rfl
    have a4:=block_cells HR1.out 4 _ rfl
    have a5:=block_cells HR1.out 5 _ rfl
    clear hG
    go_wp2_with (first
      | (go_at_call 85;refine (C27.out _ HB1.out).mono ?_;rintro e w2 ⟨rfl,hb2⟩
         have HB2:Hid (Below w.heap.size w w2):=HB1.out.trans (hb2.mono HB1.out.size)
         clear hb2 a0 a1 a2 a3 a4 a5))
    go_ret2
    exact ⟨rfl,HB2.out⟩
end Go.Proofs.YtggnfejjcgbebaaGreatDoor
