/- Several texts, joined. -/
import Derived.Test.YtfhkaffakniioaaGreatDoorQ04M
set_option maxHeartbeats 4000000
set_option maxRecDepth 100000
namespace Go.Proofs.YtfhkaffakniioaaGreatDoor
open Go.RowKit
namespace Lx
def frst:Bs→R
 | []=>no 13
 | x :: r=>if isL x.toNat then word (x :: r) else if isD x.toNat then numb (x :: r) else if x=39 then text (x :: r) else if 0<sgn (x :: r) then sign (x :: r) else no 13
end Lx
theorem beginsA_c (x:UInt8) (r:Lx.Bs) (w:World):Calls Tryz.prog 90 #[.string (Lx.bs (x :: r))] w fun e w'=>e=.returned (.bool (Lx.isL x.toNat))∧w'=w:=by
 have hix:∀wx,(Instr.index 9 (.string (Lx.bs (x :: r))) (.int .i64 0)).run Tryz.prog wx=.ok (.int .u8 ((x.toNat:Nat):Int)) wx:=fun wx=>Lx.index_at (x :: r) 0 0 x rfl rfl wx
 go_enter Tryz.func90,Tryz.ntmps90
 go_wp2_with (go_at_call 91;refine(isLetter_c x.toNat _).mono ?_;rintro e w' ⟨rfl,rfl⟩)
 go_ret
 exact⟨rfl,rfl⟩
theorem beginsB_c (x:UInt8) (r:Lx.Bs) (w:World):Calls Tryz.prog 93 #[.string (Lx.bs (x :: r))] w fun e w'=>e=.returned (.bool (Lx.isD x.toNat))∧w'=w:=by
 have hix:∀wx,(Instr.index 9 (.string (Lx.bs (x :: r))) (.int .i64 0)).run Tryz.prog wx=.ok (.int .u8 ((x.toNat:Nat):Int)) wx:=fun wx=>Lx.index_at (x :: r) 0 0 x rfl rfl wx
 go_enter Tryz.func93,Tryz.ntmps93
 go_wp2_with (go_at_call 94;refine(isDigit_c x.toNat _).mono ?_;rintro e w' ⟨rfl,rfl⟩)
 go_ret
 exact⟨rfl,rfl⟩
theorem beginsC_c (x:UInt8) (r:Lx.Bs) (w:World):Calls Tryz.prog 96 #[.string (Lx.bs (x :: r))] w fun e w'=>e=.returned (.bool (decide (x=39)))∧w'=w:=by
 have hix:∀wx,(Instr.index 9 (.string (Lx.bs (x :: r))) (.int .i64 0)).run Tryz.prog wx=.ok (.int .u8 ((x.toNat:Nat):Int)) wx:=fun wx=>Lx.index_at (x :: r) 0 0 x rfl rfl wx
 have he:((x.toNat:Int)==39)=decide (x=39):=by
  by_cases h:x=39
  ·subst h;rfl
  ·rw[decide_eq_false h,beq_eq_false_iff_ne]
   intro e;exact h (by apply UInt8.toNat_inj.1;show x.toNat=39;omega)
 go_enter Tryz.func96,Tryz.ntmps96
 go_wp2
 go_ret
 exact⟨by rw[←he];rfl,rfl⟩
theorem beginsD_c (x:UInt8) (r:Lx.Bs) (w:World):Calls Tryz.prog 98 #[.string (Lx.bs (x :: r))] w fun e w'=>e=.returned (.bool (decide (0<Lx.sgn (x :: r))))∧w'=w:=by
 obtain⟨z,hz⟩:∃z,z=Lx.sgn (x :: r):=⟨_,rfl⟩
 have C:Hid (Calls Tryz.prog 99 #[.string (Lx.bs (x :: r))] w fun e w'=>e=.returned (.int .i64 (z:Int))∧w'=w):=by rw[hz];exact signSize_c x r w
 rw[←hz]
 clear hz
 go_enter Tryz.func98,Tryz.ntmps98
 go_wp2_with fail
 refine C.out.mono ?_
 rintro e w' ⟨rfl,rfl⟩
 go_wp2
 go_ret
 exact⟨rfl,rfl⟩
def RD (W:World) (B:Nat):Prop:=W.heap[B]?=some (.cells #[.func (.func 90) #[] #[],.func (.func 92) #[] #[],.func (.func 93) #[] #[],.func (.func 95) #[] #[],.func (.func 96) #[] #[],.func (.func 97) #[] #[],.func (.func 98) #[] #[],.func (.func 100) #[] #[]] 118 (0,0))
theorem RD.call {W W':World} {B:Nat} (h:RD W B) (hb:Below W.heap.size W W'):RD W' B:=(hb.block _ (Array.getElem?_eq_some_iff.1 h).1).trans h
theorem RD.low {W W':World} {B H:Nat} (h:RD W B) (hB:B<H) (hb:Below H W W'):RD W' B:=(hb.block _ hB).trans h
theorem RD.cells {W:World} {B:Nat} (h:RD W B) (j:Nat) (v:Value) (hv:(#[.func (.func 90) #[] #[],.func (.func 92) #[] #[],.func (.func 93) #[] #[],.func (.func 95) #[] #[],.func (.func 96) #[] #[],.func (.func 97) #[] #[],.func (.func 98) #[] #[],.func (.func 100) #[] #[]]:Array Value)[j]?=some v):W.cell? ⟨B,j,none⟩=some v:=by rw[cell_of_row _ _ _ _ _ _ h];exact hv
theorem readers_c (w:World):Calls Tryz.prog 67 #[] w fun e w'=>e=.returned (.slice (some ⟨w.heap.size,0,none⟩) 4 4)∧RD w' w.heap.size∧Below w.heap.size w w':=by
 have h1:RD (w.alloc (.cells #[.func (.func 90) #[] #[],.func (.func 92) #[] #[],.func (.func 93) #[] #[],.func (.func 95) #[] #[],.func (.func 96) #[] #[],.func (.func 97) #[] #[],.func (.func 98) #[] #[],.func (.func 100) #[] #[]] 118)) w.heap.size:=heap_alloc_new w _
 have h2:Below w.heap.size w (w.alloc (.cells #[.func (.func 90) #[] #[],.func (.func 92) #[] #[],.func (.func 93) #[] #[],.func (.func 95) #[] #[],.func (.func 96) #[] #[],.func (.func 97) #[] #[],.func (.func 98) #[] #[],.func (.func 100) #[] #[]] 118)):=(Below.refl _ _).alloc (Nat.le_refl _) _
 have H:Hid (RD (w.alloc (.cells #[.func (.func 90) #[] #[],.func (.func 92) #[] #[],.func (.func 93) #[] #[],.func (.func 95) #[] #[],.func (.func 96) #[] #[],.func (.func 97) #[] #[],.func (.func 98) #[] #[],.func (.func 100) #[] #[]] 118)) w.heap.size∧Below w.heap.size w (w.alloc (.cells #[.func (.func 90) #[] #[],.func (.func 92) #[] #[],.func (.func 93) #[] #[],.func (.func 95) #[] #[],.func (.func 96) #[] #[],.func (.func 97) #[] #[],.func (.func 98) #[] #[],.func (.func 100) #[] #[]] 118))):=⟨h1,h2⟩
 clear h1 h2
 go_enter Tryz.func67,Tryz.ntmps67
 go_wp2
 go_ret
 exact⟨rfl,H.out⟩
theorem first_c (x:UInt8) (r:Lx.Bs) (hl:(x :: r).length≤16384) (B:Nat) (w:World) (hB:RD w B) (hL:HasL w):Calls Tryz.prog 69 #[.slice (some ⟨B,0,none⟩) 4 4,.string (Lx.bs (x :: r))] w fun e w'=>e=Lx.gave (Lx.frst (x :: r))∧Below w.heap.size w w':=by
 obtain⟨w1,hw1⟩:∃w1,w1=w.alloc (.cells #[.int .u8 0,.string ⟨#[]⟩,.int .i64 0,.int .i64 0] 92):=⟨_,rfl⟩
 have X1:Hid (T4 w w1):=by rw[hw1];exact T4.start w
 have HL:Hid (∀W,Below w.heap.size w W→HasL W):=fun W hW=>hL.stays hW
 have HB:Hid (∀W,T4 w W→RD W B):=fun W hW=>hB.low (Array.getElem?_eq_some_iff.1 hB).1 hW.1
 obtain⟨s,hs⟩:∃s,s=Lx.bs (x :: r):=⟨_,rfl⟩
 obtain⟨ba,hba⟩:∃b,b=Lx.isL x.toNat:=⟨_,rfl⟩
 obtain⟨bb,hbb⟩:∃b,b=Lx.isD x.toNat:=⟨_,rfl⟩
 obtain⟨bc,hbc⟩:∃b,b=decide (x=39):=⟨_,rfl⟩
 obtain⟨bd,hbd⟩:∃b,b=decide (0<Lx.sgn (x :: r)):=⟨_,rfl⟩
 have CA:Hid (∀W,Calls Tryz.prog 90 #[.string s] W fun e w'=>e=.returned (.bool ba)∧w'=W):=fun W=>by rw[hs,hba];exact beginsA_c x r W
 have CB:Hid (∀W,Calls Tryz.prog 93 #[.string s] W fun e w'=>e=.returned (.bool bb)∧w'=W):=fun W=>by rw[hs,hbb];exact beginsB_c x r W
 have CC:Hid (∀W,Calls Tryz.prog 96 #[.string s] W fun e w'=>e=.returned (.bool bc)∧w'=W):=fun W=>by rw[hs,hbc];exact beginsC_c x r W
 have CD:Hid (∀W,Calls Tryz.prog 98 #[.string s] W fun e w'=>e=.returned (.bool bd)∧w'=W):=fun W=>by rw[hs,hbd];exact beginsD_c x r W
 have RA:Hid (ba=true→∀W,T4 w W→Calls Tryz.prog 92 #[.string s] W fun e w'=>e=Lx.gave (Lx.frst (x :: r))∧T4 w w'):=fun h W hW=>by
  have e:Lx.frst (x :: r)=Lx.word (x :: r):=by rw[Lx.frst,if_pos (by rw[←hba];exact h)]
  rw[e,hs]
  exact(readWord_c (x :: r) hl W).mono fun e w' ⟨h1,h2⟩=>⟨h1,hW.call h2⟩
 have RB:Hid (ba=false→bb=true→∀W,T4 w W→Calls Tryz.prog 95 #[.string s] W fun e w'=>e=Lx.gave (Lx.frst (x :: r))∧T4 w w'):=fun h0 h W hW=>by
  have e:Lx.frst (x :: r)=Lx.numb (x :: r):=by rw[Lx.frst,if_neg (by rw[←hba,h0];decide),if_pos (by rw[←hbb];exact h)]
  rw[e,hs]
  exact(readNumber_c (x :: r) hl W (HL.out W hW.1)).mono fun e w' ⟨h1,h2⟩=>⟨h1,hW.call h2⟩
 have RC:Hid (ba=false→bb=false→bc=true→∀W,T4 w W→Calls Tryz.prog 97 #[.string s] W fun e w'=>e=Lx.gave (Lx.frst (x :: r))∧T4 w w'):=fun h0 h1 h W hW=>by
  have hx:x=39:=by rw[hbc] at h;exact of_decide_eq_true h
  have e:Lx.frst (x :: r)=Lx.text (x :: r):=by rw[Lx.frst,if_neg (by rw[←hba,h0];decide),if_neg (by rw[←hbb,h1];decide),if_pos hx]
  rw[e,hs,hx]
  exact(readText_c r (by simp at hl;omega) W (HL.out W hW.1)).mono fun e w' ⟨h1,h2⟩=>⟨h1,hW.call h2⟩
 have RS:Hid (ba=false→bb=false→bc=false→bd=true→∀W,T4 w W→Calls Tryz.prog 100 #[.string s] W fun e w'=>e=Lx.gave (Lx.frst (x :: r))∧T4 w w'):=fun h0 h1 h2 h W hW=>by
  have hx:¬x=39:=by rw[hbc] at h2;exact of_decide_eq_false h2
  have hd:0<Lx.sgn (x :: r):=by rw[hbd] at h;exact of_decide_eq_true h
  have e:Lx.frst (x :: r)=Lx.sign (x :: r):=by rw[Lx.frst,if_neg (by rw[←hba,h0];decide),if_neg (by rw[←hbb,h1];decide),if_neg hx,if_pos hd]
  rw[e,hs]
  exact(readSign_c x r hl W).mono fun e w' ⟨h1,h2⟩=>⟨h1,hW.call h2⟩
 have RE:Hid (ba=false→bb=false→bc=false→bd=false→Lx.frst (x :: r)=Lx.no 13):=fun h0 h1 h2 h=>by
  have hx:¬x=39:=by rw[hbc] at h2;exact of_decide_eq_false h2
  have hd:¬0<Lx.sgn (x :: r):=by rw[hbd] at h;exact of_decide_eq_false h
  rw[Lx.frst,if_neg (by rw[←hba,h0];decide),if_neg (by rw[←hbb,h1];decide),if_neg hx,if_neg hd]
 obtain⟨R,hR⟩:∃R,R=Lx.frst (x :: r):=⟨_,rfl⟩
 rw[←hR] at RA RB RC RS RE
 rw[←hR,←hs]
 clear hs hba hbb hbc hbd hL hB hl hR
 obtain⟨er,kd,tx,nn,sz⟩:=R
 have hsf:∀(a:Addr) (f:Fn) (m:Mode) (wx:World),(store a (.func f #[] #[]) m).run Tryz.prog wx=stored Tryz.prog wx a (.func f #[] #[]) m:=fun a f m wx=>run_store Tryz.prog wx a _ m rfl
 go_enter Tryz.func69,Tryz.ntmps69
 go_upto_region 1 with fail
 rw[←hw1]
 clear hw1
 go_wp2
 go_loopw [11] (fun i wr=>∃j:Nat,j≤4∧i=.int .i64 (j:Int)∧T4 w wr∧(0<j→ba=false)∧(1<j→bb=false)∧(2<j→bc=false)∧(3<j→bd=false)) (fun i _=>4 - (intOf i).toNat)
 case atStart=>exact⟨0,by omega,rfl,X1.out,fun h=>absurd h (by omega),fun h=>absurd h (by omega),fun h=>absurd h (by omega),fun h=>absurd h (by omega)⟩
 case round =>
  obtain⟨j,hj,rfl,hT,h0,h1,h2,h3⟩:=hrel
  have X:Hid (T4 w wr):=hT
  have H0:Hid (0<j→ba=false):=h0
  have H1:Hid (1<j→bb=false):=h1
  have H2:Hid (2<j→bc=false):=h2
  have H3:Hid (3<j→bd=false):=h3
  clear hT h0 h1 h2 h3 X1
  have rd:=HB.out _ X.out
  obtain rfl | rfl | rfl | rfl | rfl:j=0∨j=1∨j=2∨j=3∨j=4:=by omega
  ·have p0:=rd.cells 0 _ rfl
   have p1:=rd.cells 1 _ rfl
   clear rd
   go_upto_region 4 with fail
   obtain⟨w2,hw2⟩:∃w2,w2=wr.alloc (.cells #[.func (.func 90) #[] #[],.func (.func 92) #[] #[]] 118):=⟨_,rfl⟩
   obtain⟨Q,hQ⟩:∃Q,Q=wr.heap.size:=⟨_,rfl⟩
   have X2:Hid (T4 w w2):=by rw[hw2];exact X.out.call ((Below.refl _ _).alloc (Nat.le_refl _) _)
   have HQ:Hid (w2.heap[Q]?=some (.cells #[.func (.func 90) #[] #[],.func (.func 92) #[] #[]] 118 (0,0))):=by rw[hw2,hQ];exact heap_alloc_new wr _
   rw[←hw2,←hQ]
   clear hw2 hQ p0 p1 X
   have c0:w2.cell? ⟨Q,0,none⟩=some (.func (.func 90) #[] #[]):=by rw[cell_of_row _ _ _ _ _ _ HQ.out];rfl
   have c1:w2.cell? ⟨Q,1,none⟩=some (.func (.func 92) #[] #[]):=by rw[cell_of_row _ _ _ _ _ _ HQ.out];rfl
   go_wp2_with fail
   refine Calls.mono (CA.out _) ?_
   rintro e w3 ⟨rfl,rfl⟩
   cases ba with
   | true =>
    have C:Hid _:=RA.out rfl _ X2.out
    go_wp2_with fail
    refine Calls.mono C.out ?_
    rintro e w4 ⟨rfl,h4⟩
    have X4:Hid (T4 w w4):=h4
    obtain⟨p0,p1,p2,p3,fz⟩:=X4.out.cells
    clear h4
    simp only[Lx.gave,Lx.tc]
    go_wp2
    exact zaZ (r:=⟨er,kd,tx,nn,sz⟩) rfl X4.out rfl rfl rfl
   | false =>
    go_wp2
    exact⟨⟨1,by omega,rfl,X2.out,fun _=>trivial,fun h=>absurd h (by omega),fun h=>absurd h (by omega),fun h=>absurd h (by omega)⟩,by decide⟩
  ·have p0:=rd.cells 2 _ rfl
   have p1:=rd.cells 3 _ rfl
   clear rd
   go_upto_region 4 with fail
   obtain⟨w2,hw2⟩:∃w2,w2=wr.alloc (.cells #[.func (.func 93) #[] #[],.func (.func 95) #[] #[]] 118):=⟨_,rfl⟩
   obtain⟨Q,hQ⟩:∃Q,Q=wr.heap.size:=⟨_,rfl⟩
   have X2:Hid (T4 w w2):=by rw[hw2];exact X.out.call ((Below.refl _ _).alloc (Nat.le_refl _) _)
   have HQ:Hid (w2.heap[Q]?=some (.cells #[.func (.func 93) #[] #[],.func (.func 95) #[] #[]] 118 (0,0))):=by rw[hw2,hQ];exact heap_alloc_new wr _
   rw[←hw2,←hQ]
   clear hw2 hQ p0 p1 X
   have c0:w2.cell? ⟨Q,0,none⟩=some (.func (.func 93) #[] #[]):=by rw[cell_of_row _ _ _ _ _ _ HQ.out];rfl
   have c1:w2.cell? ⟨Q,1,none⟩=some (.func (.func 95) #[] #[]):=by rw[cell_of_row _ _ _ _ _ _ HQ.out];rfl
   go_wp2_with fail
   refine Calls.mono (CB.out _) ?_
   rintro e w3 ⟨rfl,rfl⟩
   cases bb with
   | true =>
    have C:Hid _:=RB.out (H0.out (by omega)) rfl _ X2.out
    go_wp2_with fail
    refine Calls.mono C.out ?_
    rintro e w4 ⟨rfl,h4⟩
    have X4:Hid (T4 w w4):=h4
    obtain⟨p0,p1,p2,p3,fz⟩:=X4.out.cells
    clear h4
    simp only[Lx.gave,Lx.tc]
    go_wp2
    exact zaZ (r:=⟨er,kd,tx,nn,sz⟩) rfl X4.out rfl rfl rfl
   | false =>
    go_wp2
    exact⟨⟨2,by omega,rfl,X2.out,fun _=>H0.out (by omega),fun _=>trivial,fun h=>absurd h (by omega),fun h=>absurd h (by omega)⟩,by decide⟩
  ·have p0:=rd.cells 4 _ rfl
   have p1:=rd.cells 5 _ rfl
   clear rd
   go_upto_region 4 with fail
   obtain⟨w2,hw2⟩:∃w2,w2=wr.alloc (.cells #[.func (.func 96) #[] #[],.func (.func 97) #[] #[]] 118):=⟨_,rfl⟩
   obtain⟨Q,hQ⟩:∃Q,Q=wr.heap.size:=⟨_,rfl⟩
   have X2:Hid (T4 w w2):=by rw[hw2];exact X.out.call ((Below.refl _ _).alloc (Nat.le_refl _) _)
   have HQ:Hid (w2.heap[Q]?=some (.cells #[.func (.func 96) #[] #[],.func (.func 97) #[] #[]] 118 (0,0))):=by rw[hw2,hQ];exact heap_alloc_new wr _
   rw[←hw2,←hQ]
   clear hw2 hQ p0 p1 X
   have c0:w2.cell? ⟨Q,0,none⟩=some (.func (.func 96) #[] #[]):=by rw[cell_of_row _ _ _ _ _ _ HQ.out];rfl
   have c1:w2.cell? ⟨Q,1,none⟩=some (.func (.func 97) #[] #[]):=by rw[cell_of_row _ _ _ _ _ _ HQ.out];rfl
   go_wp2_with fail
   refine Calls.mono (CC.out _) ?_
   rintro e w3 ⟨rfl,rfl⟩
   cases bc with
   | true =>
    have C:Hid _:=RC.out (H0.out (by omega)) (H1.out (by omega)) rfl _ X2.out
    go_wp2_with fail
    refine Calls.mono C.out ?_
    rintro e w4 ⟨rfl,h4⟩
    have X4:Hid (T4 w w4):=h4
    obtain⟨p0,p1,p2,p3,fz⟩:=X4.out.cells
    clear h4
    simp only[Lx.gave,Lx.tc]
    go_wp2
    exact zaZ (r:=⟨er,kd,tx,nn,sz⟩) rfl X4.out rfl rfl rfl
   | false =>
    go_wp2
    exact⟨⟨3,by omega,rfl,X2.out,fun _=>H0.out (by omega),fun _=>H1.out (by omega),fun _=>trivial,fun h=>absurd h (by omega)⟩,by decide⟩
  ·have p0:=rd.cells 6 _ rfl
   have p1:=rd.cells 7 _ rfl
   clear rd
   go_upto_region 4 with fail
   obtain⟨w2,hw2⟩:∃w2,w2=wr.alloc (.cells #[.func (.func 98) #[] #[],.func (.func 100) #[] #[]] 118):=⟨_,rfl⟩
   obtain⟨Q,hQ⟩:∃Q,Q=wr.heap.size:=⟨_,rfl⟩
   have X2:Hid (T4 w w2):=by rw[hw2];exact X.out.call ((Below.refl _ _).alloc (Nat.le_refl _) _)
   have HQ:Hid (w2.heap[Q]?=some (.cells #[.func (.func 98) #[] #[],.func (.func 100) #[] #[]] 118 (0,0))):=by rw[hw2,hQ];exact heap_alloc_new wr _
   rw[←hw2,←hQ]
   clear hw2 hQ p0 p1 X
   have c0:w2.cell? ⟨Q,0,none⟩=some (.func (.func 98) #[] #[]):=by rw[cell_of_row _ _ _ _ _ _ HQ.out];rfl
   have c1:w2.cell? ⟨Q,1,none⟩=some (.func (.func 100) #[] #[]):=by rw[cell_of_row _ _ _ _ _ _ HQ.out];rfl
   go_wp2_with fail
   refine Calls.mono (CD.out _) ?_
   rintro e w3 ⟨rfl,rfl⟩
   cases bd with
   | true =>
    have C:Hid _:=RS.out (H0.out (by omega)) (H1.out (by omega)) (H2.out (by omega)) rfl _ X2.out
    go_wp2_with fail
    refine Calls.mono C.out ?_
    rintro e w4 ⟨rfl,h4⟩
    have X4:Hid (T4 w w4):=h4
    obtain⟨p0,p1,p2,p3,fz⟩:=X4.out.cells
    clear h4
    simp only[Lx.gave,Lx.tc]
    go_wp2
    exact zaZ (r:=⟨er,kd,tx,nn,sz⟩) rfl X4.out rfl rfl rfl
   | false =>
    go_wp2
    exact⟨⟨4,by omega,rfl,X2.out,fun _=>H0.out (by omega),fun _=>H1.out (by omega),fun _=>H2.out (by omega),fun _=>trivial⟩,by decide⟩
  ·have HR:=RE.out (H0.out (by omega)) (H1.out (by omega)) (H2.out (by omega)) (H3.out (by omega))
   cases HR
   clear rd
   obtain⟨p0,p1,p2,p3,fz⟩:=X.out.cells
   go_wp2
   exact zaZ (r:=Lx.no 13) rfl X.out rfl rfl rfl
end Go.Proofs.YtfhkaffakniioaaGreatDoor
