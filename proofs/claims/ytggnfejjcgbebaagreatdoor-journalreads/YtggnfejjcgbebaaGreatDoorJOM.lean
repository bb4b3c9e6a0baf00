/- Several texts, joined: MkF, MkG -/
import Derived.Test.YtggnfejjcgbebaaGreatDoorJMM
/- What a path shows, as the program tells. -/
namespace Go.Proofs.YtggnfejjcgbebaaGreatDoor
open Go.RowKit
namespace Mk
end Mk
end Go.Proofs.YtggnfejjcgbebaaGreatDoor
/- Texts in memory of their own; a new tree. -/
namespace Go.Proofs.YtggnfejjcgbebaaGreatDoor
open Go.RowKit
set_option maxHeartbeats 1000000 in
theorem sclone_c (s:ByteArray) (hs:s.size≤281474976710656) (w:World) :
    Calls Tryz.prog 77 #[.string s] w fun e w'=>e=.returned (.string s)∧Below w.heap.size w w':=by
  go_enter Tryz.func77,Tryz.ntmps77
  go_wp2_with (go_at_call 102;refine (Tryz.stringslite_Clone s _ hs).mono ?_;rintro e w1 ⟨rfl,hb1⟩)
  go_ret
  exact ⟨rfl,hb1⟩
theorem info9:(Tryz.prog.info? 9).map (fun i=>(i.zero,i.size,i.bytes))=some (some (.string ⟨#[]⟩),1,16):=by kernel_rfl
def scz (l:List (List UInt8)) (k n:Nat):List Value:=scs (l.take k)++List.replicate (n - k) (.string ⟨#[]⟩)
theorem scz_zero (l:List (List UInt8)) (n:Nat):scz l 0 n=List.replicate n (.string ⟨#[]⟩):=by simp [scz,scs]
theorem scz_all (l:List (List UInt8)) (n:Nat) (h:n=l.length):scz l n n=scs l:=by simp [scz,h]
theorem scz_next (l:List (List UInt8)) (k n:Nat) (x:List UInt8) (h:n=l.length) (hx:l[k]?=some x):(scz l k n).set k (encS x)=scz l (k+1) n:=by
  have hk:=(List.getElem?_eq_some_iff.1 hx).1
  have hl:(scs (l.take k)).length=k:=by rw [scs_length,List.length_take];omega
  obtain ⟨q,hq⟩:∃q,n - k=q+1:=⟨n - k - 1,by omega⟩
  have hq2:n - (k+1)=q:=by omega
  rw [scz,scz,hq,hq2,List.replicate_succ,List.set_append_right _ _ (by omega),hl,Nat.sub_self,List.set_cons_zero,List.take_add_one,hx]
  simp [scs]
theorem made_strs (w:World) (n:Nat) (hn:n≤1048576):(w.alloc (.cells (madeCells (Value.string ⟨#[]⟩).cells (n*1)) 9)).ownsRow w.heap.size 9 1 (.slice (some ⟨w.heap.size,0,none⟩) n n) n (List.replicate n (.string ⟨#[]⟩)):=by
  have e:madeCells (Value.string ⟨#[]⟩).cells (n*1)=(List.replicate n (.string ⟨#[]⟩)).toArray:=by
    apply Array.ext'
    rw [Nat.mul_one]
    apply List.ext_getElem?
    intro i
    by_cases h:i<n
    · simp [madeCells,Value.cells,h,Nat.mod_one]
    · simp [madeCells,Value.cells,h]
  rw [e]
  exact ⟨by simp,.inr ⟨w.heap.size,n,_,rfl,Nat.le_refl _,heap_alloc_new w _,Nat.le_refl _,by unfold maxLen;omega,by simp,by simp⟩⟩
set_option maxHeartbeats 2000000 in
theorem clones_c (a:Option Addr) (c n:Nat) (H:Nat) (l:List (List UInt8)) (hl:l.length≤1048576) (hx:∀x∈l,x.length≤140737488355328) (w:World) (hH:H≤w.heap.size) (h:Sl w H (.slice a n c) l) :
    Calls Tryz.prog 99 #[.slice a n c] w fun e w'=>∃g,e=.returned (.slice (some ⟨g,0,none⟩) n n)∧w'.ownsRow w.heap.size 9 1 (.slice (some ⟨g,0,none⟩) n n) n (scs l)∧Below w.heap.size w w':=by
  obtain ⟨i0,hi,hz0,hz1,hz2⟩:=info_parts info9
  have HN:Hid (n=l.length):=h.len
  have hn:n≤1048576:=by have:=HN.out;omega
  have HS:Hid (Sl w H (.slice a n c) l):=h
  have HX:Hid (∀x∈l,x.length≤140737488355328):=hx
  obtain ⟨M,hM⟩:∃M,M=madeCells (Value.string ⟨#[]⟩).cells (n*1):=⟨_,rfl⟩
  have hmk:∀u:World,(Instr.makeSlice 23 (.int .i64 (n:Int)) (.int .i64 (n:Int))).run Tryz.prog u=.ok (.slice (some ⟨u.heap.size,0,none⟩) n n) (u.alloc (.cells M 9)):=fun u=>by
    have h:=run_make (P:=Tryz.prog) u 23 9 i0 (.string ⟨#[]⟩) Tryz.underlying23 hi hz0 .i64 .i64 (n:Int) (n:Int) (by omega) (by omega) (by rw [hz2];omega) (by omega)
    rw [show (n:Int).toNat=n by omega,hz1,←hM] at h
    exact h
  have HM:Hid ((w.alloc (.cells M 9)).ownsRow w.heap.size 9 1 (.slice (some ⟨w.heap.size,0,none⟩) n n) n (scz l 0 n)):=by
    show World.ownsRow _ _ _ _ _ _ _
    rw [hM,scz_zero];exact made_strs w n hn
  clear h hx hM
  go_enter Tryz.func99,Tryz.ntmps99
  go_wp2
  go_loopw [11] (fun i wr=>∃k:Nat,k≤n∧i=.int .i64 (k:Int)∧wr.ownsRow w.heap.size 9 1 (.slice (some ⟨w.heap.size,0,none⟩) n n) n (scz l k n)∧Below w.heap.size w wr∧w.heap.size<wr.heap.size) (fun i _=>n - (intOf i).toNat)
  case atStart=>exact ⟨0,Nat.zero_le _,rfl,HM.out,(Below.refl _ _).alloc (Nat.le_refl _) _,by simp⟩
  case round =>
    obtain ⟨k,hk,rfl,hown,hnx,hsz⟩:=hrel
    clear HM hmk
    by_cases hlt:k<n
    · obtain ⟨b,off,rfl,-,hb,hc⟩:=HS.out.at (by have:=HN.out;omega)
      obtain ⟨x,hx⟩:∃x,l[k]?=some x:=⟨_,List.getElem?_eq_getElem (by have:=HN.out;omega)⟩
      obtain ⟨s,hs⟩:∃s:ByteArray,s=bs x:=⟨_,rfl⟩
      have hss:s.size≤281474976710656:=by rw [hs,bs_size];have:=HX.out x (List.mem_of_getElem? hx);omega
      have hcell:wr.cell? ⟨b,off+k,none⟩=some (.string s):=by rw [hs,hnx.cell (p:=⟨b,off+k,none⟩) (by show b<_;omega)];exact hc k x hx
      have HNX:Hid ((scz l k n).set k (.string s)=scz l (k+1) n):=by show _=_;rw [hs];exact scz_next l k n x HN.out hx
      have HO:Hid (wr.ownsRow w.heap.size 9 1 (.slice (some ⟨w.heap.size,0,none⟩) n n) n (scz l k n)):=hown
      have HB:Hid (Below w.heap.size w wr):=hnx
      have k0:(0:Int)≤(k:Int):=by omega
      have k1:(k:Int)<(n:Int):=by omega
      clear hc hx hs hown hnx
      go_wp2_with fail
      refine (sclone_c s hss _).mono ?_
      rintro e w1 ⟨rfl,hb1⟩
      have HO1:Hid (w1.ownsRow w.heap.size 9 1 (.slice (some ⟨w.heap.size,0,none⟩) n n) n (scz l k n)):=own_stays HO.out hb1
      have HB1:Hid (Below w.heap.size w w1):=HB.out.trans (hb1.mono (by omega))
      have hsz1:w.heap.size<w1.heap.size:=Nat.lt_of_lt_of_le hsz hb1.size
      have fz:=fun j=>HO1.out.frozenAt j
      have ⟨vv,cc⟩:∃v,w1.cell? ⟨w.heap.size,k,none⟩=some v:=by
        have hlen:k<(scz l k n).length:=by rw [HO1.out.1];omega
        exact ⟨_,(HO1.out.cellAt k (by omega)).trans (List.getElem?_eq_getElem hlen)⟩
      clear hb1
      go_wp2
      go_roundw
      case rel =>
        refine ⟨k+1,by omega,by go_num,?_,HB1.out.setCell (p:=⟨w.heap.size,k,none⟩) (Nat.le_refl _) _,by simpa using hsz1⟩
        have:=HO1.out.stored k (.string s)
        rw [HNX.out] at this
        exact this.1
      case measure=>simp [intOf];omega
    · have hkn:k=n:=by omega
      subst hkn
      go_wp2
      go_ret
      exact ⟨w.heap.size,rfl,by rw [scz_all l k HN.out] at hown;exact hown,hnx⟩
def TrN (W:World) (b:Nat) (l:List (List UInt8)):Prop:=∃g,W.heap[b]?=some (.cells #[.int .i64 (l.length:Int),.int .u32 0,.int .i32 0,.int .u32 0,.slice (some ⟨g,0,none⟩) l.length l.length,.pointer none] 139 (0,0))∧W.ownsRow 0 9 1 (.slice (some ⟨g,0,none⟩) l.length l.length) l.length (scs l)
set_option maxHeartbeats 2000000 in
theorem new_yes (a:Option Addr) (c n:Nat) (hn:n≤1024) (H:Nat) (l:List (List UInt8)) (hx:∀x∈l,x.length≤140737488355328) (w:World) (hH:H≤w.heap.size) (h:Sl w H (.slice a n c) l) :
    Calls Tryz.prog 69 #[.slice a n c] w fun e w'=>∃b:Nat,e=.returned (.tuple #[.pointer (some ⟨b,0,none⟩),.int .i64 0])∧w.heap.size≤b∧TrN w' b l∧Below w.heap.size w w':=by
  have C:Hid (∀W,W=w→Calls Tryz.prog 99 #[.slice a n c] W fun e w'=>∃g,e=.returned (.slice (some ⟨g,0,none⟩) n n)∧w'.ownsRow w.heap.size 9 1 (.slice (some ⟨g,0,none⟩) n n) n (scs l)∧Below w.heap.size w w'):=fun W hW=>by
    subst hW;exact clones_c a c n H l (by have:=h.len;omega) hx W hH h
  have hn':¬(1024:Int)<(n:Int):=by omega
  have HN:Hid (n=l.length):=h.len
  clear h hx
  go_enter Tryz.func69,Tryz.ntmps69
  go_wp2_with fail
  refine (C.out _ rfl).mono ?_
  rintro e w1 ⟨g,rfl,ho,hb⟩
  have HO:Hid (w1.ownsRow w.heap.size 9 1 (.slice (some ⟨g,0,none⟩) n n) n (scs l)):=ho
  have HB:Hid (Below w.heap.size w w1):=hb
  clear ho hb
  go_wp2
  go_ret2
  refine ⟨w1.heap.size,rfl,HB.out.size,⟨g,?_,?_⟩,HB.out.alloc HB.out.size _⟩
  · rw [←HN.out];exact heap_alloc_new w1 _
  · rw [←HN.out];exact own_mono (HO.out.alloc _) (Nat.zero_le _)
end Go.Proofs.YtggnfejjcgbebaaGreatDoor
