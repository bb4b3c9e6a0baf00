/- Several texts, joined: JnLa, RgInv, JnLb -/
import Derived.Test.YtggnfejjcgbebaaGreatDoorJnZcM
import Derived.Test.YtggnfejjcgbebaaGreatDoorJIM
import Derived.Orders
import Derived.Deep.CutRange
/- The first frame of bytes that begin with one; the block of which 'lives' asks. -/
namespace Go.Proofs.YtggnfejjcgbebaaGreatDoor
open Go.RowKit
open Vl (V)
attribute [local go_sem ↓] Go.wp_at_zero Go.wp_at_succ
namespace Jn
theorem low_lt (n k:Nat):low n k<256:=Nat.mod_lt _ (by decide)
theorem unc_cnt (n:Nat) (h:n<4294967296):unc (cnt n)=n:=by
  have e:∀k,(UInt8.ofNat (low n k)).toNat=low n k:=fun k=>by
    have:=low_lt n k
    simp;omega
  simp only [cnt,unc,e]
  simp only [low]
  omega
theorem sealOf_size (c t:ByteArray):(sealOf c t).size=8:=by rw [sealOf,bs_size,List.length_take,Mk.sum_length];rfl
theorem cnt_size (n:Nat):(bs (cnt n)).size=4:=by rw [bs_size];rfl
theorem frameOf_size (t:ByteArray):(frameOf t).size=12+t.size:=by
  rw [frameOf,ByteArray.size_append,ByteArray.size_append,sealOf_size,cnt_size]
theorem ba_ext {a b:ByteArray} (h:a.data.toList=b.data.toList):a=b:=Bn.data_ext h
theorem app_list (a b:ByteArray):(a++b).data.toList=a.data.toList++b.data.toList:=by simp
theorem ext_list (a:ByteArray) (i j:Nat):(a.extract i j).data.toList=(a.data.toList.drop i).take (j - i):=by
  rw [ByteArray.data_extract,Array.toList_extract,List.extract_eq_take_drop]
theorem ff_frame (t r:ByteArray) (h:t.size≤16384):ff (frameOf t++r)=some t∧(frameOf t++r).extract (12+t.size) (frameOf t++r).size=r:=by
  obtain ⟨c,hc⟩:∃c,c=bs (cnt t.size):=⟨_,rfl⟩
  obtain ⟨k,hk⟩:∃k,k=sealOf c t:=⟨_,rfl⟩
  have hcs:c.size=4:=by rw [hc];exact cnt_size _
  have hks:k.size=8:=by rw [hk];exact sealOf_size _ _
  have hcl:c.data.toList.length=4:=by rw [←Lib.size_eq];exact hcs
  have hkl:k.data.toList.length=8:=by rw [←Lib.size_eq];exact hks
  have htl:t.data.toList.length=t.size:=by rw [←Lib.size_eq]
  have hf:frameOf t=(c++k)++t:=by rw [frameOf,←hc,←hk]
  have hl:(frameOf t++r).data.toList=c.data.toList++(k.data.toList++(t.data.toList++r.data.toList)):=by
    rw [hf,app_list,app_list,app_list];simp
  have hs:(frameOf t++r).size=12+t.size+r.size:=by rw [ByteArray.size_append,frameOf_size]
  have e1:(frameOf t++r).extract 0 4=c:=ba_ext (by rw [ext_list,hl,List.drop_zero,List.take_append_of_le_length (by omega),List.take_of_length_le (by omega)])
  have e2:(frameOf t++r).extract 4 12=k:=ba_ext (by
    rw [ext_list,hl,List.drop_append_of_le_length (by omega),List.drop_of_length_le (by omega),List.nil_append,List.take_append_of_le_length (by omega),List.take_of_length_le (by omega)])
  have d12:(frameOf t++r).data.toList.drop 12=t.data.toList++r.data.toList:=by
    rw [hl,←List.append_assoc,show 12=(c.data.toList++k.data.toList).length by rw [List.length_append];omega,List.drop_left]
  have e3:((frameOf t++r).extract 12 (frameOf t++r).size).extract 0 t.size=t:=ba_ext (by
    rw [ext_list,ext_list,d12,List.drop_zero,List.take_take,List.take_append_of_le_length (by rw [hs];omega),List.take_of_length_le (by rw [hs];omega)])
  have hu:unc c.data.toList=t.size:=by
    have h0:=unc_cnt t.size (by omega)
    rw [hc,data_bs];exact h0
  refine ⟨?_,ba_ext ?_⟩
  · rw [ff,if_neg (by rw [hs];omega),e1,hu,if_neg (by rw [hs];omega),e3,e2,if_pos hk.symm]
  · rw [ext_list,hl,←List.append_assoc,←List.append_assoc,show 12+t.size=((c.data.toList++k.data.toList)++t.data.toList).length by rw [List.length_append,List.length_append];omega,List.drop_left,List.take_of_length_le]
    rw [←Lib.size_eq,hs,List.length_append,List.length_append];omega
theorem frs_frame (t r:ByteArray) (h:t.size≤16384):frs (frameOf t++r)=t :: frs r:=by
  obtain ⟨h1,h2⟩:=ff_frame t r h
  rw [frs_some h1,h2]
theorem frs_short (r:ByteArray) (h:r.size<12):frs r=[]:=frs_none (by rw [ff,if_pos h])
def liveR:R:=⟨1,⟨#[116]⟩,0,0,⟨0,false,0,⟨#[]⟩,[],[]⟩⟩
def liveB:B:=made 1 ahead [] [liveR]
theorem live_rwhy:rwhy liveR=0:=by decide +kernel
theorem live_rbytes:Bn.bytes (rv liveR)=[6,5,3,2,4,1,116,3,0,3,0,0]:=by decide +kernel
theorem live_rcheck:Vl.check Bn.u8 0 (rv liveR)=0:=by decide +kernel
theorem live_rerr:rerr liveR=0∧rtext liveR=⟨#[6,5,3,2,4,1,116,3,0,3,0,0]⟩:=by
  obtain ⟨h1,h2⟩:=Bn.werr_ok live_rcheck (by rw [live_rbytes];decide)
  rw [live_rbytes] at h2
  have h3:rerr liveR=0:=by
    rw [rerr,if_neg (by rw [live_rwhy];decide),if_neg]
    rw [h1,h2];decide
  exact ⟨h3,by rw [rtext,if_pos h3,h2]⟩
theorem live_twhy:twhy ⟨1,ahead,ahead,[],[liveR]⟩=0:=by
  rw [twhy,if_neg (by decide),if_neg (by decide)]
  simp [first,live_rerr.1]
theorem live_bytes (rt:ByteArray) (h:rt.size=32):(Bn.bytes (lst [num 1,blob ahead,blob rt,lst [],lst [blob ⟨#[6,5,3,2,4,1,116,3,0,3,0,0]⟩]])).length≤16384:=by
  have h1:(Bn.bytes (num 1)).length≤100:=by decide +kernel
  have h2:(Bn.bytes (blob ahead)).length≤100:=by decide +kernel
  have h3:(Bn.bytes (lst [])).length≤100:=by decide +kernel
  have h4:(Bn.bytes (lst [blob ⟨#[6,5,3,2,4,1,116,3,0,3,0,0]⟩])).length≤100:=by decide +kernel
  have h5:(Bn.num 32).length≤100:=by decide +kernel
  have h6:(Bn.num 5).length≤100:=by decide +kernel
  have h7:(Bn.bytes (blob rt)).length≤200:=by
    have hl:rt.data.toList.length=32:=by rw [←Lib.size_eq];exact h
    simp [blob,Bn.bytes,Bn.text,h]
    omega
  rw [lst,Bn.bytes]
  simp only [Bn.bytesL,List.length_cons,List.length_nil] at *
  simp
  omega
theorem check_lst (d:Nat) (l:List V) (hd:d≤4) (hl:l.length≤64) (h:Vl.checkL Bn.u8 (d+1) l=0):Vl.check Bn.u8 d (lst l)=0:=by
  have he:({ data:=#[] }:ByteArray)=ByteArray.empty:=rfl
  have ha:Vl.alone Bn.u8 d ⟨5,false,0,⟨#[]⟩,l,[]⟩=0:=by
    simp [Vl.alone,Vl.strange,he]
    rw [if_neg (by omega),if_neg (by omega)]
  rw [lst,Vl.check,if_neg (by simp [ha]),if_neg (by simp [h]),Vl.checkF]
theorem check_blob (d:Nat) (s:ByteArray) (hs:s.size≤1024):Vl.check Bn.u8 d (blob s)=0:=by
  have ha:Vl.alone Bn.u8 d ⟨4,false,0,s,[],[]⟩=0:=by
    simp [Vl.alone,Vl.strange]
    omega
  rw [blob,Vl.check,if_neg (by simp [ha]),Vl.checkL,if_neg (by simp),Vl.checkF]
theorem live_check (rt:ByteArray) (h:rt.size=32):Vl.check Bn.u8 0 (lst [num 1,blob ahead,blob rt,lst [],lst [blob ⟨#[6,5,3,2,4,1,116,3,0,3,0,0]⟩]])=0:=by
  refine check_lst 0 _ (by omega) (by simp) ?_
  have h1:Vl.check Bn.u8 1 (num 1)=0:=by decide +kernel
  have h2:=check_blob 1 ahead (by decide)
  have h3:=check_blob 1 rt (by omega)
  have h4:Vl.check Bn.u8 1 (lst [])=0:=by decide +kernel
  have h5:Vl.check Bn.u8 1 (lst [blob ⟨#[6,5,3,2,4,1,116,3,0,3,0,0]⟩])=0:=by decide +kernel
  simp [Vl.checkL,h1,h2,h3,h4,h5]
theorem live_berr:berr liveB=0:=by
  rw [liveB,made_berr,if_neg (by rw [live_twhy];decide)]
  obtain ⟨rt,hrt⟩:∃rt,rt=rootOf ⟨1,ahead,ahead,[],[liveR]⟩:=⟨_,rfl⟩
  have hs:rt.size=32:=by rw [hrt];exact rootOf_size _
  have e:bv (made 1 ahead [] [liveR])=lst [num 1,blob ahead,blob rt,lst [],lst [blob ⟨#[6,5,3,2,4,1,116,3,0,3,0,0]⟩]]:=by
    rw [bv,made,←hrt]
    simp [live_rerr.2]
  rw [e]
  exact (Bn.werr_ok (live_check rt hs) (by have:=live_bytes rt hs;omega)).1
theorem live_root:liveB.root=bs (Sh.sum (0 :: (rtext liveR).data.toList)):=by
  show rootOf _=_
  rw [rootOf,texts]
  simp [Mk.root_one,Mk.leaf,Mk.leafT]
end Jn
end Go.Proofs.YtggnfejjcgbebaaGreatDoor
/- A region that draws its order, by an invariant: one obligation for each operation, whatever was carried out ahead of it. -/
namespace Go.Proofs.YtggnfejjcgbebaaGreatDoor
open Go.RowKit
section
variable {P:Program} {md:Region.Mode} {ops:Array Oper} {Q:Exit→Act→World→Prop}
theorem ready_open {listed:Array Bool} {i:Nat} (h:i∈Region.ready md ops listed):i<ops.size∧listed.getD i true=false:=by
  unfold Region.ready at h
  rw [List.mem_filter,List.mem_range] at h
  refine ⟨h.1,?_⟩
  have:=h.2
  simp only [Bool.and_eq_true,Bool.not_eq_true'] at this
  exact this.1
theorem getD_set (listed:Array Bool) (i j:Nat) (h:(listed.setIfInBounds i true).getD j true=false):j≠i∧listed.getD j true=false:=by
  simp only [Array.getD_eq_getD_getElem?,Array.getElem?_setIfInBounds] at h ⊢
  by_cases e:i=j
  · subst e
    rw [if_pos rfl] at h
    split at h
    · cases h
    · cases h
  · rw [if_neg e] at h
    exact ⟨fun q=>e q.symm,h⟩
theorem wpAny_inv (Inv:Array Bool→Act→World→Prop) (hdone:∀listed a w,Inv listed a w→Region.ready md ops listed=[]→Q .normal a w)
    (hstep:∀listed a w i,Inv listed a w→i∈Region.ready md ops listed→wpOp P ops Q i (Inv (listed.setIfInBounds i true)) a w) :
    ∀(fuel:Nat) (L:List Nat) (listed:Array Bool) (a:Act) (w:World),(∀j,j<ops.size→listed.getD j true=false→j∈L)→L.length≤fuel→Inv listed a w→wpAny P md ops Q fuel listed a w
  | 0,L,listed,a,w,hL,hl,hI=>by
    have h0:Region.ready md ops listed=[]:=by
      cases hr:Region.ready md ops listed with
      | nil=>rfl
      | cons i r =>
        exfalso
        have hi:i∈Region.ready md ops listed:=by rw [hr];simp
        have:=hL i (ready_open hi).1 (ready_open hi).2
        have hn:L=[]:=List.eq_nil_of_length_eq_zero (by omega)
        rw [hn] at this
        cases this
    exact ⟨h0,hdone _ _ _ hI h0⟩
  | fuel+1,L,listed,a,w,hL,hl,hI=>by
    refine ⟨hdone _ _ _ hI,fun i hi=>wpOp_mono (fun a' w' h'=>?_) (hstep _ _ _ i hI hi)⟩
    have hm:=hL i (ready_open hi).1 (ready_open hi).2
    refine wpAny_inv Inv hdone hstep fuel (L.erase i) _ a' w' (fun j hj hd=>?_) ?_ h'
    · obtain ⟨h1,h2⟩:=getD_set _ _ _ hd
      exact (List.mem_erase_of_ne h1).2 (hL j hj h2)
    · rw [List.length_erase_of_mem hm];omega
theorem wpOp_of {i:Nat} {o:Oper} {a:Act} {w:World} {K:Act→World→Prop} (ho:ops[i]?=some o) (hg:o.guard=none) (h:∀K':Act→World→Prop,(∀a w,K a w→K' a w)→o.wp P a w K' Q):wpOp P ops Q i K a w:=by
  unfold wpOp
  rw [ho]
  have hw:Region.wanted o (yielded ops a.tmps)=true:=by simp [Region.wanted,hg]
  simp only [hw,if_true]
  exact .inl (h K fun _ _ q=>q)
theorem wp_region_inv {id:Nat} {a:Act} {w:World} (hm:P.follows .mixedOrders=true) (Inv:Array Bool→Act→World→Prop) (h0:Inv (Array.replicate ops.size false) a w.drew)
    (hdone:∀listed a w,Inv listed a w→Region.ready .any ops listed=[]→Q .normal a w)
    (hstep:∀listed a w i,Inv listed a w→i∈Region.ready .any ops listed→wpOp P ops Q i (Inv (listed.setIfInBounds i true)) a w) :
    (Code.region id ops true).wp P Q a w :=
  wp_region_any hm (wpAny_inv Inv hdone hstep ops.size (List.range ops.size) _ a _ (fun j hj _=>List.mem_range.2 hj) (by simp) h0)
end
end Go.Proofs.YtggnfejjcgbebaaGreatDoor
/- What 'lives' asks of the journal. -/
namespace Go.Proofs.YtggnfejjcgbebaaGreatDoor
open Go.RowKit
open Vl (V)
attribute [local go_sem ↓] Go.wp_at_zero Go.wp_at_succ
set_option maxHeartbeats 2000000 in
theorem firstL_c (w:World):Calls Tryz.prog 54 #[] w fun e w'=>e=.returned (.string Jn.ahead)∧Below w.heap.size w w':=by
  obtain ⟨i0,hi,hz0,hz1,hz2⟩:=info_parts info5
  obtain ⟨M,hM⟩:∃M,M=madeCells (Value.int .u8 0).cells (32*i0.size):=⟨_,rfl⟩
  have hmk:∀u:World,(Instr.makeSlice 61 (.int .i64 32) (.int .i64 32)).run Tryz.prog u=.ok (.slice (some ⟨u.heap.size,0,none⟩) 32 32) (u.alloc (.cells M 5)):=fun u=>by
    have h:=run_make (P:=Tryz.prog) u 61 5 i0 (.int .u8 0) Tryz.underlying61 hi hz0 .i64 .i64 32 32 (by omega) (by omega) (by rw [hz2];omega) (by omega)
    rw [show (32:Int).toNat=32 by omega,←hM] at h
    exact h
  have HO:(w.alloc (.cells M 5)).ownsRow w.heap.size 5 1 (.slice (some ⟨w.heap.size,0,none⟩) 32 32) (List.replicate 32 (0:UInt8)).length (Lib.byteCells (List.replicate 32 (0:UInt8))):=by
    have e:M=(Lib.byteCells (List.replicate 32 (0:UInt8))).toArray:=by rw [hM,hz1];exact made_bytes 32
    rw [e]
    exact ⟨by simp [Lib.byteCells],.inr ⟨w.heap.size,32,_,rfl,Nat.le_refl _,heap_alloc_new w _,by simp,by unfold maxLen;omega,by simp [Lib.byteCells],by simp [Lib.byteCells]⟩⟩
  obtain ⟨g,n,cap,str,hv,hc,hs⟩:=own_string HO (by decide)
  injection hv with h1 h2 h3
  injection h1 with h1
  injection h1 with h1
  subst h1 h2 h3
  clear hM HO
  go_enter Tryz.func54,Tryz.ntmps54
  go_wp2
  go_ret
  exact ⟨by rw [hs.out];rfl,below_new _ _⟩
namespace Jn
theorem live_rng:rngB liveB:=by
  intro r hr
  have hr2:r∈[liveR]:=hr
  simp at hr2
  subst hr2
  rw [liveR,Bn.rng]
  exact ⟨by omega,rngL_of _ (fun x hx=>by cases hx),rngF_nil⟩
theorem B0_berr:berr B0=2:=by
  rw [berr,twhy,sizes,B0]
  simp
theorem live_took {ts:List ByteArray} {bs:List B} {s:ByteArray} (hs:s=frameOf (btext liveB)++⟨#[120]⟩) (h:Took ts bs) (hp:ts <+: frs s) (he:ts=frs s∨∃x,ts++[x] <+: frs s∧Ends bs x):bs.length=1∧total ts=(frameOf (btext liveB)).size:=by
  have hf:frs s=[btext liveB]:=by rw [hs,frs_frame _ _ (btext_size _),frs_short _ (by decide)]
  rw [hf] at hp he
  have hts:ts=[btext liveB]:=by
    rcases he with e | ⟨x,hx,hE⟩
    · exact e
    · exfalso
      have hl:=hx.length_le
      rw [List.length_append] at hl
      have h0:ts=[]:=List.eq_nil_of_length_eq_zero (by simp only [List.length_cons,List.length_nil] at hl;omega)
      subst h0
      have hb:bs=[]:=List.eq_nil_of_length_eq_zero (by rw [←h.len];rfl)
      subst hb
      obtain ⟨r,er⟩:=hx
      simp at er
      exact hE liveB live_berr live_rng er.1.symm rfl rfl
  subst hts
  exact ⟨by rw [←h.len];rfl,by rw [frameOf_size];simp [total]⟩
end Jn
structure LV (w W:World):Prop where
  below:Below w.heap.size w W
  box:W.heap[w.heap.size]?=some (.cells #[.int .u8 1,.string ⟨#[116]⟩,.int .u64 0,.int .u64 0,.int .u8 0,.bool false,.int .i64 0,.string ⟨#[]⟩,.slice none 0 0,.slice none 0 0] 34 (0,0))
theorem LV.call {w W W':World} (h:LV w W) (hb:Below W.heap.size W W'):LV w W':=⟨h.below.trans (hb.mono h.below.size),blk_call h.box hb⟩
theorem LV.drew {w W:World} (h:LV w W):LV w W.drew:=⟨h.below.drew,h.box⟩
theorem LV.set {w W:World} {k:Nat} (h:LV w W) (hk:w.heap.size<k) (vs:List Value):LV w (W.setCells k 0 vs):=⟨below_setCellsV (by omega) _ _ h.below,(setCells_block (by omega) _).trans h.box⟩
theorem sl_none (W:World):Sl W W.heap.size (.slice none 0 0) []:=own_sl (base:=0) (l:=[]) ⟨rfl,.inl ⟨rfl,rfl⟩⟩
theorem LV.cells {w W:World} (h:LV w W):W.cell? ⟨w.heap.size,0,none⟩=some (.int .u8 1)∧W.cell? ⟨w.heap.size,1,none⟩=some (.string ⟨#[116]⟩)∧W.cell? ⟨w.heap.size,2,none⟩=some (.int .u64 0)∧W.cell? ⟨w.heap.size,3,none⟩=some (.int .u64 0)∧W.cell? ⟨w.heap.size,4,none⟩=some (.int .u8 0)∧W.cell? ⟨w.heap.size,5,none⟩=some (.bool false)∧W.cell? ⟨w.heap.size,6,none⟩=some (.int .i64 0)∧W.cell? ⟨w.heap.size,7,none⟩=some (.string ⟨#[]⟩)∧W.cell? ⟨w.heap.size,8,none⟩=some (.slice none 0 0)∧W.cell? ⟨w.heap.size,9,none⟩=some (.slice none 0 0) :=
  ⟨block_cells h.box 0 _ rfl,block_cells h.box 1 _ rfl,block_cells h.box 2 _ rfl,block_cells h.box 3 _ rfl,block_cells h.box 4 _ rfl,block_cells h.box 5 _ rfl,block_cells h.box 6 _ rfl,block_cells h.box 7 _ rfl,block_cells h.box 8 _ rfl,block_cells h.box 9 _ rfl⟩
structure LI (w:World) (ah rt:ByteArray) (l0 l1 l2 l3 l4 l5 l6 l7 l8 l9:Bool) (s2 s3 s11 s12 s13 s14 s15 s16 s17:Value) (g k:Nat) (sa:Option Addr) (sn sc:Nat) (ra:Option Addr) (rn rc:Nat) (W:World):Prop where
  lv:LV w W
  h0:l0=true→s12=.string ah
  h1:l1=true→s13=.agg #[.int .u8 1,.string ⟨#[116]⟩,.int .u64 0,.int .u64 0,.int .u8 0,.bool false,.int .i64 0,.string ⟨#[]⟩,.slice none 0 0,.slice none 0 0]
  h2:l2=true→s14=.slice (some ⟨g,0,none⟩) 1 1∧W.heap[g]?=some (.cells #[.int .u8 1,.string ⟨#[116]⟩,.int .u64 0,.int .u64 0,.int .u8 0,.bool false,.int .i64 0,.string ⟨#[]⟩,.slice none 0 0,.slice none 0 0] 34 (0,0))∧(l7=true→g≠k)
  h3:l3=true→s15=.tuple #[.agg #[.int .u64 1,.string ah,.string rt,.slice sa sn sc,.slice ra rn rc],.int .i64 0]∧∃A,BkI W A Jn.liveB (.slice sa sn sc) (.slice ra rn rc)∧(l7=true→¬A k)
  h4:l4=true→s11=.tuple #[.agg #[.int .u64 1,.string ah,.string rt,.slice sa sn sc,.slice ra rn rc],.int .i64 0]
  h5:l5=true→s16=.agg #[.int .u64 1,.string ah,.string rt,.slice sa sn sc,.slice ra rn rc]
  h6:l6=true→s17=.int .i64 0
  h7:l7=true→s2=.pointer (some ⟨k,0,none⟩)∧w.heap.size<k∧∃c0 c1 c2 c3 c4,W.heap[k]?=some (.cells #[c0,c1,c2,c3,c4] 26 (0,0))
  h8:l8=true→W.heap[k]?=some (.cells #[.int .u64 1,.string ah,.string rt,.slice sa sn sc,.slice ra rn rc] 26 (0,0))
  h9:l9=true→s3=.int .i64 0
  ord:(l4=true→l3=true)∧(l5=true→l3=true)∧(l8=true→l3=true)∧(l8=true→l7=true)
theorem LI.call {w W W':World} {ah rt:ByteArray} {l0 l1 l2 l3 l4 l5 l6 l7 l8 l9:Bool} {s2 s3 s11 s12 s13 s14 s15 s16 s17:Value} {g k:Nat} {sa:Option Addr} {sn sc:Nat} {ra:Option Addr} {rn rc:Nat} (h:LI w ah rt l0 l1 l2 l3 l4 l5 l6 l7 l8 l9 s2 s3 s11 s12 s13 s14 s15 s16 s17 g k sa sn sc ra rn rc W) (hb:Below W.heap.size W W'):LI w ah rt l0 l1 l2 l3 l4 l5 l6 l7 l8 l9 s2 s3 s11 s12 s13 s14 s15 s16 s17 g k sa sn sc ra rn rc W' :=
  ⟨h.lv.call hb,h.h0,h.h1,fun q=>⟨(h.h2 q).1,blk_call (h.h2 q).2.1 hb,(h.h2 q).2.2⟩,fun q=>⟨(h.h3 q).1,(h.h3 q).2.imp fun _ hA=>⟨hA.1.stays fun x hx=>hb.block x (hA.1.cells x hx).lt,hA.2⟩⟩,h.h4,h.h5,h.h6,fun q=>⟨(h.h7 q).1,(h.h7 q).2.1,by
    obtain ⟨c0,c1,c2,c3,c4,e⟩:=(h.h7 q).2.2
    exact ⟨c0,c1,c2,c3,c4,blk_call e hb⟩⟩,fun q=>blk_call (h.h8 q) hb,h.h9,h.ord⟩
theorem LI.put {w W:World} {ah rt:ByteArray} {l0 l1 l2 l3 l4 l5 l6 l7 l8 l9:Bool} {s2 s3 s11 s12 s13 s14 s15 s16 s17:Value} {g k:Nat} {sa:Option Addr} {sn sc:Nat} {ra:Option Addr} {rn rc:Nat} (h:LI w ah rt l0 l1 l2 l3 l4 l5 l6 l7 l8 l9 s2 s3 s11 s12 s13 s14 s15 s16 s17 g k sa sn sc ra rn rc W) (q7:l7=true) (q3:l3=true):LI w ah rt l0 l1 l2 l3 l4 l5 l6 l7 true l9 s2 s3 s11 s12 s13 s14 s15 s16 s17 g k sa sn sc ra rn rc (W.setCells k 0 [.int .u64 1,.string ah,.string rt,.slice sa sn sc,.slice ra rn rc]):=by
  obtain ⟨c0,c1,c2,c3,c4,e⟩:=(h.h7 q7).2.2
  have o:∀x,x≠k→(W.setCells k 0 [.int .u64 1,.string ah,.string rt,.slice sa sn sc,.slice ra rn rc]).heap[x]?=W.heap[x]?:=fun x hx=>setCells_block hx _
  have f:=putB5 e (.int .u64 1) (.string ah) (.string rt) (.slice sa sn sc) (.slice ra rn rc)
  obtain ⟨w6,hw6⟩:∃w6,w6=W.setCells k 0 [.int .u64 1,.string ah,.string rt,.slice sa sn sc,.slice ra rn rc]:=⟨_,rfl⟩
  have lv:=h.lv.set (h.h7 q7).2.1 [.int .u64 1,.string ah,.string rt,.slice sa sn sc,.slice ra rn rc]
  rw [←hw6] at o f lv ⊢
  exact ⟨lv,h.h0,h.h1,fun q=>⟨(h.h2 q).1,(o g ((h.h2 q).2.2 q7)).trans (h.h2 q).2.1,(h.h2 q).2.2⟩,fun q=>⟨(h.h3 q).1,(h.h3 q).2.imp fun _ hA=>⟨hA.1.stays fun x hx=>o x fun e=>hA.2 q7 (e ▸ hx),hA.2⟩⟩,h.h4,h.h5,h.h6,fun _=>⟨(h.h7 q7).1,(h.h7 q7).2.1,_,_,_,_,_,f⟩,fun _=>f,h.h9,h.ord.1,h.ord.2.1,fun _=>q3,fun _=>q7⟩
set_option maxHeartbeats 3000000 in
set_option maxRecDepth 100000 in
theorem livesJ_c (w:World) (hU:Bn.HasU w) (hK:HasK w):Calls Tryz.prog 15 #[] w fun e w'=>e=.returned (.bool true)∧Below w.heap.size w w':=by
  have HU:Hid (∀W,Below w.heap.size w W→Bn.HasU W):=fun W hW=>hU.stays hW
  have HK:Hid (∀W,Below w.heap.size w W→HasK W):=fun W hW=>hK.below hK.1 hW
  have CF:Hid (∀W,Calls Tryz.prog 54 #[] W fun e w'=>e=.returned (.string Jn.ahead)∧Below W.heap.size W w'):=fun W=>firstL_c W
  have CM:Hid (∀W g,Below w.heap.size w W→W.heap[g]?=some (.cells #[.int .u8 1,.string ⟨#[116]⟩,.int .u64 0,.int .u64 0,.int .u8 0,.bool false,.int .i64 0,.string ⟨#[]⟩,.slice none 0 0,.slice none 0 0] 34 (0,0))→Calls Tryz.prog 5 #[.int .u64 1,.string Jn.ahead,.slice none 0 0,.slice (some ⟨g,0,none⟩) 1 1] W fun e w'=>Below W.heap.size W w'∧∃(sa:Option Addr) (sn sc:Nat) (ra:Option Addr) (rn rc:Nat),e=.returned (.tuple #[.agg #[.int .u64 1,.string Jn.ahead,.string Jn.liveB.root,.slice sa sn sc,.slice ra rn rc],.int .i64 0])∧BkN w' W.heap.size Jn.liveB (.slice sa sn sc) (.slice ra rn rc)):=fun W g hW hg=>by
    have h:=make_c 1 Jn.ahead [] [Jn.liveR] none 0 0 (some ⟨g,0,none⟩) 1 1 W (HU.out W hW) (HK.out W hW) ⟨by decide,by decide,by decide,sl_none _,fun s h=>(by cases h),rfl,by decide,fun _=>⟨g,0,rfl,(Array.getElem?_eq_some_iff.1 hg).1,fun i r hi=>(by
      cases i with
      | succ i=>simp at hi
      | zero =>
        simp at hi
        subst hi
        exact ⟨0,false,0,⟨#[]⟩,none,0,0,none,0,0,block_cells hg 0 _ rfl,block_cells hg 1 _ rfl,block_cells hg 2 _ rfl,block_cells hg 3 _ rfl,block_cells hg 4 _ rfl,block_cells hg 5 _ rfl,block_cells hg 6 _ rfl,block_cells hg 7 _ rfl,block_cells hg 8 _ rfl,block_cells hg 9 _ rfl,repA_rep (A:=fun _=>False) (fun g (h:False)=>h.elim) _ _ (repA_zero W _),rfl,by decide,by decide,by decide,by decide⟩)⟩⟩
    refine h.mono ?_
    rintro e w' ⟨hb,h2⟩
    rcases h2 with ⟨_,sv,rv,rfl,hn⟩ | ⟨h0,_⟩
    · obtain ⟨sa,sn,sc,rfl⟩:∃a n c,sv=.slice a n c:=by obtain ⟨a,c,e⟩:=own_slc hn.row3;exact ⟨a,_,c,e⟩
      obtain ⟨ra,rn,rc,rfl⟩:∃a n c,rv=.slice a n c:=by obtain ⟨cs,ho,_⟩:=hn.row4;obtain ⟨a,c,e⟩:=own_slc ho;exact ⟨a,_,c,e⟩
      exact ⟨hb,sa,sn,sc,ra,rn,rc,rfl,hn⟩
    · exact absurd Jn.live_berr h0
  obtain ⟨w1,hw1⟩:∃w1,w1=w.alloc (.cells #[.int .u8 1,.string ⟨#[116]⟩,.int .u64 0,.int .u64 0,.int .u8 0,.bool false,.int .i64 0,.string ⟨#[]⟩,.slice none 0 0,.slice none 0 0] 34):=⟨_,rfl⟩
  have S1:Hid (LV w w1):=by rw [hw1];exact ⟨below_new _ _,heap_alloc_new w _⟩
  obtain ⟨ah,hah⟩:∃ah,ah=Jn.ahead:=⟨_,rfl⟩
  obtain ⟨rt,hrt⟩:∃rt,rt=Jn.liveB.root:=⟨_,rfl⟩
  rw [←hah] at CF CM
  rw [←hrt] at CM
  have HAH:Hid (ah=Jn.ahead):=hah
  have HRT:Hid (rt=Jn.liveB.root):=hrt
  clear hU hK hah hrt
  go_enter Tryz.func15,Tryz.ntmps15
  go_upto_region 2 with fail
  rw [←hw1]
  clear hw1
  obtain ⟨p0,p1,p2,p3,p4,p5,p6,p7,p8,p9⟩:=S1.out.cells
  have lt1:w.heap.size<w1.heap.size:=(Array.getElem?_eq_some_iff.1 S1.out.box).1
  go_cut [2,3] from 11 to 17 (fun s2 s3 wx=>∃(X:Nat) (sa:Option Addr) (sn sc:Nat) (ra:Option Addr) (rn rc:Nat),s2=.pointer (some ⟨X,0,none⟩)∧s3=.int .i64 0∧LV w wx∧wx.heap[X]?=some (.cells #[.int .u64 1,.string ah,.string rt,.slice sa sn sc,.slice ra rn rc] 26 (0,0))∧BkN wx 0 Jn.liveB (.slice sa sn sc) (.slice ra rn rc))
  case first =>
    refine wp_region_inv (by kernel_rfl) (fun listed a W=>∃(l0 l1 l2 l3 l4 l5 l6 l7 l8 l9:Bool) (s2 s3 s11 s12 s13 s14 s15 s16 s17:Value) (g k:Nat) (sa:Option Addr) (sn sc:Nat) (ra:Option Addr) (rn rc:Nat),listed=#[l0,l1,l2,l3,l4,l5,l6,l7,l8,l9]∧a={ tmps:=#[.bool false,.pointer (some ⟨w.heap.size,0,none⟩),s2,s3,undef,undef,undef,undef,undef,undef,.agg #[.int .u8 1,.string ⟨#[116]⟩,.int .u64 0,.int .u64 0,.int .u8 0,.bool false,.int .i64 0,.string ⟨#[]⟩,.slice none 0 0,.slice none 0 0],s11,s12,s13,s14,s15,s16,s17,undef,undef,undef,undef,undef,undef,undef,undef,undef,undef,undef,undef,undef,undef,undef,undef,undef,undef,undef,undef,undef,undef,undef,undef,undef,undef,undef,undef,undef,undef,undef,undef,undef,undef,undef,undef,undef,undef,undef,undef,undef,undef,undef,undef,undef,undef,undef,undef,undef,undef],defers:=[] }∧LI w ah rt l0 l1 l2 l3 l4 l5 l6 l7 l8 l9 s2 s3 s11 s12 s13 s14 s15 s16 s17 g k sa sn sc ra rn rc W) ?hinit ?hdone ?hstep
    case hinit =>
      exact ⟨false,false,false,false,false,false,false,false,false,false,undef,undef,undef,undef,undef,undef,undef,undef,undef,0,0,none,0,0,none,0,0,rfl,rfl,S1.out.drew,fun h=>(by cases h),fun h=>(by cases h),fun h=>(by cases h),fun h=>(by cases h),fun h=>(by cases h),fun h=>(by cases h),fun h=>(by cases h),fun h=>(by cases h),fun h=>(by cases h),fun h=>(by cases h),fun h=>(by cases h),fun h=>(by cases h),fun h=>(by cases h),fun h=>(by cases h)⟩
    case hdone =>
      rintro listed a W ⟨l0,l1,l2,l3,l4,l5,l6,l7,l8,l9,s2,s3,s11,s12,s13,s14,s15,s16,s17,g,k,sa,sn,sc,ra,rn,rc,rfl,rfl,hI⟩ hr
      simp [Region.ready,Region.binds] at hr
      obtain rfl:l0=true:=by
        cases l0 with
        | true=>rfl
        | false=>exact absurd (hr 0 (by omega) rfl) (by simp)
      obtain rfl:l1=true:=by
        cases l1 with
        | true=>rfl
        | false=>exact absurd (hr 1 (by omega) rfl) (by simp)
      obtain rfl:l2=true:=by
        cases l2 with
        | true=>rfl
        | false=>exact absurd (hr 2 (by omega) rfl) (by simp)
      obtain rfl:l3=true:=by
        cases l3 with
        | true=>rfl
        | false=>exact absurd (hr 3 (by omega) rfl) (by simp)
      obtain rfl:l4=true:=by
        cases l4 with
        | true=>rfl
        | false=>exact absurd (hr 4 (by omega) rfl) (by simp)
      obtain rfl:l5=true:=by
        cases l5 with
        | true=>rfl
        | false=>exact absurd (hr 5 (by omega) rfl) (by simp)
      obtain rfl:l6=true:=by
        cases l6 with
        | true=>rfl
        | false=>exact absurd (hr 6 (by omega) rfl) (by simp)
      obtain rfl:l7=true:=by
        cases l7 with
        | true=>rfl
        | false=>exact absurd (hr 7 (by omega) rfl) (by simp)
      obtain rfl:l8=true:=by
        cases l8 with
        | true=>rfl
        | false=>exact absurd (hr 8 (by omega) rfl) (by simp)
      obtain rfl:l9=true:=by
        cases l9 with
        | true=>rfl
        | false=>exact absurd (hr 9 (by omega) rfl) (by simp)
      obtain ⟨rfl,hk,_⟩:=hI.h7 rfl
      obtain rfl:=hI.h9 rfl
      obtain ⟨_,A,hA,_⟩:=hI.h3 rfl
      have FIN:Hid (LV w W∧W.heap[k]?=some (.cells #[.int .u64 1,.string ah,.string rt,.slice sa sn sc,.slice ra rn rc] 26 (0,0))∧BkN W 0 Jn.liveB (.slice sa sn sc) (.slice ra rn rc)):=⟨hI.lv,hI.h8 rfl,hA.bkn⟩
      clear hI hr hA hk
      dsimp only
      go_wp2_with fail
      go_meet
      first
        | exact ⟨k,sa,sn,sc,ra,rn,rc,rfl,rfl,FIN.out.1,FIN.out.2.1,FIN.out.2.2⟩
        | (repeat apply Exists.intro);exact ⟨⟨k,sa,sn,sc,ra,rn,rc,rfl,rfl,FIN.out.1,FIN.out.2.1,FIN.out.2.2⟩,rfl⟩
    case hstep =>
      rintro listed a W i ⟨l0,l1,l2,l3,l4,l5,l6,l7,l8,l9,s2,s3,s11,s12,s13,s14,s15,s16,s17,g,k,sa,sn,sc,ra,rn,rc,rfl,rfl,hI⟩ hi
      have hi10:i<10:=(ready_open hi).1
      rcases (show i=0∨i=1∨i=2∨i=3∨i=4∨i=5∨i=6∨i=7∨i=8∨i=9 by omega) with rfl | rfl | rfl | rfl | rfl | rfl | rfl | rfl | rfl | rfl
      · simp [Region.ready,Region.binds] at hi
        refine wpOp_of rfl rfl ?_
        intro K' hK'
        have HK':Hid _:=hK'
        clear hK'
        change Oper.wp _ ⟨_,_,_,_,_,_⟩ _ _ _ _
        dsimp only
        have HI:Hid _:=hI
        clear hI
        go_simp
        go_at_call 54
        refine (CF.out _).mono ?_
        rintro e wa ⟨rfl,hba⟩
        have hI:=HI.out.call hba
        refine HK'.out _ _ ?_
        exact ⟨true,l1,l2,l3,l4,l5,l6,l7,l8,l9,s2,s3,s11,.string ah,s13,s14,s15,s16,s17,g,k,sa,sn,sc,ra,rn,rc,rfl,rfl,⟨hI.lv,fun _=>rfl,hI.h1,hI.h2,hI.h3,hI.h4,hI.h5,hI.h6,hI.h7,hI.h8,hI.h9,hI.ord⟩⟩
      · simp [Region.ready,Region.binds] at hi
        refine wpOp_of rfl rfl ?_
        intro K' hK'
        have HK':Hid _:=hK'
        clear hK'
        change Oper.wp _ ⟨_,_,_,_,_,_⟩ _ _ _ _
        dsimp only
        obtain ⟨r0,r1,r2,r3,r4,r5,r6,r7,r8,r9⟩:=hI.lv.cells
        have HI:Hid _:=hI
        clear hI
        go_simp
        have hI:=HI.out
        refine HK'.out _ _ ?_
        exact ⟨l0,true,l2,l3,l4,l5,l6,l7,l8,l9,s2,s3,s11,s12,.agg #[.int .u8 1,.string ⟨#[116]⟩,.int .u64 0,.int .u64 0,.int .u8 0,.bool false,.int .i64 0,.string ⟨#[]⟩,.slice none 0 0,.slice none 0 0],s14,s15,s16,s17,g,k,sa,sn,sc,ra,rn,rc,rfl,rfl,⟨hI.lv,hI.h0,fun _=>rfl,hI.h2,hI.h3,hI.h4,hI.h5,hI.h6,hI.h7,hI.h8,hI.h9,hI.ord⟩⟩
      · simp [Region.ready,Region.binds] at hi
        refine wpOp_of rfl rfl ?_
        intro K' hK'
        have HK':Hid _:=hK'
        clear hK'
        change Oper.wp _ ⟨_,_,_,_,_,_⟩ _ _ _ _
        dsimp only
        obtain rfl:=hI.h1 (by simp [hi])
        have HI:Hid _:=hI
        have hi2:=hi
        clear hI hi
        go_simp
        have hI:=HI.out.call (below_new W (.cells #[.int .u8 1,.string ⟨#[116]⟩,.int .u64 0,.int .u64 0,.int .u8 0,.bool false,.int .i64 0,.string ⟨#[]⟩,.slice none 0 0,.slice none 0 0] 34))
        refine HK'.out _ _ ?_
        exact ⟨l0,l1,true,l3,l4,l5,l6,l7,l8,l9,s2,s3,s11,s12,.agg #[.int .u8 1,.string ⟨#[116]⟩,.int .u64 0,.int .u64 0,.int .u8 0,.bool false,.int .i64 0,.string ⟨#[]⟩,.slice none 0 0,.slice none 0 0],.slice (some ⟨W.heap.size,0,none⟩) 1 1,s15,s16,s17,W.heap.size,k,sa,sn,sc,ra,rn,rc,rfl,rfl,⟨hI.lv,hI.h0,hI.h1,fun _=>⟨rfl,heap_alloc_new W _,fun q=>(by obtain ⟨_,_,c0,c1,c2,c3,c4,e⟩:=HI.out.h7 q;have:=(Array.getElem?_eq_some_iff.1 e).1;omega)⟩,hI.h3,hI.h4,hI.h5,hI.h6,hI.h7,hI.h8,hI.h9,hI.ord⟩⟩
      · simp [Region.ready,Region.binds] at hi
        refine wpOp_of rfl rfl ?_
        intro K' hK'
        have HK':Hid _:=hK'
        clear hK'
        change Oper.wp _ ⟨_,_,_,_,_,_⟩ _ _ _ _
        dsimp only
        obtain rfl:=hI.h0 (by simp [hi])
        obtain ⟨rfl,hg,hgk⟩:=hI.h2 (by simp [hi])
        have q3:l3=false:=by simp [hi]
        have C:=CM.out W g hI.lv.below hg
        have HI:Hid _:=hI
        clear hI hi hg hgk
        go_simp
        go_at_call 5
        refine C.mono ?_
        rintro e wm ⟨hbm,sa',sn',sc',ra',rn',rc',rfl,hbn⟩
        have hI:=HI.out.call hbm
        have nk:∀P:Prop,l3=true→P:=fun P h=>by rw [q3] at h;cases h
        refine HK'.out _ _ ?_
        exact ⟨l0,l1,l2,true,l4,l5,l6,l7,l8,l9,s2,s3,s11,.string ah,s13,.slice (some ⟨g,0,none⟩) 1 1,.tuple #[.agg #[.int .u64 1,.string ah,.string rt,.slice sa' sn' sc',.slice ra' rn' rc'],.int .i64 0],s16,s17,g,k,sa',sn',sc',ra',rn',rc',rfl,rfl,⟨hI.lv,hI.h0,hI.h1,hI.h2,fun _=>⟨rfl,_,hbn.bki,fun q hA=>(by obtain ⟨_,_,c0,c1,c2,c3,c4,e⟩:=HI.out.h7 q;have:=(Array.getElem?_eq_some_iff.1 e).1;have:=hA.1;omega)⟩,fun q=>nk _ (hI.ord.1 q),fun q=>nk _ (hI.ord.2.1 q),hI.h6,hI.h7,fun q=>nk _ (hI.ord.2.2.1 q),hI.h9,fun _=>rfl,fun _=>rfl,fun _=>rfl,hI.ord.2.2.2⟩⟩
      · simp [Region.ready,Region.binds] at hi
        refine wpOp_of rfl rfl ?_
        intro K' hK'
        have HK':Hid _:=hK'
        clear hK'
        change Oper.wp _ ⟨_,_,_,_,_,_⟩ _ _ _ _
        dsimp only
        have q3:l3=true:=by simp [hi]
        obtain ⟨rfl,hA⟩:=hI.h3 q3
        have HI:Hid _:=hI
        clear hI hA hi
        go_simp
        have hI:=HI.out
        refine HK'.out _ _ ?_
        exact ⟨l0,l1,l2,l3,true,l5,l6,l7,l8,l9,s2,s3,.tuple #[.agg #[.int .u64 1,.string ah,.string rt,.slice sa sn sc,.slice ra rn rc],.int .i64 0],s12,s13,s14,.tuple #[.agg #[.int .u64 1,.string ah,.string rt,.slice sa sn sc,.slice ra rn rc],.int .i64 0],s16,s17,g,k,sa,sn,sc,ra,rn,rc,rfl,rfl,⟨hI.lv,hI.h0,hI.h1,hI.h2,hI.h3,fun _=>rfl,hI.h5,hI.h6,hI.h7,hI.h8,hI.h9,fun _=>q3,hI.ord.2⟩⟩
      · simp [Region.ready,Region.binds] at hi
        refine wpOp_of rfl rfl ?_
        intro K' hK'
        have HK':Hid _:=hK'
        clear hK'
        change Oper.wp _ ⟨_,_,_,_,_,_⟩ _ _ _ _
        dsimp only
        have q4:l4=true:=by simp [hi]
        obtain rfl:=hI.h4 q4
        have HI:Hid _:=hI
        clear hI hi
        go_simp
        have hI:=HI.out
        refine HK'.out _ _ ?_
        exact ⟨l0,l1,l2,l3,l4,true,l6,l7,l8,l9,s2,s3,.tuple #[.agg #[.int .u64 1,.string ah,.string rt,.slice sa sn sc,.slice ra rn rc],.int .i64 0],s12,s13,s14,s15,.agg #[.int .u64 1,.string ah,.string rt,.slice sa sn sc,.slice ra rn rc],s17,g,k,sa,sn,sc,ra,rn,rc,rfl,rfl,⟨hI.lv,hI.h0,hI.h1,hI.h2,hI.h3,hI.h4,fun _=>rfl,hI.h6,hI.h7,hI.h8,hI.h9,hI.ord.1,fun _=>hI.ord.1 q4,hI.ord.2.2⟩⟩
      · simp [Region.ready,Region.binds] at hi
        refine wpOp_of rfl rfl ?_
        intro K' hK'
        have HK':Hid _:=hK'
        clear hK'
        change Oper.wp _ ⟨_,_,_,_,_,_⟩ _ _ _ _
        dsimp only
        have q4:l4=true:=by simp [hi]
        obtain rfl:=hI.h4 q4
        have HI:Hid _:=hI
        clear hI hi
        go_simp
        have hI:=HI.out
        refine HK'.out _ _ ?_
        exact ⟨l0,l1,l2,l3,l4,l5,true,l7,l8,l9,s2,s3,.tuple #[.agg #[.int .u64 1,.string ah,.string rt,.slice sa sn sc,.slice ra rn rc],.int .i64 0],s12,s13,s14,s15,s16,.int .i64 0,g,k,sa,sn,sc,ra,rn,rc,rfl,rfl,⟨hI.lv,hI.h0,hI.h1,hI.h2,hI.h3,hI.h4,hI.h5,fun _=>rfl,hI.h7,hI.h8,hI.h9,hI.ord⟩⟩
      · simp [Region.ready,Region.binds] at hi
        refine wpOp_of rfl rfl ?_
        intro K' hK'
        have HK':Hid _:=hK'
        clear hK'
        change Oper.wp _ ⟨_,_,_,_,_,_⟩ _ _ _ _
        dsimp only
        have q7:l7=false:=by simp [hi]
        have HI:Hid _:=hI
        clear hI hi
        go_simp
        have hI:=HI.out.call (below_new W (.cells #[.int .u64 0,.string ⟨#[]⟩,.string ⟨#[]⟩,.slice none 0 0,.slice none 0 0] 26))
        have n8:∀P:Prop,l8=true→P:=fun P h=>by have:=hI.ord.2.2.2 h;rw [q7] at this;cases this
        have lw:=(Array.getElem?_eq_some_iff.1 HI.out.lv.box).1
        refine HK'.out _ _ ?_
        exact ⟨l0,l1,l2,l3,l4,l5,l6,true,l8,l9,.pointer (some ⟨W.heap.size,0,none⟩),s3,s11,s12,s13,s14,s15,s16,s17,g,W.heap.size,sa,sn,sc,ra,rn,rc,rfl,rfl,⟨hI.lv,hI.h0,hI.h1,fun q=>⟨(hI.h2 q).1,(hI.h2 q).2.1,fun _=>(by have:=(Array.getElem?_eq_some_iff.1 (HI.out.h2 q).2.1).1;omega)⟩,fun q=>⟨(hI.h3 q).1,(HI.out.h3 q).2.imp fun _ hA=>⟨hA.1.stays fun x hx=>(below_new W _).block x (hA.1.cells x hx).lt,fun _ hx=>(by have:=(hA.1.cells _ hx).lt;omega)⟩⟩,hI.h4,hI.h5,hI.h6,fun _=>⟨rfl,lw,_,_,_,_,_,heap_alloc_new W _⟩,fun q=>n8 _ q,hI.h9,hI.ord.1,hI.ord.2.1,hI.ord.2.2.1,fun _=>rfl⟩⟩
      · simp [Region.ready,Region.binds] at hi
        refine wpOp_of rfl rfl ?_
        intro K' hK'
        have HK':Hid _:=hK'
        clear hK'
        change Oper.wp _ ⟨_,_,_,_,_,_⟩ _ _ _ _
        dsimp only
        have q7:l7=true:=by simp [hi]
        have q5:l5=true:=by simp [hi]
        obtain rfl:=hI.h5 q5
        obtain ⟨rfl,hk,c0,c1,c2,c3,c4,e⟩:=hI.h7 q7
        have z0:=block_cells e 0 _ rfl
        have z1:=block_cells e 1 _ rfl
        have z2:=block_cells e 2 _ rfl
        have z3:=block_cells e 3 _ rfl
        have z4:=block_cells e 4 _ rfl
        have fx:=row_freeV e
        have HI:Hid _:=hI.put q7 (hI.ord.2.1 q5)
        clear hI hi e hk
        go_simp
        rw [setsB5]
        have hI:=HI.out
        refine HK'.out _ _ ?_
        exact ⟨l0,l1,l2,l3,l4,l5,l6,l7,true,l9,.pointer (some ⟨k,0,none⟩),s3,s11,s12,s13,s14,s15,.agg #[.int .u64 1,.string ah,.string rt,.slice sa sn sc,.slice ra rn rc],s17,g,k,sa,sn,sc,ra,rn,rc,rfl,rfl,hI⟩
      · simp [Region.ready,Region.binds] at hi
        refine wpOp_of rfl rfl ?_
        intro K' hK'
        have HK':Hid _:=hK'
        clear hK'
        change Oper.wp _ ⟨_,_,_,_,_,_⟩ _ _ _ _
        dsimp only
        obtain rfl:=hI.h6 (by simp [hi])
        have HI:Hid _:=hI
        clear hI hi
        go_simp
        have hI:=HI.out
        refine HK'.out _ _ ?_
        exact ⟨l0,l1,l2,l3,l4,l5,l6,l7,l8,true,s2,.int .i64 0,s11,s12,s13,s14,s15,s16,.int .i64 0,g,k,sa,sn,sc,ra,rn,rc,rfl,rfl,⟨hI.lv,hI.h0,hI.h1,hI.h2,hI.h3,hI.h4,hI.h5,hI.h6,hI.h7,hI.h8,fun _=>rfl,hI.ord⟩⟩
  case rest =>
    obtain ⟨X,sa,sn,sc,ra,rn,rc,rfl,rfl,hL,hX,hN⟩:=hcut
    have SL:Hid (LV w wc):=hL
    have HX:Hid (wc.heap[X]?=some (.cells #[.int .u64 1,.string ah,.string rt,.slice sa sn sc,.slice ra rn rc] 26 (0,0))):=hX
    have HN:Hid (BkN wc 0 Jn.liveB (.slice sa sn sc) (.slice ra rn rc)):=hN
    clear hL hX hN S1 p0 p1 p2 p3 p4 p5 p6 p7 p8 p9 lt1 CF CM
    obtain ⟨rx,hrx⟩:∃rx,rx=Jn.rtext Jn.liveR:=⟨_,rfl⟩
    obtain ⟨fr,hfr⟩:∃fr,fr=Jn.frameOf (Jn.btext Jn.liveB):=⟨_,rfl⟩
    have hrs:rx.size=12:=by rw [hrx,Jn.live_rerr.2];rfl
    have hfs:fr.size≤20000:=by rw [hfr,Jn.frameOf_size];have:=Jn.btext_size Jn.liveB;omega
    have C1:Hid (∀W,Below w.heap.size w W→Calls Tryz.prog 13 #[.agg #[.int .u8 1,.string ⟨#[116]⟩,.int .u64 0,.int .u64 0,.int .u8 0,.bool false,.int .i64 0,.string ⟨#[]⟩,.slice none 0 0,.slice none 0 0]] W fun e w'=>e=.returned (.tuple #[.string rx,.int .i64 0])∧Below W.heap.size W w'):=fun W hW=>by
      have h:=revText_c 1 ⟨#[116]⟩ 0 0 ⟨0,false,0,⟨#[]⟩,[],[]⟩ (by decide) (by decide) (by decide) (by decide) 0 false 0 ⟨#[]⟩ none 0 0 none 0 0 rfl W (HU.out W hW) W.heap.size (Nat.le_refl _) (repA_rep (A:=fun _=>False) (fun g (h:False)=>h.elim) _ _ (repA_zero W _))
      have e1:Jn.rerr ⟨1,⟨#[116]⟩,0,0,⟨0,false,0,⟨#[]⟩,[],[]⟩⟩=0:=Jn.live_rerr.1
      have e2:Jn.rtext ⟨1,⟨#[116]⟩,0,0,⟨0,false,0,⟨#[]⟩,[],[]⟩⟩=rx:=hrx.symm
      rw [e1,e2] at h
      exact h
    have C2:Hid (∀W,Below w.heap.size w W→Below wc.heap.size wc W→Calls Tryz.prog 11 #[.agg #[.int .u64 1,.string ah,.string rt,.slice sa sn sc,.slice ra rn rc]] W fun e w'=>e=.returned (.tuple #[.string fr,.int .i64 0])∧Below W.heap.size W w'):=fun W hW hx=>by
      have h:=frame_c Jn.liveB sa sn sc ra rn rc W (HU.out W hW) (HK.out W hW) (HN.out.stays hx).bk
      rw [if_pos Jn.live_berr,Jn.live_berr,←hfr] at h
      rw [HAH.out,HRT.out]
      exact h
    obtain ⟨fx,hfx⟩:∃fx,fx=fr++⟨#[120]⟩:=⟨_,rfl⟩
    have C3:Hid (∀W,Below w.heap.size w W→Calls Tryz.prog 21 #[.string fx] W fun e w'=>(∃a c,e=.returned (.tuple #[.slice a 1 c,.int .i64 (fr.size:Int)]))∧Below W.heap.size W w'):=fun W hW=>by
      refine (scan_c fx (by rw [hfx,ByteArray.size_append];show _+1≤_;omega) W (HU.out W hW) (HK.out W hW)).mono ?_
      rintro e w' ⟨hb,ts,bs,lv,k1,k2,k3,rfl,k5⟩
      obtain ⟨m1,m2⟩:=Jn.live_took (s:=fx) (by rw [hfx,hfr]) k1 k2 k3
      obtain ⟨cs,ho,_⟩:=k5
      obtain ⟨a,c,rfl⟩:=own_slc ho
      refine ⟨⟨a,c,?_⟩,hb⟩
      rw [m1,m2,hfr]
    have C4:Hid (∀W,Below w.heap.size w W→Calls Tryz.prog 55 #[.string (⟨#[0]⟩++rx)] W fun e w'=>e=.returned (.string rt)∧Below W.heap.size W w'):=fun W hW=>by
      have h:=sum9 (⟨#[0]⟩++rx) (by rw [ByteArray.size_append,hrs];decide) W (HK.out W hW)
      have e:(⟨#[0]⟩++rx:ByteArray).data.toList=0 :: rx.data.toList:=by simp
      rw [e] at h
      rw [HRT.out,Jn.live_root,←hrx]
      exact h
    have C5:Hid (∀W,Below w.heap.size w W→Calls Tryz.prog 17 #[.agg #[.int .u64 0,.string ⟨#[]⟩,.string ⟨#[]⟩,.slice none 0 0,.slice none 0 0]] W fun e w'=>e=.returned (.int .i64 2)∧Below W.heap.size W w'):=fun W hW=>by
      have h:=check_c Jn.B0 none 0 0 none 0 0 W (HU.out W hW) (HK.out W hW) ⟨by decide,by decide,by decide,sl_none _,fun s h=>(by cases h),rfl,by decide,fun h=>(by omega)⟩
      rw [Jn.B0_berr] at h
      exact h
    clear hrx hfr HU HK
    have k1:fr.size+(⟨#[120]⟩:ByteArray).size≤1048576:=by show _+1≤_;omega
    have k2:(⟨#[0]⟩:ByteArray).size+rx.size≤1048576:=by show 1+_≤_;omega
    obtain ⟨p0,p1,p2,p3,p4,p5,p6,p7,p8,p9⟩:=SL.out.cells
    go_wp2_with fail
    refine (C1.out _ SL.out.below).mono ?_
    rintro e w2 ⟨rfl,hb2⟩
    have HB2:Hid (Below wc.heap.size wc w2):=hb2
    have x2:=blk_call HX.out hb2
    have q0:=block_cells x2 0 _ rfl
    have q1:=block_cells x2 1 _ rfl
    have q2:=block_cells x2 2 _ rfl
    have q3:=block_cells x2 3 _ rfl
    have q4:=block_cells x2 4 _ rfl
    clear hb2 x2 C1 p0 p1 p2 p3 p4 p5 p6 p7 p8 p9
    go_wp2_with fail
    refine (C2.out _ (SL.out.below.trans (HB2.out.mono SL.out.below.size)) HB2.out).mono ?_
    rintro e w3 ⟨rfl,hb3⟩
    have HB3:Hid (Below wc.heap.size wc w3):=HB2.out.trans (hb3.mono HB2.out.size)
    clear hb3 q0 q1 q2 q3 q4 C2 HB2
    have HFX:Hid (fr++⟨#[120]⟩=fx):=hfx.symm
    clear hfx
    go_wp2_with fail
    rw [HFX.out]
    refine (C3.out _ (SL.out.below.trans (HB3.out.mono SL.out.below.size))).mono ?_
    rintro e w4 ⟨⟨la,lc,rfl⟩,hb4⟩
    have HB4:Hid (Below wc.heap.size wc w4):=HB3.out.trans (hb4.mono HB3.out.size)
    clear hb4 C3 HB3
    have HBW:Hid (Below w.heap.size w w4):=SL.out.below.trans (HB4.out.mono SL.out.below.size)
    go_upto_region 6 with fail
    have c2:∀p:BelowOf w4.heap.size w4,p.W.cell? ⟨X,2,none⟩=some (.string rt):=fun p=>block_cells (blk_call (blk_call HX.out HB4.out) p.h) 2 _ rfl
    have CS:Hid (∀p:BelowOf w4.heap.size w4,Calls Tryz.prog 55 #[.string (⟨#[0]⟩++rx)] p.W fun e w''=>e=.returned (.string rt)∧∃q:BelowOf w4.heap.size w4,w''=q.W):=fun p=>below_call p (Nat.le_refl _) (C4.out _ (HBW.out.trans (p.h.mono HBW.out.size)))
    have CK:Hid (∀p:BelowOf w4.heap.size w4,Calls Tryz.prog 17 #[.agg #[.int .u64 0,.string ⟨#[]⟩,.string ⟨#[]⟩,.slice none 0 0,.slice none 0 0]] p.W fun e w''=>e=.returned (.int .i64 2)∧∃q:BelowOf w4.heap.size w4,w''=q.W):=fun p=>below_call p (Nat.le_refl _) (C5.out _ (HBW.out.trans (p.h.mono HBW.out.size)))
    have qr:(rt.toList==rt.toList)=true:=beq_self_eq_true _
    refine wp_region_below w4.heap.size w4 (Below.refl _ _) (by kernel_rfl) (by kernel_rfl) ?_
    repeat (go_big_quiet_step (first | (go_at_call 55;exact CS.out _) | (go_at_call 17;exact CK.out _)))
    refine wpQuiet_nil ?_
    intro _ hw'
    obtain ⟨pq,hw''⟩:=hw'
    subst hw''
    have HF:=HBW.out.trans (pq.h.mono HBW.out.size)
    go_wp2
    go_ret
    exact ⟨rfl,HF⟩
end Go.Proofs.YtggnfejjcgbebaaGreatDoor
