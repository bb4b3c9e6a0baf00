/- Several texts, joined: JnG, JnH -/
import Derived.Test.YtggnfejjcgbebaaGreatDoorQBM
import Derived.Test.YtggnfejjcgbebaaGreatDoorJPM
/- A block in memory; whether its sizes and statements are right; the root of texts. -/
namespace Go.Proofs.YtggnfejjcgbebaaGreatDoor
open Go.RowKit
open Vl (V)
attribute [local go_sem ↓] Go.wp_at_zero Go.wp_at_succ
def RevAt (W:World) (H g p:Nat) (r:Jn.R):Prop :=
  ∃ (xk : Nat) (xb : Bool) (xn : Int) (xs : ByteArray) (xa : Option Addr) (xl xc : Nat) (ya : Option Addr) (yl yc : Nat), W.cell? ⟨g, p, none⟩ = some (.int .u8 (r.kind : Int)) ∧ W.cell? ⟨g, p + 1, none⟩ = some (.string r.table) ∧ W.cell? ⟨g, p + 2, none⟩ = some (.int .u64 (r.doc : Int)) ∧ W.cell? ⟨g, p + 3, none⟩ = some (.int .u64 (r.ver : Int)) ∧
    W.cell? ⟨g,p+4,none⟩=some (.int .u8 (xk:Int))∧W.cell? ⟨g,p+5,none⟩=some (.bool xb)∧W.cell? ⟨g,p+6,none⟩=some (.int .i64 xn)∧W.cell? ⟨g,p+7,none⟩=some (.string xs)∧W.cell? ⟨g,p+8,none⟩=some (.slice xa xl xc)∧W.cell? ⟨g,p+9,none⟩=some (.slice ya yl yc) ∧
    Rep W H r.val (.agg #[.int .u8 (xk:Int),.bool xb,.int .i64 xn,.string xs,.slice xa xl xc,.slice ya yl yc])∧xk=r.val.1∧r.kind<256∧r.table.size≤maxLen∧r.doc<18446744073709551616∧r.ver<18446744073709551616
theorem RevAt.stays {W W':World} {H K g p:Nat} {r:Jn.R} (h:RevAt W H g p r) (hb:Below H W W') (hg:g<H) (hK:H≤K):RevAt W' K g p r:=by
  obtain ⟨xk,xb,xn,xs,xa,xl,xc,ya,yl,yc,h0,h1,h2,h3,h4,h5,h6,h7,h8,h9,hr,hx⟩:=h
  have k:∀(q:Nat) (v:Value),W.cell? ⟨g,q,none⟩=some v→W'.cell? ⟨g,q,none⟩=some v:=fun q v hv=>(hb.cell (p:=⟨g,q,none⟩) hg).trans hv
  exact ⟨xk,xb,xn,xs,xa,xl,xc,ya,yl,yc,k _ _ h0,k _ _ h1,k _ _ h2,k _ _ h3,k _ _ h4,k _ _ h5,k _ _ h6,k _ _ h7,k _ _ h8,k _ _ h9,rep_stays hb hK _ _ hr,hx⟩
structure Bk (W:World) (H:Nat) (b:Jn.B) (sa:Option Addr) (sn sc:Nat) (ra:Option Addr) (rn rc:Nat):Prop where
  seq:b.seq<18446744073709551616
  prev:b.prev.size≤maxLen
  root:b.root.size≤maxLen
  sts:Sl W H (.slice sa sn sc) (b.sts.map fun s=>s.data.toList)
  small:∀s∈b.sts,s.size≤maxLen
  many:rn=b.revs.length
  len:rn≤maxLen
  revs:0<rn→∃g o,ra=some ⟨g,o,none⟩∧g<H∧∀i r,b.revs[i]?=some r→RevAt W H g (o+i*10) r
theorem Bk.stays {W W':World} {H K:Nat} {b:Jn.B} {sa:Option Addr} {sn sc:Nat} {ra:Option Addr} {rn rc:Nat} (h:Bk W H b sa sn sc ra rn rc) (hb:Below H W W') (hK:H≤K):Bk W' K b sa sn sc ra rn rc :=
  ⟨h.seq,h.prev,h.root,(h.sts.stays hb (Nat.le_refl _)).mono hK,h.small,h.many,h.len,fun hp=>by
    obtain ⟨g,o,e,hg,hr⟩:=h.revs hp
    exact ⟨g,o,e,by omega,fun i r hi=>(hr i r hi).stays hb hg hK⟩⟩
set_option maxHeartbeats 2000000 in
theorem checkStatement_c (s:ByteArray) (hs:s.size≤maxLen) (w:World) (hU:Bn.HasU w) :
    Calls Tryz.prog 68 #[.string s] w fun e w'=>e=.returned (.int .i64 (Jn.swhy s:Int))∧Below w.heap.size w w':=by
  obtain ⟨u,hu⟩:∃u,u=Bn.u8 s:=⟨_,rfl⟩
  have CU:Hid (Calls Tryz.prog 83 #[.string s] w fun e w'=>e=.returned (.bool u)∧Below w.heap.size w w'):=by
    rw [hu];exact Bn.hasU.says s w hs hU
  obtain ⟨z,hz⟩:∃z,z=Jn.swhy s:=⟨_,rfl⟩
  have HZ:Hid (z=if 1024<s.size then 4 else if u=false then 9 else 0):=by show _=_;rw [hz,Jn.swhy,hu]
  rw [←hz]
  clear hu hU hz hs
  by_cases h1:1024<s.size
  · have q:(1024:Int)<(s.size:Int):=by omega
    have E:Hid (z=4):=by show _=_;rw [HZ.out,if_pos h1]
    go_enter Tryz.func68,Tryz.ntmps68
    go_wp2
    go_ret
    exact ⟨by rw [E.out];rfl,Below.refl _ _⟩
  · have q:¬(1024:Int)<(s.size:Int):=by omega
    cases u with
    | false =>
      have E:Hid (z=9):=by show _=_;rw [HZ.out,if_neg h1,if_pos rfl]
      go_enter Tryz.func68,Tryz.ntmps68
      go_wp2_with fail
      refine CU.out.mono ?_
      rintro e w1 ⟨rfl,hb⟩
      clear CU
      go_wp2
      go_ret
      exact ⟨by rw [E.out];rfl,hb⟩
    | true =>
      have E:Hid (z=0):=by show _=_;rw [HZ.out,if_neg h1,if_neg (by simp)]
      go_enter Tryz.func68,Tryz.ntmps68
      go_wp2_with fail
      refine CU.out.mono ?_
      rintro e w1 ⟨rfl,hb⟩
      clear CU
      go_wp2
      go_ret
      exact ⟨by rw [E.out];rfl,hb⟩
set_option maxHeartbeats 8000000 in
set_option maxRecDepth 10000 in
theorem checkSizes_c (b:Jn.B) (sa:Option Addr) (sn sc:Nat) (ra:Option Addr) (rn rc:Nat) (hs:sn=b.sts.length) (hr:rn=b.revs.length) (w:World) :
    Calls Tryz.prog 67 #[.agg #[.int .u64 (b.seq:Int),.string b.prev,.string b.root,.slice sa sn sc,.slice ra rn rc]] w fun e w'=>e=.returned (.int .i64 (Jn.sizes b:Int))∧Below w.heap.size w w':=by
  obtain ⟨sq,pv,rt,ss,rs⟩:=b
  simp only at hs hr ⊢
  obtain ⟨z,hz⟩:∃z,z=Jn.sizes ⟨sq,pv,rt,ss,rs⟩:=⟨_,rfl⟩
  have HZ:Hid (z=if sq<1∨4611686018427387904<sq then 2 else if pv.size≠32∨rt.size≠32 then 4 else if 64<sn∨rn<1∨64<rn then 3 else 0):=by show _=_;rw [hz,Jn.sizes,hs,hr]
  rw [←hz]
  clear hz hs hr
  have HB:Hid (Below w.heap.size w (w.alloc (.cells #[.int .u64 (sq:Int),.string pv,.string rt,.slice sa sn sc,.slice ra rn rc] 26))):=below_new _ _
  by_cases h1:sq<1∨4611686018427387904<sq
  · have E:Hid (z=2):=by show _=_;rw [HZ.out,if_pos h1]
    by_cases h0:sq<1
    · have q:(sq:Int)<1:=by omega
      go_enter Tryz.func67,Tryz.ntmps67
      go_wp2
      go_ret
      exact ⟨by rw [E.out];rfl,HB.out⟩
    · have q:¬(sq:Int)<1:=by omega
      have q2:(4611686018427387904:Int)<(sq:Int):=by omega
      go_enter Tryz.func67,Tryz.ntmps67
      go_wp2
      go_ret
      exact ⟨by rw [E.out];rfl,HB.out⟩
  have q1:¬(sq:Int)<1:=by omega
  have q2:¬(4611686018427387904:Int)<(sq:Int):=by omega
  by_cases h2:pv.size≠32∨rt.size≠32
  · have E:Hid (z=4):=by show _=_;rw [HZ.out,if_neg h1,if_pos h2]
    by_cases h0:pv.size≠32
    · have q:((pv.size:Int)==32)=false:=by rw [beq_eq_false_iff_ne];omega
      go_enter Tryz.func67,Tryz.ntmps67
      go_wp2
      go_ret
      exact ⟨by rw [E.out];rfl,HB.out⟩
    · have q:((pv.size:Int)==32)=true:=by rw [beq_iff_eq];omega
      have q3:((rt.size:Int)==32)=false:=by rw [beq_eq_false_iff_ne];omega
      go_enter Tryz.func67,Tryz.ntmps67
      go_wp2
      go_ret
      exact ⟨by rw [E.out];rfl,HB.out⟩
  have q3:((pv.size:Int)==32)=true:=by rw [beq_iff_eq];omega
  have q4:((rt.size:Int)==32)=true:=by rw [beq_iff_eq];omega
  by_cases h3:64<sn∨rn<1∨64<rn
  · have E:Hid (z=3):=by show _=_;rw [HZ.out,if_neg h1,if_neg h2,if_pos h3]
    by_cases h0:64<sn
    · have q:(64:Int)<(sn:Int):=by omega
      go_enter Tryz.func67,Tryz.ntmps67
      go_wp2
      go_ret
      exact ⟨by rw [E.out];rfl,HB.out⟩
    · have q:¬(64:Int)<(sn:Int):=by omega
      by_cases h4:rn<1
      · have q5:(rn:Int)<1:=by omega
        go_enter Tryz.func67,Tryz.ntmps67
        go_wp2
        go_ret
        exact ⟨by rw [E.out];rfl,HB.out⟩
      · have q5:¬(rn:Int)<1:=by omega
        have q6:(64:Int)<(rn:Int):=by omega
        go_enter Tryz.func67,Tryz.ntmps67
        go_wp2
        go_ret
        exact ⟨by rw [E.out];rfl,HB.out⟩
  · have E:Hid (z=0):=by show _=_;rw [HZ.out,if_neg h1,if_neg h2,if_neg h3]
    have q5:¬(64:Int)<(sn:Int):=by omega
    have q6:¬(rn:Int)<1:=by omega
    have q7:¬(64:Int)<(rn:Int):=by omega
    go_enter Tryz.func67,Tryz.ntmps67
    go_wp2
    go_ret
    exact ⟨by rw [E.out];rfl,HB.out⟩
set_option maxHeartbeats 2000000 in
theorem rootOf_c (a:Option Addr) (c n:Nat) (hn:n≤1024) (l:List (List UInt8)) (hx:∀x∈l,x.length≤140737488355328) (w:World) (hK:HasK w) (hS:Sl w w.heap.size (.slice a n c) l) :
    Calls Tryz.prog 30 #[.slice a n c] w fun e w'=>e=.returned (.string (bs (Mk.root l)))∧Below w.heap.size w w':=by
  have hl:l.length≤1024:=by rw [←hS.len];exact hn
  have h0:0<w.heap.size:=Nat.lt_of_le_of_lt (Nat.zero_le _) hK.1
  have CN:Hid (Calls Tryz.prog 69 #[.slice a n c] w fun e w'=>∃b:Nat,e=.returned (.tuple #[.pointer (some ⟨b,0,none⟩),.int .i64 0])∧w.heap.size≤b∧Tr w' b l∧Below w.heap.size w w'):=by
    refine (new_yes a c n hn w.heap.size l hx w (Nat.le_refl _) hS).mono ?_
    rintro e w' ⟨b,rfl,hb,hT,hB⟩
    exact ⟨b,rfl,hb,hT.tr (by omega),hB⟩
  obtain ⟨r,hr⟩:∃r:ByteArray,r=bs (Mk.root l):=⟨_,rfl⟩
  have CR:Hid (∀W b,Below w.heap.size w W→Tr W b l→Calls Tryz.prog 70 #[.pointer (some ⟨b,0,none⟩)] W fun e w'=>e=.returned (.string r)∧Tr w' b l∧Gr b W w'):=fun W b hW hT=>by
    rw [hr];exact root_c b l hl hx W (hK.below hK.1 hW) hT
  rw [←hr]
  clear hr hS hK hx hl
  go_enter Tryz.func30,Tryz.ntmps30
  go_wp2_with fail
  refine CN.out.mono ?_
  rintro e w1 ⟨b,rfl,hb,hT,hB⟩
  have T1:Hid (Tr w1 b l∧w.heap.size≤b∧Below w.heap.size w w1):=⟨hT,hb,hB⟩
  clear CN hT hb hB
  go_wp2_with fail
  refine (CR.out _ _ T1.out.2.2 T1.out.1).mono ?_
  rintro e w2 ⟨rfl,hT2,hG2⟩
  have HF:=T1.out.2.2.trans (hG2.below T1.out.2.1 T1.out.2.2.size)
  clear CR hT2 hG2
  go_wp2
  go_ret
  exact ⟨rfl,HF⟩
end Go.Proofs.YtggnfejjcgbebaaGreatDoor
/- The texts of a block's revisions. -/
namespace Go.Proofs.YtggnfejjcgbebaaGreatDoor
open Go.RowKit
open Vl (V)
attribute [local go_sem ↓] Go.wp_at_zero Go.wp_at_succ
structure BB (w:World) (B:Nat) (cs:Array Value) (W:World):Prop where
  below:Below w.heap.size w W
  base:w.heap.size≤B
  row:W.heap[B]?=some (.cells cs 26 (0,0))
theorem BB.call {w W W':World} {B:Nat} {cs:Array Value} (h:BB w B cs W) (hb:Below W.heap.size W W'):BB w B cs W' :=
  ⟨h.below.trans (hb.mono h.below.size),h.base,(hb.block B (Array.getElem?_eq_some_iff.1 h.row).1).trans h.row⟩
theorem BB.lt {w W:World} {B:Nat} {cs:Array Value} (h:BB w B cs W):B<W.heap.size:=(Array.getElem?_eq_some_iff.1 h.row).1
theorem BB.set {w W:World} {B g j:Nat} {cs:Array Value} (h:BB w B cs W) (hg:w.heap.size≤g) (hne:B≠g) (v:Value):BB w B cs (W.setCell ⟨g,j,none⟩ v) :=
  ⟨h.below.setCell (p:=⟨g,j,none⟩) hg v,h.base,(heap_setCell_other _ _ _ _ hne).trans h.row⟩
theorem BB.cells {w W:World} {B:Nat} {c0 c1 c2 c3 c4:Value} (h:BB w B #[c0,c1,c2,c3,c4] W):W.cell? ⟨B,0,none⟩=some c0∧W.cell? ⟨B,1,none⟩=some c1∧W.cell? ⟨B,2,none⟩=some c2∧W.cell? ⟨B,3,none⟩=some c3∧W.cell? ⟨B,4,none⟩=some c4 :=
  ⟨block_cells h.row 0 _ rfl,block_cells h.row 1 _ rfl,block_cells h.row 2 _ rfl,block_cells h.row 3 _ rfl,block_cells h.row 4 _ rfl⟩
namespace Jn
theorem first_at {α:Type} (f:α→Nat):∀(l:List α) (j:Nat) (x:α),(∀y∈l.take j,f y=0)→l[j]?=some x→f x≠0→first (l.map f)=f x
  | [],j,x,_,h,_=>by simp at h
  | y :: l,0,x,_,h,h2=>by simp at h;subst h;rw [List.map_cons,first,if_pos h2]
  | y :: l,j+1,x,h1,h,h2=>by
    have hy:f y=0:=h1 y (by simp)
    rw [List.map_cons,first,if_neg (by simp [hy])]
    exact first_at f l j x (fun z hz=>h1 z (by simp [hz])) (by simpa using h) h2
theorem first_none {α:Type} (f:α→Nat) (l:List α) (h:∀y∈l,f y=0):first (l.map f)=0 :=
  (first_zero _).2 fun x hx=>by obtain ⟨y,hy,rfl⟩:=List.mem_map.1 hx;exact h y hy
end Jn
theorem take_next {α:Type} {P:α→Prop} {l:List α} {j:Nat} {x:α} (h:∀y∈l.take j,P y) (hx:l[j]?=some x) (hp:P x):∀y∈l.take (j+1),P y:=by
  intro y hy
  rw [List.take_add_one,hx] at hy
  rcases List.mem_append.1 hy with h1 | h1
  · exact h y h1
  · simp at h1;subst h1;exact hp
set_option maxHeartbeats 16000000 in
set_option maxRecDepth 100000 in
theorem revTexts_c (b:Jn.B) (sa:Option Addr) (sn sc:Nat) (ra:Option Addr) (rn rc:Nat) (w:World) (hU:Bn.HasU w) (hB:Bk w w.heap.size b sa sn sc ra rn rc) :
    Calls Tryz.prog 29 #[.agg #[.int .u64 (b.seq:Int),.string b.prev,.string b.root,.slice sa sn sc,.slice ra rn rc]] w fun e w'=>∃tv,e=.returned (.tuple #[tv,.int .i64 (Jn.twhy b:Int)])∧Below w.heap.size w w'∧(Jn.twhy b≠0→tv=.slice none 0 0)∧(Jn.twhy b=0→∃g,tv=.slice (some ⟨g,0,none⟩) rn rn∧w'.ownsRow w.heap.size 9 1 tv rn (scs (Jn.texts b))):=by
  have HBK:Hid (Bk w w.heap.size b sa sn sc ra rn rc):=hB
  have hsn:sn=b.sts.length:=by have h:=hB.sts.len;rw [List.length_map] at h;exact h
  have hrn:rn=b.revs.length:=hB.many
  have HU:Hid (∀W,Below w.heap.size w W→Bn.HasU W):=fun W hW=>hU.stays hW
  obtain ⟨B,hBe⟩:∃B,B=w.heap.size:=⟨_,rfl⟩
  obtain ⟨w1,hw1⟩:∃w1,w1=w.alloc (.cells #[.int .u64 (b.seq:Int),.string b.prev,.string b.root,.slice sa sn sc,.slice ra rn rc] 26):=⟨_,rfl⟩
  obtain ⟨cs5,hcs5⟩:∃cs5:Array Value,cs5=#[.int .u64 (b.seq:Int),.string b.prev,.string b.root,.slice sa sn sc,.slice ra rn rc]:=⟨_,rfl⟩
  have S1:Hid (BB w B cs5 w1):=by
    show BB _ _ _ _
    rw [hw1,hBe,hcs5];exact ⟨below_new _ _,Nat.le_refl _,heap_alloc_new w _⟩
  have HC5:Hid (∀W,BB w B cs5 W→W.cell? ⟨B,0,none⟩=some (.int .u64 (b.seq:Int))∧W.cell? ⟨B,1,none⟩=some (.string b.prev)∧W.cell? ⟨B,2,none⟩=some (.string b.root)∧W.cell? ⟨B,3,none⟩=some (.slice sa sn sc)∧W.cell? ⟨B,4,none⟩=some (.slice ra rn rc)):=fun W hW=>by
    rw [hcs5] at hW;exact hW.cells
  obtain ⟨z,hz⟩:∃z,z=Jn.twhy b:=⟨_,rfl⟩
  obtain ⟨z1,hz1⟩:∃z,z=Jn.sizes b:=⟨_,rfl⟩
  have HZ:Hid (z=if z1≠0 then z1 else if Jn.first (b.sts.map Jn.swhy)≠0 then Jn.first (b.sts.map Jn.swhy) else Jn.first (b.revs.map Jn.rerr)):=by show _=_;rw [hz,Jn.twhy,hz1]
  have CS:Hid (∀W,Calls Tryz.prog 67 #[.agg #[.int .u64 (b.seq:Int),.string b.prev,.string b.root,.slice sa sn sc,.slice ra rn rc]] W fun e w'=>e=.returned (.int .i64 (z1:Int))∧Below W.heap.size W w'):=fun W=>by rw [hz1];exact checkSizes_c b sa sn sc ra rn rc hsn hrn W
  have H64:Hid (z1=0→rn≤64∧sn≤64):=fun h=>by
    rw [hz1,Jn.sizes] at h
    split at h
    · cases h
    · split at h
      · cases h
      · split at h
        · cases h
        · omega
  have HSN:Hid (sn=b.sts.length∧rn=b.revs.length):=⟨hsn,hrn⟩
  rw [←hz]
  obtain ⟨i0,hi,hy0,hy1,hy2⟩:=info_parts info9
  clear hU hB hsn hrn hz hz1 hcs5
  go_enter Tryz.func29,Tryz.ntmps29
  go_upto_region 1 with fail
  rw [←hw1,←hBe]
  clear hw1 hBe
  obtain ⟨p0,p1,p2,p3,p4⟩:=HC5.out _ S1.out
  go_wp2_with fail
  refine (CS.out _).mono ?_
  rintro e w2 ⟨rfl,hb2⟩
  have S2:Hid (BB w B cs5 w2):=S1.out.call hb2
  clear hb2 S1 CS p0 p1 p2 p3 p4
  by_cases h1:z1=0
  · have q1:((z1:Int)==0)=true:=by rw [beq_iff_eq];omega
    obtain ⟨hr64,hs64⟩:=H64.out h1
    obtain ⟨p0,p1,p2,p3,p4⟩:=HC5.out _ S2.out
    go_wp2
    go_loopw [21] (fun i wr=>∃j:Nat,j≤sn∧i=.int .i64 (j:Int)∧BB w B cs5 wr∧∀s∈b.sts.take j,Jn.swhy s=0) (fun i _=>sn - (intOf i).toNat)
    case atStart=>exact ⟨0,Nat.zero_le _,rfl,S2.out,fun s h=>by simp at h⟩
    case round =>
      obtain ⟨j,hj,rfl,hS,hok⟩:=hrel
      have S:Hid (BB w B cs5 wr):=hS
      have HOK:Hid (∀s∈b.sts.take j,Jn.swhy s=0):=hok
      clear hS hok S2 p0 p1 p2 p3 p4
      by_cases hlt:j<sn
      · obtain ⟨s,hs⟩:∃s,b.sts[j]?=some s:=⟨_,List.getElem?_eq_getElem (by rw [←HSN.out.1];exact hlt)⟩
        obtain ⟨g,o,rfl,-,hg,hc⟩:=HBK.out.sts.at (by rw [List.length_map,←HSN.out.1];omega)
        have d0:wr.cell? ⟨g,o+j,none⟩=some (.string s):=by
          rw [S.out.below.cell (p:=⟨g,o+j,none⟩) hg,hc j s.data.toList (by rw [List.getElem?_map,hs];rfl)]
          simp [encS,bs_data]
        obtain ⟨y,hy⟩:∃y,y=Jn.swhy s:=⟨_,rfl⟩
        have CC:Hid (∀W,Below w.heap.size w W→Calls Tryz.prog 68 #[.string s] W fun e w'=>e=.returned (.int .i64 (y:Int))∧Below W.heap.size W w'):=fun W hW=>by
          rw [hy];exact checkStatement_c s (HBK.out.small s (List.mem_of_getElem? hs)) W (HU.out W hW)
        have HST:Hid (b.sts[j]?=some s∧y=Jn.swhy s):=⟨hs,hy⟩
        clear hc hs hy
        go_wp2_with fail
        refine (CC.out _ S.out.below).mono ?_
        rintro e w3 ⟨rfl,hb3⟩
        have S3:Hid (BB w B cs5 w3):=S.out.call hb3
        clear hb3 CC d0
        by_cases hy0':y=0
        · have q2:((y:Int)==0)=true:=by rw [beq_iff_eq];omega
          have HN:Hid (∀s∈b.sts.take (j+1),Jn.swhy s=0):=take_next HOK.out HST.out.1 (by rw [←HST.out.2];exact hy0')
          go_wp2
          go_roundw
          case rel=>first | exact ⟨j+1,by omega,by go_num,S3.out,HN.out⟩ | ((repeat apply Exists.intro);exact ⟨⟨j+1,by omega,by go_num,S3.out,HN.out⟩,rfl⟩)
          case measure=>simp [intOf];omega
        · have q2:((y:Int)==0)=false:=by rw [beq_eq_false_iff_ne];omega
          have EZ:Hid (z=y∧y≠0):=by
            have h:=Jn.first_at Jn.swhy b.sts j s HOK.out HST.out.1 (by rw [←HST.out.2];exact hy0')
            refine ⟨?_,hy0'⟩
            rw [HZ.out,if_neg (by simp [h1]),if_pos (by rw [h,←HST.out.2];exact hy0'),h,HST.out.2]
          go_wp2
          go_ret2
          exact ⟨_,by rw [EZ.out.1];rfl,S3.out.below,fun _=>rfl,fun h=>absurd (EZ.out.1.symm.trans h) EZ.out.2⟩
      · have hjn:j=sn:=by omega
        subst hjn
        have HS0:Hid (Jn.first (b.sts.map Jn.swhy)=0):=Jn.first_none _ _ (by
          have h:=HOK.out
          rwa [List.take_of_length_le (by rw [←HSN.out.1];exact Nat.le_refl _)] at h)
        have HZ2:Hid (z=Jn.first (b.revs.map Jn.rerr)):=by show _=_;rw [HZ.out,if_neg (by simp [h1]),if_neg (by simp [HS0.out])]
        obtain ⟨M,hM⟩:∃M,M=madeCells (Value.string ⟨#[]⟩).cells (rn*1):=⟨_,rfl⟩
        have hmk:∀u:World,(Instr.makeSlice 23 (.int .i64 (rn:Int)) (.int .i64 (rn:Int))).run Tryz.prog u=.ok (.slice (some ⟨u.heap.size,0,none⟩) rn rn) (u.alloc (.cells M 9)):=fun u=>by
          have h:=run_make (P:=Tryz.prog) u 23 9 i0 (.string ⟨#[]⟩) Tryz.underlying23 hi hy0 .i64 .i64 (rn:Int) (rn:Int) (by omega) (by omega) (by rw [hy2];omega) (by omega)
          rw [show (rn:Int).toNat=rn by omega,hy1,←hM] at h
          exact h
        obtain ⟨T,hT⟩:∃T,T=Jn.texts b:=⟨_,rfl⟩
        have HT:Hid (T=Jn.texts b∧rn=T.length):=⟨hT,by rw [hT,Jn.texts,List.length_map];exact HSN.out.2⟩
        obtain ⟨G,hG⟩:∃G,G=wr.heap.size:=⟨_,rfl⟩
        have SM:Hid (BB w B cs5 (wr.alloc (.cells M 9))∧(wr.alloc (.cells M 9)).ownsRow w.heap.size 9 1 (.slice (some ⟨G,0,none⟩) rn rn) rn (scz T 0 rn)∧w.heap.size≤G∧B≠G):=by
          have h1:=S.out.lt
          have h2:=S.out.below.size
          refine ⟨S.out.call (below_new _ _),?_,by omega,by omega⟩
          rw [hM,hG,scz_zero]
          obtain ⟨e1,e2⟩:=made_strs wr rn (by omega)
          refine ⟨e1,?_⟩
          rcases e2 with e2 | ⟨g',cap',cur',f1,f2,f3⟩
          · exact .inl e2
          · exact .inr ⟨g',cap',cur',f1,by omega,f3⟩
        clear hM hT
        obtain ⟨p0,p1,p2,p3,p4⟩:=HC5.out _ S.out
        obtain ⟨w0,hw0⟩:∃w0,w0=wr.alloc (.cells M 9):=⟨_,rfl⟩
        rw [←hw0] at SM
        go_upto_region 12 with fail
        rw [←hw0,←hG]
        clear hw0 hG S p0 p1 p2 p3 p4 hmk
        obtain ⟨p0,p1,p2,p3,p4⟩:=HC5.out _ SM.out.1
        go_wp2
        go_loopw [38] (fun i wr=>∃k:Nat,k≤rn∧i=.int .i64 (k:Int)∧BB w B cs5 wr∧wr.ownsRow w.heap.size 9 1 (.slice (some ⟨G,0,none⟩) rn rn) rn (scz T k rn)∧∀r∈b.revs.take k,Jn.rerr r=0) (fun i _=>rn - (intOf i).toNat)
        case atStart=>exact ⟨0,Nat.zero_le _,rfl,SM.out.1,SM.out.2.1,fun r h=>by simp at h⟩
        case round =>
          obtain ⟨k,hk,rfl,hS,hO,hok⟩:=hrel
          have S:Hid (BB w B cs5 wr):=hS
          have O:Hid (wr.ownsRow w.heap.size 9 1 (.slice (some ⟨G,0,none⟩) rn rn) rn (scz T k rn)):=hO
          have HOR:Hid (∀r∈b.revs.take k,Jn.rerr r=0):=hok
          have HGB:Hid (w.heap.size≤G∧B≠G):=SM.out.2.2
          clear hS hO hok SM p0 p1 p2 p3 p4
          by_cases hlt2:k<rn
          · obtain ⟨r,hr⟩:∃r,b.revs[k]?=some r:=⟨_,List.getElem?_eq_getElem (by rw [←HSN.out.2];exact hlt2)⟩
            obtain ⟨g,o,rfl,hg,hrev⟩:=HBK.out.revs (by omega)
            obtain ⟨xk,xb,xn,xs,xa,xl,xc,ya,yl,yc,d0,d1,d2,d3,d4,d5,d6,d7,d8,d9,hrp,hx,hk1,hk2,hk3,hk4⟩:=(hrev k r hr).stays S.out.below hg (Nat.le_refl _)
            obtain ⟨re,hre⟩:∃re,re=Jn.rerr r:=⟨_,rfl⟩
            obtain ⟨rt,hrt⟩:∃rt,rt=Jn.rtext r:=⟨_,rfl⟩
            have HH:Hid (∀W,Below wr.heap.size wr W→Rep W w.heap.size r.val (.agg #[.int .u8 (xk:Int),.bool xb,.int .i64 xn,.string xs,.slice xa xl xc,.slice ya yl yc])):=fun W hW=>rep_stays (hW.mono S.out.below.size) (Nat.le_refl _) _ _ hrp
            have CR:Hid (∀W,Below wr.heap.size wr W→Calls Tryz.prog 13 #[.agg #[.int .u8 (r.kind:Int),.string r.table,.int .u64 (r.doc:Int),.int .u64 (r.ver:Int),.int .u8 (xk:Int),.bool xb,.int .i64 xn,.string xs,.slice xa xl xc,.slice ya yl yc]] W fun e w'=>e=.returned (.tuple #[.string rt,.int .i64 (re:Int)])∧Below W.heap.size W w'):=fun W hW=>by
              have hwW:=S.out.below.trans (hW.mono S.out.below.size)
              rw [hrt,hre]
              exact revText_c r.kind r.table r.doc r.ver r.val hk1 hk2 hk3 hk4 xk xb xn xs xa xl xc ya yl yc hx W (HU.out W hwW) w.heap.size hwW.size (HH.out W hW)
            have HRR:Hid (b.revs[k]?=some r∧re=Jn.rerr r∧rt=Jn.rtext r):=⟨hr,hre,hrt⟩
            have k0:(0:Int)≤(k:Int):=by omega
            have k1:(k:Int)<(rn:Int):=by omega
            clear hr hre hrt hrp hrev hx hk1 hk2 hk3 hk4
            go_wp2_with fail
            refine (CR.out _ (below_new _ _)).mono ?_
            rintro e w3 ⟨rfl,hb3⟩
            have hb3':=(below_new wr (.cells #[.int .u8 (r.kind:Int),.string r.table,.int .u64 (r.doc:Int),.int .u64 (r.ver:Int),.int .u8 (xk:Int),.bool xb,.int .i64 xn,.string xs,.slice xa xl xc,.slice ya yl yc] 34)).trans (hb3.mono (by simp))
            have S3:Hid (BB w B cs5 w3):=S.out.call hb3'
            have O3:Hid (w3.ownsRow w.heap.size 9 1 (.slice (some ⟨G,0,none⟩) rn rn) rn (scz T k rn)):=own_stays O.out hb3'
            clear hb3 hb3' CR d0 d1 d2 d3 d4 d5 d6 d7 d8 d9
            by_cases hre0:re=0
            · have q2:((re:Int)==0)=true:=by rw [beq_iff_eq];omega
              have HN:Hid (∀r∈b.revs.take (k+1),Jn.rerr r=0):=take_next HOR.out HRR.out.1 (by rw [←HRR.out.2.1];exact hre0)
              have HNX:Hid ((scz T k rn).set k (.string rt)=scz T (k+1) rn):=by
                have h:=scz_next T k rn rt.data.toList HT.out.2 (by rw [HT.out.1,Jn.texts,List.getElem?_map,HRR.out.1,HRR.out.2.2];rfl)
                rw [encS,bs_data] at h
                exact h
              have fz:=fun j=>O3.out.frozenAt j
              have ⟨vv,cc⟩:∃v,w3.cell? ⟨G,k,none⟩=some v:=by
                have hlen:k<(scz T k rn).length:=by rw [O3.out.1];omega
                exact ⟨_,(O3.out.cellAt k (by omega)).trans (List.getElem?_eq_getElem hlen)⟩
              have S4:Hid (BB w B cs5 (w3.setCell ⟨G,k,none⟩ (.string rt))):=S3.out.set HGB.out.1 HGB.out.2 _
              have O4:Hid ((w3.setCell ⟨G,k,none⟩ (.string rt)).ownsRow w.heap.size 9 1 (.slice (some ⟨G,0,none⟩) rn rn) rn (scz T (k+1) rn)):=by
                have h:=O3.out.stored k (.string rt)
                rw [HNX.out] at h
                exact h.1
              go_wp2
              go_roundw
              case rel=>first | exact ⟨k+1,by omega,by go_num,S4.out,O4.out,HN.out⟩ | ((repeat apply Exists.intro);exact ⟨⟨k+1,by omega,by go_num,S4.out,O4.out,HN.out⟩,rfl⟩)
              case measure=>simp [intOf];omega
            · have q2:((re:Int)==0)=false:=by rw [beq_eq_false_iff_ne];omega
              have EZ:Hid (z=re∧re≠0):=by
                have h:=Jn.first_at Jn.rerr b.revs k r HOR.out HRR.out.1 (by rw [←HRR.out.2.1];exact hre0)
                exact ⟨by rw [HZ2.out,h,HRR.out.2.1],hre0⟩
              go_wp2
              go_ret2
              exact ⟨_,by rw [EZ.out.1];rfl,S3.out.below,fun _=>rfl,fun h=>absurd (EZ.out.1.symm.trans h) EZ.out.2⟩
          · have hkn:k=rn:=by omega
            subst hkn
            have EZ:Hid (z=0):=by
              show _=_
              rw [HZ2.out]
              refine Jn.first_none _ _ ?_
              have h:=HOR.out
              rwa [List.take_of_length_le (by rw [←HSN.out.2];exact Nat.le_refl _)] at h
            have O5:Hid (wr.ownsRow w.heap.size 9 1 (.slice (some ⟨G,0,none⟩) k k) k (scs (Jn.texts b))):=by
              have h:=O.out
              rw [scz_all T k HT.out.2,HT.out.1] at h
              exact h
            go_wp2
            go_ret2
            exact ⟨_,by rw [EZ.out];rfl,S.out.below,fun h=>absurd EZ.out h,fun _=>⟨G,rfl,O5.out⟩⟩
  · have q1:((z1:Int)==0)=false:=by rw [beq_eq_false_iff_ne];omega
    have EZ:Hid (z=z1):=by show _=_;rw [HZ.out,if_pos h1]
    go_wp2
    go_ret2
    exact ⟨_,by rw [EZ.out];rfl,S2.out.below,fun _=>rfl,fun h=>absurd (EZ.out.symm.trans h) h1⟩
end Go.Proofs.YtggnfejjcgbebaaGreatDoor
