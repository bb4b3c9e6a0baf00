/- Several texts, joined: JnI, JnJ -/
import Derived.Test.YtggnfejjcgbebaaGreatDoorQCM
import Derived.Test.YtggnfejjcgbebaaGreatDoorQBM
import Derived.Test.YtggnfejjcgbebaaGreatDoorJIM
/- The text of a block all of whose parts are right. -/
namespace Go.Proofs.YtggnfejjcgbebaaGreatDoor
open Go.RowKit
open Vl (V)
attribute [local go_sem ↓] Go.wp_at_zero Go.wp_at_succ
set_option maxHeartbeats 16000000 in
set_option maxRecDepth 100000 in
theorem write_c (sq:Nat) (pv rt:ByteArray) (hsq:sq<18446744073709551616) (hpv:pv.size≤maxLen) (hrt:rt.size≤maxLen) (sa:Option Addr) (sn sc:Nat) (ra:Option Addr) (rn rc:Nat) (hsn:sn≤1048576) (ss:List (List UInt8)) (hss:∀x∈ss,x.length≤maxLen) (ta:Option Addr) (tn tc:Nat) (htn:tn≤1048576) (T:List (List UInt8)) (hT:∀x∈T,x.length≤maxLen) (w:World) (hU:Bn.HasU w) (hS:Sl w w.heap.size (.slice sa sn sc) ss) (hTS:Sl w w.heap.size (.slice ta tn tc) T) (bt:V) (hbt:bt=Jn.lst [Jn.num sq,Jn.blob pv,Jn.blob rt,Jn.lst (ss.map fun x=>Jn.txt (bs x)),Jn.lst (T.map fun x=>Jn.blob (bs x))]) :
    Calls Tryz.prog 31 #[.agg #[.int .u64 (sq:Int),.string pv,.string rt,.slice sa sn sc,.slice ra rn rc],.slice ta tn tc] w fun e w'=>e=.returned (.tuple #[.string (Bn.wtext bt),.int .i64 (Bn.werr bt:Int)])∧Below w.heap.size w w':=by
  obtain ⟨B,hB⟩:∃B,B=w.heap.size:=⟨_,rfl⟩
  obtain ⟨w1,hw1⟩:∃w1,w1=w.alloc (.cells #[.int .u64 (sq:Int),.string pv,.string rt,.slice sa sn sc,.slice ra rn rc] 26):=⟨_,rfl⟩
  obtain ⟨cs5,hcs5⟩:∃cs5:Array Value,cs5=#[.int .u64 (sq:Int),.string pv,.string rt,.slice sa sn sc,.slice ra rn rc]:=⟨_,rfl⟩
  have S1:Hid (BB w B cs5 w1):=by
    show BB _ _ _ _
    rw [hw1,hB,hcs5];exact ⟨below_new _ _,Nat.le_refl _,heap_alloc_new w _⟩
  have HC5:Hid (∀W,BB w B cs5 W→W.cell? ⟨B,0,none⟩=some (.int .u64 (sq:Int))∧W.cell? ⟨B,1,none⟩=some (.string pv)∧W.cell? ⟨B,2,none⟩=some (.string rt)∧W.cell? ⟨B,3,none⟩=some (.slice sa sn sc)∧W.cell? ⟨B,4,none⟩=some (.slice ra rn rc)):=fun W hW=>by
    rw [hcs5] at hW;exact hW.cells
  obtain ⟨le,hle⟩:∃le,le=Bn.werr bt:=⟨_,rfl⟩
  obtain ⟨lx,hlx⟩:∃lx,lx=Bn.wtext bt:=⟨_,rfl⟩
  rw [←hle,←hlx]
  obtain ⟨iq,hiq⟩:∃i,i=Jn.i64 sq:=⟨_,rfl⟩
  obtain ⟨t3,ht3⟩:∃t3,t3=Jn.lst (ss.map fun x=>Jn.txt (bs x)):=⟨_,rfl⟩
  obtain ⟨t4,ht4⟩:∃t4,t4=Jn.lst (T.map fun x=>Jn.blob (bs x)):=⟨_,rfl⟩
  have CN:Hid (∀W,Calls Tryz.prog 48 #[.int .u64 (sq:Int)] W fun en w'=>en=.returned (.agg #[.int .u8 2,.bool false,.int .i64 iq,.string ⟨#[]⟩,.slice none 0 0,.slice none 0 0])∧Below W.heap.size W w'):=fun W=>by rw [hiq];exact asNumber_c sq hsq W
  have CP:Hid (∀W,Calls Tryz.prog 65 #[.string pv] W fun en w'=>en=.returned (.agg #[.int .u8 4,.bool false,.int .i64 0,.string pv,.slice none 0 0,.slice none 0 0])∧Below W.heap.size W w'):=fun W=>asBlob_c pv W
  have CR:Hid (∀W,Calls Tryz.prog 65 #[.string rt] W fun en w'=>en=.returned (.agg #[.int .u8 4,.bool false,.int .i64 0,.string rt,.slice none 0 0,.slice none 0 0])∧Below W.heap.size W w'):=fun W=>asBlob_c rt W
  have C3:Hid (∀W,Below w.heap.size w W→Calls Tryz.prog 71 #[.func (.func 49) #[] #[],.slice sa sn sc] W fun en w'=>∃l1 m1,en=.returned (.agg #[.int .u8 5,.bool false,.int .i64 0,.string ⟨#[]⟩,.slice l1 sn m1,.slice none 0 0])∧Rep w' w'.heap.size t3 (.agg #[.int .u8 5,.bool false,.int .i64 0,.string ⟨#[]⟩,.slice l1 sn m1,.slice none 0 0])∧Below W.heap.size W w'):=fun W hW=>by
    rw [ht3];exact listT_c sa sn sc ss hss hsn W ((hS.stays hW (Nat.le_refl _)).mono hW.size)
  have C4:Hid (∀W,Below w.heap.size w W→Calls Tryz.prog 71 #[.func (.func 65) #[] #[],.slice ta tn tc] W fun en w'=>∃l1 m1,en=.returned (.agg #[.int .u8 5,.bool false,.int .i64 0,.string ⟨#[]⟩,.slice l1 tn m1,.slice none 0 0])∧Rep w' w'.heap.size t4 (.agg #[.int .u8 5,.bool false,.int .i64 0,.string ⟨#[]⟩,.slice l1 tn m1,.slice none 0 0])∧Below W.heap.size W w'):=fun W hW=>by
    rw [ht4];exact listB_c ta tn tc T hT htn W ((hTS.stays hW (Nat.le_refl _)).mono hW.size)
  have CL:Hid (∀W l1 m1 l2 m2,Below w.heap.size w W→Rep W W.heap.size t3 (.agg #[.int .u8 5,.bool false,.int .i64 0,.string ⟨#[]⟩,.slice l1 sn m1,.slice none 0 0])→Rep W W.heap.size t4 (.agg #[.int .u8 5,.bool false,.int .i64 0,.string ⟨#[]⟩,.slice l2 tn m2,.slice none 0 0])→Calls Tryz.prog 46 #[.func (.func 47) #[] #[],.slice (some ⟨W.heap.size,0,none⟩) 5 5] (W.alloc (.cells #[.int .u8 2,.bool false,.int .i64 iq,.string ⟨#[]⟩,.slice none 0 0,.slice none 0 0,.int .u8 4,.bool false,.int .i64 0,.string pv,.slice none 0 0,.slice none 0 0,.int .u8 4,.bool false,.int .i64 0,.string rt,.slice none 0 0,.slice none 0 0,.int .u8 5,.bool false,.int .i64 0,.string ⟨#[]⟩,.slice l1 sn m1,.slice none 0 0,.int .u8 5,.bool false,.int .i64 0,.string ⟨#[]⟩,.slice l2 tn m2,.slice none 0 0] 32)) fun en w'=>∃a c',en=.returned (.agg #[.int .u8 5,.bool false,.int .i64 0,.string ⟨#[]⟩,.slice a 5 c',.slice none 0 0])∧Rep w' w'.heap.size bt (.agg #[.int .u8 5,.bool false,.int .i64 0,.string ⟨#[]⟩,.slice a 5 c',.slice none 0 0])∧Below (W.alloc (.cells #[.int .u8 2,.bool false,.int .i64 iq,.string ⟨#[]⟩,.slice none 0 0,.slice none 0 0,.int .u8 4,.bool false,.int .i64 0,.string pv,.slice none 0 0,.slice none 0 0,.int .u8 4,.bool false,.int .i64 0,.string rt,.slice none 0 0,.slice none 0 0,.int .u8 5,.bool false,.int .i64 0,.string ⟨#[]⟩,.slice l1 sn m1,.slice none 0 0,.int .u8 5,.bool false,.int .i64 0,.string ⟨#[]⟩,.slice l2 tn m2,.slice none 0 0] 32)).heap.size (W.alloc (.cells #[.int .u8 2,.bool false,.int .i64 iq,.string ⟨#[]⟩,.slice none 0 0,.slice none 0 0,.int .u8 4,.bool false,.int .i64 0,.string pv,.slice none 0 0,.slice none 0 0,.int .u8 4,.bool false,.int .i64 0,.string rt,.slice none 0 0,.slice none 0 0,.int .u8 5,.bool false,.int .i64 0,.string ⟨#[]⟩,.slice l1 sn m1,.slice none 0 0,.int .u8 5,.bool false,.int .i64 0,.string ⟨#[]⟩,.slice l2 tn m2,.slice none 0 0] 32)) w'):=fun W l1 m1 l2 m2 hW h3 h4=>by
    rw [hbt,←ht3,←ht4]
    refine listV_c W.heap.size 0 5 5 [Jn.num sq,Jn.blob pv,Jn.blob rt,t3,t4] rfl (by decide) (W.alloc _) (by simp) (rep_five (heap_alloc_new W _) ?_ ?_ ?_ (rep_stays (below_new _ _) (by simp) _ _ h3) (rep_stays (below_new _ _) (by simp) _ _ h4))
    · rw [hiq];exact rep_flat _ _ 2 _ _ (by omega) (Jn.i64_range sq hsq) (by decide)
    · exact rep_flat _ _ 4 _ _ (by omega) (by omega) hpv
    · exact rep_flat _ _ 4 _ _ (by omega) (by omega) hrt
  have CW:Hid (∀W v,Below w.heap.size w W→Rep W W.heap.size bt v→Calls Tryz.prog 45 #[v] W fun en w'=>en=.returned (.tuple #[.string lx,.int .i64 (le:Int)])∧Below W.heap.size W w'):=fun W v hW hr=>by
    rw [hlx,hle];exact write18 bt W (hU.stays hW) W.heap.size v (Nat.le_refl _) hr
  clear hU hS hTS hle hlx hiq ht3 ht4 hcs5 hbt hss hT hpv hrt
  go_enter Tryz.func31,Tryz.ntmps31
  go_upto_region 1 with fail
  rw [←hw1,←hB]
  clear hw1 hB
  obtain ⟨p0,p1,p2,p3,p4⟩:=HC5.out _ S1.out
  go_region_held3 (fun W'=>W'.cell? ⟨B,0,none⟩=some (.int .u64 (sq:Int))∧W'.cell? ⟨B,1,none⟩=some (.string pv)∧W'.cell? ⟨B,2,none⟩=some (.string rt)∧W'.cell? ⟨B,3,none⟩=some (.slice sa sn sc)∧W'.cell? ⟨B,4,none⟩=some (.slice ra rn rc)) (go_keep) (first
    | (go_at_call 45;refine (CW.out _ _ S6.out.below R6.out).mono ?_;rintro en w7 ⟨rfl,hb7⟩
       have S7:Hid (BB w B cs5 w7):=S6.out.call hb7
       obtain ⟨p0,p1,p2,p3,p4⟩:=HC5.out _ S7.out
       clear hb7)
    | (go_at_call 46;refine (CL.out _ _ _ _ _ S5.out.below R4.out R5.out).mono ?_;rintro en w6 ⟨la,lc,rfl,hr6,hb6⟩
       have S6:Hid (BB w B cs5 w6):=(S5.out.call (below_new _ _)).call hb6
       have R6:Hid (Rep w6 w6.heap.size bt (.agg #[.int .u8 5,.bool false,.int .i64 0,.string ⟨#[]⟩,.slice la 5 lc,.slice none 0 0])):=hr6
       obtain ⟨p0,p1,p2,p3,p4⟩:=HC5.out _ S6.out
       clear hb6 hr6)
    | (go_at_call_of 71 (Value.slice sa sn sc);refine (C3.out _ S3.out.below).mono ?_;rintro en w4 ⟨l1,m1,rfl,hr4,hb4⟩
       have S4:Hid (BB w B cs5 w4):=S3.out.call hb4
       have R3:Hid (Rep w4 w4.heap.size t3 (.agg #[.int .u8 5,.bool false,.int .i64 0,.string ⟨#[]⟩,.slice l1 sn m1,.slice none 0 0])):=hr4
       obtain ⟨p0,p1,p2,p3,p4⟩:=HC5.out _ S4.out
       clear hb4 hr4)
    | (go_at_call_of 71 (Value.slice ta tn tc);refine (C4.out _ S4.out.below).mono ?_;rintro en w5 ⟨l2,m2,rfl,hr5,hb5⟩
       have S5:Hid (BB w B cs5 w5):=S4.out.call hb5
       have R4:Hid (Rep w5 w5.heap.size t3 (.agg #[.int .u8 5,.bool false,.int .i64 0,.string ⟨#[]⟩,.slice l1 sn m1,.slice none 0 0])):=rep_stays hb5 hb5.size _ _ R3.out
       have R5:Hid (Rep w5 w5.heap.size t4 (.agg #[.int .u8 5,.bool false,.int .i64 0,.string ⟨#[]⟩,.slice l2 tn m2,.slice none 0 0])):=hr5
       obtain ⟨p0,p1,p2,p3,p4⟩:=HC5.out _ S5.out
       clear hb5 hr5)
    | (go_at_call 48;refine (CN.out _).mono ?_;rintro en w3 ⟨rfl,hb3⟩
       have S3:Hid (BB w B cs5 w3):=(by first | exact S1.out.call hb3 | exact (S1.out.call (Below.refl _ _).drew).call hb3)
       obtain ⟨p0,p1,p2,p3,p4⟩:=HC5.out _ S3.out
       clear hb3)
    | (go_at_call_of 65 (Value.string pv);refine (CP.out _).mono ?_;rintro en w3 ⟨rfl,hb3⟩
       have S3:Hid (BB w B cs5 w3):=S3.out.call hb3
       obtain ⟨p0,p1,p2,p3,p4⟩:=HC5.out _ S3.out
       clear hb3)
    | (go_at_call_of 65 (Value.string rt);refine (CR.out _).mono ?_;rintro en w3 ⟨rfl,hb3⟩
       have S3:Hid (BB w B cs5 w3):=S3.out.call hb3
       obtain ⟨p0,p1,p2,p3,p4⟩:=HC5.out _ S3.out
       clear hb3)
    | fail "no arm")
  all_goals
    have HF:=S7.out.below
    go_wp2
    go_ret2
    exact ⟨rfl,HF⟩
end Go.Proofs.YtggnfejjcgbebaaGreatDoor
/- A block's text, and whether it is right. -/
namespace Go.Proofs.YtggnfejjcgbebaaGreatDoor
open Go.RowKit
open Vl (V)
attribute [local go_sem ↓] Go.wp_at_zero Go.wp_at_succ
namespace Jn
theorem twhy_ok {b:B} (h:twhy b=0):b.sts.length≤64∧b.revs.length≤64∧∀r∈b.revs,rerr r=0:=by
  rw [twhy] at h
  split at h
  · rename_i h1;exact absurd h h1
  · rename_i h1
    have h2:sizes b=0:=by omega
    rw [sizes] at h2
    split at h2
    · cases h2
    · split at h2
      · cases h2
      · split at h2
        · cases h2
        · split at h
          · rename_i h5;exact absurd h h5
          · exact ⟨by omega,by omega,fun r hr=>(first_zero _).1 h _ (List.mem_map.2 ⟨r,hr,rfl⟩)⟩
theorem wtext_no {t:V} (h:Bn.werr t≠0):Bn.wtext t=⟨#[]⟩:=by rw [Bn.wtext,if_neg h]
end Jn
set_option maxHeartbeats 16000000 in
set_option maxRecDepth 100000 in
theorem text_c (b:Jn.B) (sa:Option Addr) (sn sc:Nat) (ra:Option Addr) (rn rc:Nat) (w:World) (hU:Bn.HasU w) (hK:HasK w) (hB:Bk w w.heap.size b sa sn sc ra rn rc) :
    Calls Tryz.prog 7 #[.agg #[.int .u64 (b.seq:Int),.string b.prev,.string b.root,.slice sa sn sc,.slice ra rn rc]] w fun e w'=>e=.returned (.tuple #[.string (Jn.btext b),.int .i64 (Jn.berr b:Int)])∧Below w.heap.size w w':=by
  obtain ⟨B,hBe⟩:∃B,B=w.heap.size:=⟨_,rfl⟩
  obtain ⟨w1,hw1⟩:∃w1,w1=w.alloc (.cells #[.int .u64 (b.seq:Int),.string b.prev,.string b.root,.slice sa sn sc,.slice ra rn rc] 26):=⟨_,rfl⟩
  obtain ⟨cs5,hcs5⟩:∃cs5:Array Value,cs5=#[.int .u64 (b.seq:Int),.string b.prev,.string b.root,.slice sa sn sc,.slice ra rn rc]:=⟨_,rfl⟩
  have S1:Hid (BB w B cs5 w1):=by
    show BB _ _ _ _
    rw [hw1,hBe,hcs5];exact ⟨below_new _ _,Nat.le_refl _,heap_alloc_new w _⟩
  have HC5:Hid (∀W,BB w B cs5 W→W.cell? ⟨B,0,none⟩=some (.int .u64 (b.seq:Int))∧W.cell? ⟨B,1,none⟩=some (.string b.prev)∧W.cell? ⟨B,2,none⟩=some (.string b.root)∧W.cell? ⟨B,3,none⟩=some (.slice sa sn sc)∧W.cell? ⟨B,4,none⟩=some (.slice ra rn rc)):=fun W hW=>by
    rw [hcs5] at hW;exact hW.cells
  have HBK:Hid (∀W,Below w.heap.size w W→Bk W W.heap.size b sa sn sc ra rn rc):=fun W hW=>hB.stays hW hW.size
  have HU:Hid (∀W,Below w.heap.size w W→Bn.HasU W):=fun W hW=>hU.stays hW
  have HK:Hid (∀W,Below w.heap.size w W→HasK W):=fun W hW=>hK.below hK.1 hW
  obtain ⟨z,hz⟩:∃z,z=Jn.twhy b:=⟨_,rfl⟩
  obtain ⟨be,hbe⟩:∃be,be=Jn.berr b:=⟨_,rfl⟩
  obtain ⟨bx,hbx⟩:∃bx,bx=Jn.btext b:=⟨_,rfl⟩
  obtain ⟨r,hr⟩:∃r,r=Jn.rootOf b:=⟨_,rfl⟩
  obtain ⟨le,hle⟩:∃le,le=Bn.werr (Jn.bv b):=⟨_,rfl⟩
  obtain ⟨lx,hlx⟩:∃lx,lx=Bn.wtext (Jn.bv b):=⟨_,rfl⟩
  have HBE:Hid (be=if z≠0 then z else if b.root≠r then 11 else le):=by show _=_;rw [hbe,Jn.berr,hz,hr,hle]
  have HBX:Hid (bx=if be=0 then lx else ⟨#[]⟩):=by show _=_;rw [hbx,Jn.btext,hbe,hlx]
  have HLX:Hid (le≠0→lx=⟨#[]⟩):=fun h=>by rw [hlx];exact Jn.wtext_no (by rw [←hle];exact h)
  rw [←hbe,←hbx]
  have CT:Hid (∀W,Below w.heap.size w W→Calls Tryz.prog 29 #[.agg #[.int .u64 (b.seq:Int),.string b.prev,.string b.root,.slice sa sn sc,.slice ra rn rc]] W fun e w'=>∃tv,e=.returned (.tuple #[tv,.int .i64 (z:Int)])∧Below W.heap.size W w'∧(z=0→∃g,tv=.slice (some ⟨g,0,none⟩) rn rn∧w'.ownsRow W.heap.size 9 1 tv rn (scs (Jn.texts b)))):=fun W hW=>by
    refine (revTexts_c b sa sn sc ra rn rc W (HU.out W hW) (HBK.out W hW)).mono ?_
    rintro e w' ⟨tv,h1,h2,_,h4⟩
    exact ⟨tv,by rw [hz];exact h1,h2,fun h=>h4 (by rw [←hz];exact h)⟩
  obtain ⟨T,hT⟩:∃T,T=Jn.texts b:=⟨_,rfl⟩
  have HTT:Hid (T=Jn.texts b):=hT
  have HT:Hid (z=0→rn≤64∧sn≤64∧rn=T.length∧∀x∈T,x.length≤1024):=fun h=>by
    obtain ⟨h1,h2,h3⟩:=Jn.twhy_ok (by rw [←hz];exact h)
    have hm:=hB.many
    have hs:=hB.sts.len
    rw [List.length_map] at hs
    refine ⟨by omega,by omega,by rw [hT,Jn.texts,List.length_map];exact hm,fun x hx=>?_⟩
    rw [hT,Jn.texts] at hx
    obtain ⟨q,hq,rfl⟩:=List.mem_map.1 hx
    rw [←Lib.size_eq]
    exact (Jn.rtext_ok (h3 q hq)).2.2.2
  have CR:Hid (z=0→∀W g,Below w.heap.size w W→Sl W W.heap.size (.slice (some ⟨g,0,none⟩) rn rn) T→Calls Tryz.prog 30 #[.slice (some ⟨g,0,none⟩) rn rn] W fun e w'=>e=.returned (.string r)∧Below W.heap.size W w'):=fun h W g hW hS=>by
    rw [hr,Jn.rootOf,←hT]
    exact rootOf_c _ rn rn (by have:=(HT.out h).1;omega) T (fun x hx=>by have:=(HT.out h).2.2.2 x hx;omega) W (HK.out W hW) hS
  have CW:Hid (z=0→∀W g,Below w.heap.size w W→Sl W W.heap.size (.slice (some ⟨g,0,none⟩) rn rn) T→Calls Tryz.prog 31 #[.agg #[.int .u64 (b.seq:Int),.string b.prev,.string b.root,.slice sa sn sc,.slice ra rn rc],.slice (some ⟨g,0,none⟩) rn rn] W fun e w'=>e=.returned (.tuple #[.string lx,.int .i64 (le:Int)])∧Below W.heap.size W w'):=fun h W g hW hS=>by
    have hk:=HBK.out W hW
    rw [hlx,hle]
    refine write_c b.seq b.prev b.root hk.seq hk.prev hk.root sa sn sc ra rn rc (by have:=(HT.out h).2.1;omega) _ (fun x hx=>?_) (some ⟨g,0,none⟩) rn rn (by have:=(HT.out h).1;omega) T (fun x hx=>by have:=(HT.out h).2.2.2 x hx;unfold maxLen;omega) W (HU.out W hW) hk.sts hS (Jn.bv b) ?_
    · obtain ⟨s,hs,rfl⟩:=List.mem_map.1 hx
      rw [←Lib.size_eq];exact hk.small s hs
    · rw [Jn.bv,hT,Jn.texts]
      simp [List.map_map,Function.comp_def,bs_data]
  clear hU hB hK hz hbe hbx hr hle hlx hcs5 hT
  go_enter Tryz.func7,Tryz.ntmps7
  go_upto_region 1 with fail
  rw [←hw1,←hBe]
  clear hw1 hBe
  obtain ⟨p0,p1,p2,p3,p4⟩:=HC5.out _ S1.out
  go_wp2_with fail
  refine (CT.out _ S1.out.below).mono ?_
  rintro e w2 ⟨tv,rfl,hb2,htv⟩
  have S2:Hid (BB w B cs5 w2):=S1.out.call hb2
  have HTV:Hid (z=0→∃g,tv=.slice (some ⟨g,0,none⟩) rn rn∧Sl w2 w2.heap.size tv T):=fun h=>by
    obtain ⟨g,e,ho⟩:=htv h
    refine ⟨g,e,own_sl (base:=w1.heap.size) ?_⟩
    rw [←(HT.out h).2.2.1,HTT.out];exact ho
  clear hb2 htv S1 CT p0 p1 p2 p3 p4
  by_cases h1:z=0
  · have q1:((z:Int)==0)=true:=by rw [beq_iff_eq];omega
    obtain ⟨g,rfl,hsl⟩:=HTV.out h1
    have HSL:Hid (Sl w2 w2.heap.size (.slice (some ⟨g,0,none⟩) rn rn) T):=hsl
    have CR1:Hid (∀p:BelowOf w2.heap.size w2,Calls Tryz.prog 30 #[.slice (some ⟨g,0,none⟩) rn rn] p.W fun e w''=>e=.returned (.string r)∧∃q:BelowOf w2.heap.size w2,w''=q.W):=fun p =>
      below_call p (Nat.le_refl _) (CR.out h1 _ g (S2.out.below.trans (p.h.mono S2.out.below.size)) ((HSL.out.stays p.h (Nat.le_refl _)).mono p.h.size))
    clear hsl HTV
    go_upto_region 4 with fail
    have p2:∀p:BelowOf w2.heap.size w2,p.W.cell? ⟨B,2,none⟩=some (.string b.root):=fun p=>(HC5.out _ (S2.out.call p.h)).2.2.1
    by_cases h2:b.root=r
    · have q2:(b.root.toList==r.toList)=true:=by rw [h2];exact beq_self_eq_true _
      have H2:Hid (b.root=r):=h2
      clear h2
      refine wp_region_below w2.heap.size w2 (Below.refl _ _) (by kernel_rfl) (by kernel_rfl) ?_
      repeat (go_big_quiet_step (first | (go_at_call 30;exact CR1.out _)))
      refine wpQuiet_nil ?_
      intro _ hw'
      obtain ⟨pq,hw''⟩:=hw'
      subst hw''
      obtain ⟨w3,hw3⟩:∃W,W=pq.W:=⟨_,rfl⟩
      have S3:Hid (BB w B cs5 w3):=by rw [hw3];exact S2.out.call pq.h
      have L3:Hid (Sl w3 w3.heap.size (.slice (some ⟨g,0,none⟩) rn rn) T):=by rw [hw3];exact (HSL.out.stays pq.h (Nat.le_refl _)).mono pq.h.size
      rw [←hw3]
      clear hw3 pq p2 S2 HSL CR1 CR
      obtain ⟨p0,p1,p2,p3,p4⟩:=HC5.out _ S3.out
      go_wp2_with fail
      refine (CW.out h1 _ g S3.out.below L3.out).mono ?_
      rintro e w4 ⟨rfl,hb4⟩
      have HF:=(S3.out.call hb4).below
      have EZ:Hid (be=le∧bx=lx):=by
        have h:be=le:=by rw [HBE.out,if_neg (by simp [h1]),if_neg (fun hn=>hn H2.out)]
        refine ⟨h,?_⟩
        rw [HBX.out]
        by_cases h0:be=0
        · rw [if_pos h0]
        · rw [if_neg h0];exact (HLX.out (by omega)).symm
      clear hb4 CW
      go_wp2
      go_ret2
      exact ⟨by rw [EZ.out.1,EZ.out.2];rfl,HF⟩
    · have q2:(b.root.toList==r.toList)=false:=by
        rw [beq_eq_false_iff_ne,Lib.toList_data,Lib.toList_data]
        intro e
        exact h2 (Bn.data_ext e)
      have EZ:Hid (be=11∧bx=⟨#[]⟩):=by
        have h:be=11:=by rw [HBE.out,if_neg (by simp [h1]),if_pos h2]
        exact ⟨h,by rw [HBX.out,if_neg (by omega)]⟩
      refine wp_region_below w2.heap.size w2 (Below.refl _ _) (by kernel_rfl) (by kernel_rfl) ?_
      repeat (go_big_quiet_step (first | (go_at_call 30;exact CR1.out _)))
      refine wpQuiet_nil ?_
      intro _ hw'
      obtain ⟨pq,hw''⟩:=hw'
      subst hw''
      have HF:=(S2.out.call pq.h).below
      go_wp2
      go_ret2
      exact ⟨by rw [EZ.out.1,EZ.out.2];rfl,HF⟩
  · have q1:((z:Int)==0)=false:=by rw [beq_eq_false_iff_ne];omega
    have EZ:Hid (be=z∧bx=⟨#[]⟩):=by
      have h:be=z:=by rw [HBE.out,if_pos h1]
      exact ⟨h,by rw [HBX.out,if_neg (by omega)]⟩
    go_wp2
    go_ret2
    exact ⟨by rw [EZ.out.1,EZ.out.2];rfl,S2.out.below⟩
set_option maxHeartbeats 2000000 in
theorem check_c (b:Jn.B) (sa:Option Addr) (sn sc:Nat) (ra:Option Addr) (rn rc:Nat) (w:World) (hU:Bn.HasU w) (hK:HasK w) (hB:Bk w w.heap.size b sa sn sc ra rn rc) :
    Calls Tryz.prog 17 #[.agg #[.int .u64 (b.seq:Int),.string b.prev,.string b.root,.slice sa sn sc,.slice ra rn rc]] w fun e w'=>e=.returned (.int .i64 (Jn.berr b:Int))∧Below w.heap.size w w':=by
  obtain ⟨be,hbe⟩:∃be,be=Jn.berr b:=⟨_,rfl⟩
  obtain ⟨bx,hbx⟩:∃bx,bx=Jn.btext b:=⟨_,rfl⟩
  have CT:Hid (∀W,Below w.heap.size w W→Calls Tryz.prog 7 #[.agg #[.int .u64 (b.seq:Int),.string b.prev,.string b.root,.slice sa sn sc,.slice ra rn rc]] W fun e w'=>e=.returned (.tuple #[.string bx,.int .i64 (be:Int)])∧Below W.heap.size W w'):=fun W hW=>by
    rw [hbe,hbx];exact text_c b sa sn sc ra rn rc W (hU.stays hW) (hK.below hK.1 hW) (hB.stays hW hW.size)
  rw [←hbe]
  clear hU hK hB hbe hbx
  go_enter Tryz.func17,Tryz.ntmps17
  go_wp2_with fail
  refine (CT.out _ (below_new _ _)).mono ?_
  rintro e w2 ⟨rfl,hb2⟩
  have HF:=(below_new w (.cells #[.int .u64 (b.seq:Int),.string b.prev,.string b.root,.slice sa sn sc,.slice ra rn rc] 26)).trans (hb2.mono (by simp))
  go_wp2
  go_ret
  exact ⟨rfl,HF⟩
end Go.Proofs.YtggnfejjcgbebaaGreatDoor
