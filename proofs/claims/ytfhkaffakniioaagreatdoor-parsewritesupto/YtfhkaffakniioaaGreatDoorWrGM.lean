/- Several texts, joined. -/
import Derived.Test.YtfhkaffakniioaaGreatDoorQ74M
set_option maxHeartbeats 8000000
set_option maxRecDepth 100000
namespace Go.Proofs.YtfhkaffakniioaaGreatDoor
open Go.RowKit
namespace Ps
theorem rck1 (tb fb:ByteArray) (n m:Nat) (ia ea:Option Addr) (ic ec:Nat) (h d:Bool) (nm nmf rE cl it e0 i0 f0:Bool) (w:World) (qe:((m:Int)==0)=e0) (qi:((n:Int)==0)=i0) (qf:(fb.toList==[])=f0)
  (hN:∀W,Calls Tryz.prog 35 #[.string tb] W fun e w'=>e=.returned (.bool nm)∧Below W.heap.size W w') (hF:∀W,Calls Tryz.prog 35 #[.string fb] W fun e w'=>e=.returned (.bool nmf)∧Below W.heap.size W w')
  (hR:∀W,Below w.heap.size w W→Calls Tryz.prog 17 #[.slice ea m ec] W fun e w'=>e=.returned (.bool rE)∧Below W.heap.size W w') (hC:∀W,Below w.heap.size w W→Calls Tryz.prog 19 #[.slice ea m ec] W fun e w'=>e=.returned (.bool cl)∧Below W.heap.size W w')
  (hI:∀W,Below w.heap.size w W→Calls Tryz.prog 36 #[.slice ia n ic,.int .i64 1] W fun e w'=>e=.returned (.bool it)∧Below W.heap.size W w') :
  Calls Tryz.prog 15 #[.agg #[.int .u8 1,.string tb,.string fb,.slice ia n ic,.slice ea m ec,.bool h,.bool d]] w fun e w'=>e=.returned (.int .i64 (if (nm && i0 && (!h && !d) && f0 && e0)=true then 0 else 13))∧Below w.heap.size w w':=by
 obtain⟨w1,hw1⟩:∃w1,w1=w.alloc (.cells #[.int .u8 1,.string tb,.string fb,.slice ia n ic,.slice ea m ec,.bool h,.bool d] 26):=⟨_,rfl⟩
 obtain⟨T,hT⟩:∃T,T=w.heap.size:=⟨_,rfl⟩
 have X1:Hid (w1.heap[T]?=some (.cells #[.int .u8 1,.string tb,.string fb,.slice ia n ic,.slice ea m ec,.bool h,.bool d] 26 (0,0))∧Below w.heap.size w w1):=⟨by rw[hw1,hT];exact heap_alloc_new w _,by rw[hw1];exact bnew _ _⟩
 have YA:Hid (∀W,Below w1.heap.size w1 W→W.cell? ⟨T,1,none⟩=some (.string tb)∧W.cell? ⟨T,2,none⟩=some (.string fb)∧W.cell? ⟨T,3,none⟩=some (.slice ia n ic)∧W.cell? ⟨T,4,none⟩=some (.slice ea m ec)∧W.cell? ⟨T,5,none⟩=some (.bool h)∧W.cell? ⟨T,6,none⟩=some (.bool d)):=fun W hW=>by
  have r:=(hW.block T (row_lt X1.out.1)).trans X1.out.1
  exact⟨by rw[cell_of_row _ _ _ _ _ _ r];rfl,by rw[cell_of_row _ _ _ _ _ _ r];rfl,by rw[cell_of_row _ _ _ _ _ _ r];rfl,by rw[cell_of_row _ _ _ _ _ _ r];rfl,by rw[cell_of_row _ _ _ _ _ _ r];rfl,by rw[cell_of_row _ _ _ _ _ _ r];rfl⟩
 have HN:=hidp hN
 have HF:=hidp hF
 have HR:=hidp (fun W (hW:Below w1.heap.size w1 W)=>hR W (X1.out.2.trans (hW.mono X1.out.2.size)))
 have HC:=hidp (fun W (hW:Below w1.heap.size w1 W)=>hC W (X1.out.2.trans (hW.mono X1.out.2.size)))
 have HI:=hidp (fun W (hW:Below w1.heap.size w1 W)=>hI W (X1.out.2.trans (hW.mono X1.out.2.size)))
 have qf2:(fb.toList != [])=!f0:=by rw[bne,qf]
 have qf3:fb.toList.isEmpty=f0:=by rw[←qf];cases fb.toList<;>rfl
 have QF:Hid ((fb.toList==[])=f0∧(fb.toList != [])=!f0∧fb.toList.isEmpty=f0):=⟨qf,qf2,qf3⟩
 have X2:Hid (Below w1.heap.size w1 w1):=Below.refl _ _
 have y0:w1.cell? ⟨T,0,none⟩=some (.int .u8 1):=by rw[cell_of_row _ _ _ _ _ _ X1.out.1];rfl
 obtain⟨y1,y2,y3,y4,y5,y6⟩:=YA.out w1 X2.out
 clear hN hF hR hC hI
 go_enter Tryz.func15,Tryz.ntmps15
 go_upto_region 2 with fail
 rw[←hw1,←hT]
 clear hw1 hT y0
 cases e0 with
 | true =>
  have C5:=hidp (HN.out w1)
  go_wp2_with fail
  refine(C5.out).mono ?_
  rintro e w5 ⟨rfl,hb5⟩
  have X5:Hid (Below w1.heap.size w1 w5):=X2.out.trans (hb5.mono X2.out.size)
  clear hb5 C5 y1 y2 y3 y4 y5 y6
  obtain⟨y1,y2,y3,y4,y5,y6⟩:=YA.out w5 X5.out
  cases nm with
  | false =>
   go_wp2
   go_ret
   exact⟨rfl,X1.out.2.trans (X5.out.mono X1.out.2.size)⟩
  | true =>
   cases i0 with
   | false =>
    go_wp2
    go_ret
    exact⟨rfl,X1.out.2.trans (X5.out.mono X1.out.2.size)⟩
   | true =>
    cases h with
    | true =>
     go_wp2
     go_ret
     exact⟨rfl,X1.out.2.trans (X5.out.mono X1.out.2.size)⟩
    | false =>
     cases d with
     | true =>
      go_wp2
      go_ret
      exact⟨rfl,X1.out.2.trans (X5.out.mono X1.out.2.size)⟩
     | false =>
      cases f0 with
      | false =>
       go_wp2
       go_ret
       exact⟨rfl,X1.out.2.trans (X5.out.mono X1.out.2.size)⟩
      | true =>
       go_wp2
       go_ret
       exact⟨rfl,X1.out.2.trans (X5.out.mono X1.out.2.size)⟩
 | false =>
  have C4:=hidp (HR.out w1 X2.out)
  go_wp2_with fail
  refine(C4.out).mono ?_
  rintro e w4 ⟨rfl,hb4⟩
  have X4:Hid (Below w1.heap.size w1 w4):=X2.out.trans (hb4.mono X2.out.size)
  clear hb4 C4 y1 y2 y3 y4 y5 y6
  obtain⟨y1,y2,y3,y4,y5,y6⟩:=YA.out w4 X4.out
  have C5:=hidp (HN.out w4)
  go_wp2_with fail
  refine(C5.out).mono ?_
  rintro e w5 ⟨rfl,hb5⟩
  have X5:Hid (Below w1.heap.size w1 w5):=X4.out.trans (hb5.mono X4.out.size)
  clear hb5 C5 y1 y2 y3 y4 y5 y6
  obtain⟨y1,y2,y3,y4,y5,y6⟩:=YA.out w5 X5.out
  cases nm with
  | false =>
   go_wp2
   go_ret
   exact⟨rfl,X1.out.2.trans (X5.out.mono X1.out.2.size)⟩
  | true =>
   cases i0 with
   | false =>
    go_wp2
    go_ret
    exact⟨rfl,X1.out.2.trans (X5.out.mono X1.out.2.size)⟩
   | true =>
    cases h with
    | true =>
     go_wp2
     go_ret
     exact⟨rfl,X1.out.2.trans (X5.out.mono X1.out.2.size)⟩
    | false =>
     cases d with
     | true =>
      go_wp2
      go_ret
      exact⟨rfl,X1.out.2.trans (X5.out.mono X1.out.2.size)⟩
     | false =>
      cases f0 with
      | false =>
       go_wp2
       go_ret
       exact⟨rfl,X1.out.2.trans (X5.out.mono X1.out.2.size)⟩
      | true =>
       go_wp2
       go_ret
       exact⟨rfl,X1.out.2.trans (X5.out.mono X1.out.2.size)⟩
theorem rck2 (tb fb:ByteArray) (n m:Nat) (ia ea:Option Addr) (ic ec:Nat) (h d:Bool) (nm nmf rE cl it e0 i0 f0:Bool) (w:World) (qe:((m:Int)==0)=e0) (qi:((n:Int)==0)=i0) (qf:(fb.toList==[])=f0)
  (hN:∀W,Calls Tryz.prog 35 #[.string tb] W fun e w'=>e=.returned (.bool nm)∧Below W.heap.size W w') (hF:∀W,Calls Tryz.prog 35 #[.string fb] W fun e w'=>e=.returned (.bool nmf)∧Below W.heap.size W w')
  (hR:∀W,Below w.heap.size w W→Calls Tryz.prog 17 #[.slice ea m ec] W fun e w'=>e=.returned (.bool rE)∧Below W.heap.size W w') (hC:∀W,Below w.heap.size w W→Calls Tryz.prog 19 #[.slice ea m ec] W fun e w'=>e=.returned (.bool cl)∧Below W.heap.size W w')
  (hI:∀W,Below w.heap.size w W→Calls Tryz.prog 36 #[.slice ia n ic,.int .i64 1] W fun e w'=>e=.returned (.bool it)∧Below W.heap.size W w') :
  Calls Tryz.prog 15 #[.agg #[.int .u8 2,.string tb,.string fb,.slice ia n ic,.slice ea m ec,.bool h,.bool d]] w fun e w'=>e=.returned (.int .i64 (if (nm && i0 && (!h && !d) && e0 && nmf)=true then 0 else 13))∧Below w.heap.size w w':=by
 obtain⟨w1,hw1⟩:∃w1,w1=w.alloc (.cells #[.int .u8 2,.string tb,.string fb,.slice ia n ic,.slice ea m ec,.bool h,.bool d] 26):=⟨_,rfl⟩
 obtain⟨T,hT⟩:∃T,T=w.heap.size:=⟨_,rfl⟩
 have X1:Hid (w1.heap[T]?=some (.cells #[.int .u8 2,.string tb,.string fb,.slice ia n ic,.slice ea m ec,.bool h,.bool d] 26 (0,0))∧Below w.heap.size w w1):=⟨by rw[hw1,hT];exact heap_alloc_new w _,by rw[hw1];exact bnew _ _⟩
 have YA:Hid (∀W,Below w1.heap.size w1 W→W.cell? ⟨T,1,none⟩=some (.string tb)∧W.cell? ⟨T,2,none⟩=some (.string fb)∧W.cell? ⟨T,3,none⟩=some (.slice ia n ic)∧W.cell? ⟨T,4,none⟩=some (.slice ea m ec)∧W.cell? ⟨T,5,none⟩=some (.bool h)∧W.cell? ⟨T,6,none⟩=some (.bool d)):=fun W hW=>by
  have r:=(hW.block T (row_lt X1.out.1)).trans X1.out.1
  exact⟨by rw[cell_of_row _ _ _ _ _ _ r];rfl,by rw[cell_of_row _ _ _ _ _ _ r];rfl,by rw[cell_of_row _ _ _ _ _ _ r];rfl,by rw[cell_of_row _ _ _ _ _ _ r];rfl,by rw[cell_of_row _ _ _ _ _ _ r];rfl,by rw[cell_of_row _ _ _ _ _ _ r];rfl⟩
 have HN:=hidp hN
 have HF:=hidp hF
 have HR:=hidp (fun W (hW:Below w1.heap.size w1 W)=>hR W (X1.out.2.trans (hW.mono X1.out.2.size)))
 have HC:=hidp (fun W (hW:Below w1.heap.size w1 W)=>hC W (X1.out.2.trans (hW.mono X1.out.2.size)))
 have HI:=hidp (fun W (hW:Below w1.heap.size w1 W)=>hI W (X1.out.2.trans (hW.mono X1.out.2.size)))
 have qf2:(fb.toList != [])=!f0:=by rw[bne,qf]
 have qf3:fb.toList.isEmpty=f0:=by rw[←qf];cases fb.toList<;>rfl
 have QF:Hid ((fb.toList==[])=f0∧(fb.toList != [])=!f0∧fb.toList.isEmpty=f0):=⟨qf,qf2,qf3⟩
 have X2:Hid (Below w1.heap.size w1 w1):=Below.refl _ _
 have y0:w1.cell? ⟨T,0,none⟩=some (.int .u8 2):=by rw[cell_of_row _ _ _ _ _ _ X1.out.1];rfl
 obtain⟨y1,y2,y3,y4,y5,y6⟩:=YA.out w1 X2.out
 clear hN hF hR hC hI
 go_enter Tryz.func15,Tryz.ntmps15
 go_upto_region 2 with fail
 rw[←hw1,←hT]
 clear hw1 hT y0
 cases e0 with
 | true =>
  have C5:=hidp (HN.out w1)
  go_wp2_with fail
  refine(C5.out).mono ?_
  rintro e w5 ⟨rfl,hb5⟩
  have X5:Hid (Below w1.heap.size w1 w5):=X2.out.trans (hb5.mono X2.out.size)
  clear hb5 C5 y1 y2 y3 y4 y5 y6
  obtain⟨y1,y2,y3,y4,y5,y6⟩:=YA.out w5 X5.out
  cases nm with
  | false =>
   go_wp2
   go_ret
   exact⟨rfl,X1.out.2.trans (X5.out.mono X1.out.2.size)⟩
  | true =>
   cases i0 with
   | false =>
    go_wp2
    go_ret
    exact⟨rfl,X1.out.2.trans (X5.out.mono X1.out.2.size)⟩
   | true =>
    cases h with
    | true =>
     go_wp2
     go_ret
     exact⟨rfl,X1.out.2.trans (X5.out.mono X1.out.2.size)⟩
    | false =>
     cases d with
     | true =>
      go_wp2
      go_ret
      exact⟨rfl,X1.out.2.trans (X5.out.mono X1.out.2.size)⟩
     | false =>
      have C6:=hidp (HF.out w5)
      go_wp2_with fail
      refine(C6.out).mono ?_
      rintro e w6 ⟨rfl,hb6⟩
      have X6:Hid (Below w1.heap.size w1 w6):=X5.out.trans (hb6.mono X5.out.size)
      clear hb6 C6 y1 y2 y3 y4 y5 y6
      obtain⟨y1,y2,y3,y4,y5,y6⟩:=YA.out w6 X6.out
      cases nmf with
      | false =>
       go_wp2
       go_ret
       exact⟨rfl,X1.out.2.trans (X6.out.mono X1.out.2.size)⟩
      | true =>
       go_wp2
       go_ret
       exact⟨rfl,X1.out.2.trans (X6.out.mono X1.out.2.size)⟩
 | false =>
  have C4:=hidp (HR.out w1 X2.out)
  go_wp2_with fail
  refine(C4.out).mono ?_
  rintro e w4 ⟨rfl,hb4⟩
  have X4:Hid (Below w1.heap.size w1 w4):=X2.out.trans (hb4.mono X2.out.size)
  clear hb4 C4 y1 y2 y3 y4 y5 y6
  obtain⟨y1,y2,y3,y4,y5,y6⟩:=YA.out w4 X4.out
  have C5:=hidp (HN.out w4)
  go_wp2_with fail
  refine(C5.out).mono ?_
  rintro e w5 ⟨rfl,hb5⟩
  have X5:Hid (Below w1.heap.size w1 w5):=X4.out.trans (hb5.mono X4.out.size)
  clear hb5 C5 y1 y2 y3 y4 y5 y6
  obtain⟨y1,y2,y3,y4,y5,y6⟩:=YA.out w5 X5.out
  cases nm with
  | false =>
   go_wp2
   go_ret
   exact⟨rfl,X1.out.2.trans (X5.out.mono X1.out.2.size)⟩
  | true =>
   cases i0 with
   | false =>
    go_wp2
    go_ret
    exact⟨rfl,X1.out.2.trans (X5.out.mono X1.out.2.size)⟩
   | true =>
    cases h with
    | true =>
     go_wp2
     go_ret
     exact⟨rfl,X1.out.2.trans (X5.out.mono X1.out.2.size)⟩
    | false =>
     cases d with
     | true =>
      go_wp2
      go_ret
      exact⟨rfl,X1.out.2.trans (X5.out.mono X1.out.2.size)⟩
     | false =>
      go_wp2
      go_ret
      exact⟨rfl,X1.out.2.trans (X5.out.mono X1.out.2.size)⟩
theorem rck3 (tb fb:ByteArray) (n m:Nat) (ia ea:Option Addr) (ic ec:Nat) (h d:Bool) (nm nmf rE cl it e0 i0 f0:Bool) (w:World) (qe:((m:Int)==0)=e0) (qi:((n:Int)==0)=i0) (qf:(fb.toList==[])=f0)
  (hN:∀W,Calls Tryz.prog 35 #[.string tb] W fun e w'=>e=.returned (.bool nm)∧Below W.heap.size W w') (hF:∀W,Calls Tryz.prog 35 #[.string fb] W fun e w'=>e=.returned (.bool nmf)∧Below W.heap.size W w')
  (hR:∀W,Below w.heap.size w W→Calls Tryz.prog 17 #[.slice ea m ec] W fun e w'=>e=.returned (.bool rE)∧Below W.heap.size W w') (hC:∀W,Below w.heap.size w W→Calls Tryz.prog 19 #[.slice ea m ec] W fun e w'=>e=.returned (.bool cl)∧Below W.heap.size W w')
  (hI:∀W,Below w.heap.size w W→Calls Tryz.prog 36 #[.slice ia n ic,.int .i64 1] W fun e w'=>e=.returned (.bool it)∧Below W.heap.size W w') :
  Calls Tryz.prog 15 #[.agg #[.int .u8 3,.string tb,.string fb,.slice ia n ic,.slice ea m ec,.bool h,.bool d]] w fun e w'=>e=.returned (.int .i64 (if (nm && i0 && (!h && !d) && f0 && rE && cl)=true then 0 else 13))∧Below w.heap.size w w':=by
 obtain⟨w1,hw1⟩:∃w1,w1=w.alloc (.cells #[.int .u8 3,.string tb,.string fb,.slice ia n ic,.slice ea m ec,.bool h,.bool d] 26):=⟨_,rfl⟩
 obtain⟨T,hT⟩:∃T,T=w.heap.size:=⟨_,rfl⟩
 have X1:Hid (w1.heap[T]?=some (.cells #[.int .u8 3,.string tb,.string fb,.slice ia n ic,.slice ea m ec,.bool h,.bool d] 26 (0,0))∧Below w.heap.size w w1):=⟨by rw[hw1,hT];exact heap_alloc_new w _,by rw[hw1];exact bnew _ _⟩
 have YA:Hid (∀W,Below w1.heap.size w1 W→W.cell? ⟨T,1,none⟩=some (.string tb)∧W.cell? ⟨T,2,none⟩=some (.string fb)∧W.cell? ⟨T,3,none⟩=some (.slice ia n ic)∧W.cell? ⟨T,4,none⟩=some (.slice ea m ec)∧W.cell? ⟨T,5,none⟩=some (.bool h)∧W.cell? ⟨T,6,none⟩=some (.bool d)):=fun W hW=>by
  have r:=(hW.block T (row_lt X1.out.1)).trans X1.out.1
  exact⟨by rw[cell_of_row _ _ _ _ _ _ r];rfl,by rw[cell_of_row _ _ _ _ _ _ r];rfl,by rw[cell_of_row _ _ _ _ _ _ r];rfl,by rw[cell_of_row _ _ _ _ _ _ r];rfl,by rw[cell_of_row _ _ _ _ _ _ r];rfl,by rw[cell_of_row _ _ _ _ _ _ r];rfl⟩
 have HN:=hidp hN
 have HF:=hidp hF
 have HR:=hidp (fun W (hW:Below w1.heap.size w1 W)=>hR W (X1.out.2.trans (hW.mono X1.out.2.size)))
 have HC:=hidp (fun W (hW:Below w1.heap.size w1 W)=>hC W (X1.out.2.trans (hW.mono X1.out.2.size)))
 have HI:=hidp (fun W (hW:Below w1.heap.size w1 W)=>hI W (X1.out.2.trans (hW.mono X1.out.2.size)))
 have qf2:(fb.toList != [])=!f0:=by rw[bne,qf]
 have qf3:fb.toList.isEmpty=f0:=by rw[←qf];cases fb.toList<;>rfl
 have QF:Hid ((fb.toList==[])=f0∧(fb.toList != [])=!f0∧fb.toList.isEmpty=f0):=⟨qf,qf2,qf3⟩
 have X2:Hid (Below w1.heap.size w1 w1):=Below.refl _ _
 have y0:w1.cell? ⟨T,0,none⟩=some (.int .u8 3):=by rw[cell_of_row _ _ _ _ _ _ X1.out.1];rfl
 obtain⟨y1,y2,y3,y4,y5,y6⟩:=YA.out w1 X2.out
 clear hN hF hR hC hI
 go_enter Tryz.func15,Tryz.ntmps15
 go_upto_region 2 with fail
 rw[←hw1,←hT]
 clear hw1 hT y0
 cases e0 with
 | true =>
  have C5:=hidp (HN.out w1)
  go_wp2_with fail
  refine(C5.out).mono ?_
  rintro e w5 ⟨rfl,hb5⟩
  have X5:Hid (Below w1.heap.size w1 w5):=X2.out.trans (hb5.mono X2.out.size)
  clear hb5 C5 y1 y2 y3 y4 y5 y6
  obtain⟨y1,y2,y3,y4,y5,y6⟩:=YA.out w5 X5.out
  cases nm with
  | false =>
   go_wp2
   go_ret
   exact⟨rfl,X1.out.2.trans (X5.out.mono X1.out.2.size)⟩
  | true =>
   cases i0 with
   | false =>
    go_wp2
    go_ret
    exact⟨rfl,X1.out.2.trans (X5.out.mono X1.out.2.size)⟩
   | true =>
    cases h with
    | true =>
     go_wp2
     go_ret
     exact⟨rfl,X1.out.2.trans (X5.out.mono X1.out.2.size)⟩
    | false =>
     cases d with
     | true =>
      go_wp2
      go_ret
      exact⟨rfl,X1.out.2.trans (X5.out.mono X1.out.2.size)⟩
     | false =>
      cases f0 with
      | false =>
       go_wp2
       go_ret
       exact⟨rfl,X1.out.2.trans (X5.out.mono X1.out.2.size)⟩
      | true =>
       have C6:=hidp (HR.out w5 X5.out)
       go_wp2_with fail
       refine(C6.out).mono ?_
       rintro e w6 ⟨rfl,hb6⟩
       have X6:Hid (Below w1.heap.size w1 w6):=X5.out.trans (hb6.mono X5.out.size)
       clear hb6 C6 y1 y2 y3 y4 y5 y6
       obtain⟨y1,y2,y3,y4,y5,y6⟩:=YA.out w6 X6.out
       cases rE with
       | false =>
        go_wp2
        go_ret
        exact⟨rfl,X1.out.2.trans (X6.out.mono X1.out.2.size)⟩
       | true =>
        have C7:=hidp (HC.out w6 X6.out)
        go_wp2_with fail
        refine(C7.out).mono ?_
        rintro e w7 ⟨rfl,hb7⟩
        have X7:Hid (Below w1.heap.size w1 w7):=X6.out.trans (hb7.mono X6.out.size)
        clear hb7 C7 y1 y2 y3 y4 y5 y6
        obtain⟨y1,y2,y3,y4,y5,y6⟩:=YA.out w7 X7.out
        cases cl with
        | false =>
         go_wp2
         go_ret
         exact⟨rfl,X1.out.2.trans (X7.out.mono X1.out.2.size)⟩
        | true =>
         go_wp2
         go_ret
         exact⟨rfl,X1.out.2.trans (X7.out.mono X1.out.2.size)⟩
 | false =>
  have C4:=hidp (HR.out w1 X2.out)
  go_wp2_with fail
  refine(C4.out).mono ?_
  rintro e w4 ⟨rfl,hb4⟩
  have X4:Hid (Below w1.heap.size w1 w4):=X2.out.trans (hb4.mono X2.out.size)
  clear hb4 C4 y1 y2 y3 y4 y5 y6
  obtain⟨y1,y2,y3,y4,y5,y6⟩:=YA.out w4 X4.out
  have C5:=hidp (HN.out w4)
  go_wp2_with fail
  refine(C5.out).mono ?_
  rintro e w5 ⟨rfl,hb5⟩
  have X5:Hid (Below w1.heap.size w1 w5):=X4.out.trans (hb5.mono X4.out.size)
  clear hb5 C5 y1 y2 y3 y4 y5 y6
  obtain⟨y1,y2,y3,y4,y5,y6⟩:=YA.out w5 X5.out
  cases nm with
  | false =>
   go_wp2
   go_ret
   exact⟨rfl,X1.out.2.trans (X5.out.mono X1.out.2.size)⟩
  | true =>
   cases i0 with
   | false =>
    go_wp2
    go_ret
    exact⟨rfl,X1.out.2.trans (X5.out.mono X1.out.2.size)⟩
   | true =>
    cases h with
    | true =>
     go_wp2
     go_ret
     exact⟨rfl,X1.out.2.trans (X5.out.mono X1.out.2.size)⟩
    | false =>
     cases d with
     | true =>
      go_wp2
      go_ret
      exact⟨rfl,X1.out.2.trans (X5.out.mono X1.out.2.size)⟩
     | false =>
      cases f0 with
      | false =>
       go_wp2
       go_ret
       exact⟨rfl,X1.out.2.trans (X5.out.mono X1.out.2.size)⟩
      | true =>
       have C6:=hidp (HR.out w5 X5.out)
       go_wp2_with fail
       refine(C6.out).mono ?_
       rintro e w6 ⟨rfl,hb6⟩
       have X6:Hid (Below w1.heap.size w1 w6):=X5.out.trans (hb6.mono X5.out.size)
       clear hb6 C6 y1 y2 y3 y4 y5 y6
       obtain⟨y1,y2,y3,y4,y5,y6⟩:=YA.out w6 X6.out
       cases rE with
       | false =>
        go_wp2
        go_ret
        exact⟨rfl,X1.out.2.trans (X6.out.mono X1.out.2.size)⟩
       | true =>
        have C7:=hidp (HC.out w6 X6.out)
        go_wp2_with fail
        refine(C7.out).mono ?_
        rintro e w7 ⟨rfl,hb7⟩
        have X7:Hid (Below w1.heap.size w1 w7):=X6.out.trans (hb7.mono X6.out.size)
        clear hb7 C7 y1 y2 y3 y4 y5 y6
        obtain⟨y1,y2,y3,y4,y5,y6⟩:=YA.out w7 X7.out
        cases cl with
        | false =>
         go_wp2
         go_ret
         exact⟨rfl,X1.out.2.trans (X7.out.mono X1.out.2.size)⟩
        | true =>
         go_wp2
         go_ret
         exact⟨rfl,X1.out.2.trans (X7.out.mono X1.out.2.size)⟩
theorem rck4 (tb fb:ByteArray) (n m:Nat) (ia ea:Option Addr) (ic ec:Nat) (h d:Bool) (nm nmf rE cl it e0 i0 f0:Bool) (w:World) (qe:((m:Int)==0)=e0) (_:((n:Int)==0)=i0) (qf:(fb.toList==[])=f0)
  (hN:∀W,Calls Tryz.prog 35 #[.string tb] W fun e w'=>e=.returned (.bool nm)∧Below W.heap.size W w') (hF:∀W,Calls Tryz.prog 35 #[.string fb] W fun e w'=>e=.returned (.bool nmf)∧Below W.heap.size W w')
  (hR:∀W,Below w.heap.size w W→Calls Tryz.prog 17 #[.slice ea m ec] W fun e w'=>e=.returned (.bool rE)∧Below W.heap.size W w') (hC:∀W,Below w.heap.size w W→Calls Tryz.prog 19 #[.slice ea m ec] W fun e w'=>e=.returned (.bool cl)∧Below W.heap.size W w')
  (hI:∀W,Below w.heap.size w W→Calls Tryz.prog 36 #[.slice ia n ic,.int .i64 1] W fun e w'=>e=.returned (.bool it)∧Below W.heap.size W w') :
  Calls Tryz.prog 15 #[.agg #[.int .u8 4,.string tb,.string fb,.slice ia n ic,.slice ea m ec,.bool h,.bool d]] w fun e w'=>e=.returned (.int .i64 (if (nm && (!h && !d) && f0 && (e0 || rE) && it)=true then 0 else 13))∧Below w.heap.size w w':=by
 obtain⟨w1,hw1⟩:∃w1,w1=w.alloc (.cells #[.int .u8 4,.string tb,.string fb,.slice ia n ic,.slice ea m ec,.bool h,.bool d] 26):=⟨_,rfl⟩
 obtain⟨T,hT⟩:∃T,T=w.heap.size:=⟨_,rfl⟩
 have X1:Hid (w1.heap[T]?=some (.cells #[.int .u8 4,.string tb,.string fb,.slice ia n ic,.slice ea m ec,.bool h,.bool d] 26 (0,0))∧Below w.heap.size w w1):=⟨by rw[hw1,hT];exact heap_alloc_new w _,by rw[hw1];exact bnew _ _⟩
 have YA:Hid (∀W,Below w1.heap.size w1 W→W.cell? ⟨T,1,none⟩=some (.string tb)∧W.cell? ⟨T,2,none⟩=some (.string fb)∧W.cell? ⟨T,3,none⟩=some (.slice ia n ic)∧W.cell? ⟨T,4,none⟩=some (.slice ea m ec)∧W.cell? ⟨T,5,none⟩=some (.bool h)∧W.cell? ⟨T,6,none⟩=some (.bool d)):=fun W hW=>by
  have r:=(hW.block T (row_lt X1.out.1)).trans X1.out.1
  exact⟨by rw[cell_of_row _ _ _ _ _ _ r];rfl,by rw[cell_of_row _ _ _ _ _ _ r];rfl,by rw[cell_of_row _ _ _ _ _ _ r];rfl,by rw[cell_of_row _ _ _ _ _ _ r];rfl,by rw[cell_of_row _ _ _ _ _ _ r];rfl,by rw[cell_of_row _ _ _ _ _ _ r];rfl⟩
 have HN:=hidp hN
 have HF:=hidp hF
 have HR:=hidp (fun W (hW:Below w1.heap.size w1 W)=>hR W (X1.out.2.trans (hW.mono X1.out.2.size)))
 have HC:=hidp (fun W (hW:Below w1.heap.size w1 W)=>hC W (X1.out.2.trans (hW.mono X1.out.2.size)))
 have HI:=hidp (fun W (hW:Below w1.heap.size w1 W)=>hI W (X1.out.2.trans (hW.mono X1.out.2.size)))
 have qf2:(fb.toList != [])=!f0:=by rw[bne,qf]
 have qf3:fb.toList.isEmpty=f0:=by rw[←qf];cases fb.toList<;>rfl
 have QF:Hid ((fb.toList==[])=f0∧(fb.toList != [])=!f0∧fb.toList.isEmpty=f0):=⟨qf,qf2,qf3⟩
 have X2:Hid (Below w1.heap.size w1 w1):=Below.refl _ _
 have y0:w1.cell? ⟨T,0,none⟩=some (.int .u8 4):=by rw[cell_of_row _ _ _ _ _ _ X1.out.1];rfl
 obtain⟨y1,y2,y3,y4,y5,y6⟩:=YA.out w1 X2.out
 clear hN hF hR hC hI
 go_enter Tryz.func15,Tryz.ntmps15
 go_upto_region 2 with fail
 rw[←hw1,←hT]
 clear hw1 hT y0
 cases e0 with
 | true =>
  have C5:=hidp (HN.out w1)
  go_wp2_with fail
  refine(C5.out).mono ?_
  rintro e w5 ⟨rfl,hb5⟩
  have X5:Hid (Below w1.heap.size w1 w5):=X2.out.trans (hb5.mono X2.out.size)
  clear hb5 C5 y1 y2 y3 y4 y5 y6
  obtain⟨y1,y2,y3,y4,y5,y6⟩:=YA.out w5 X5.out
  cases nm with
  | false =>
   go_wp2
   go_ret
   exact⟨rfl,X1.out.2.trans (X5.out.mono X1.out.2.size)⟩
  | true =>
   cases h with
   | true =>
    go_wp2
    go_ret
    exact⟨rfl,X1.out.2.trans (X5.out.mono X1.out.2.size)⟩
   | false =>
    cases d with
    | true =>
     go_wp2
     go_ret
     exact⟨rfl,X1.out.2.trans (X5.out.mono X1.out.2.size)⟩
    | false =>
     cases f0 with
     | false =>
      go_wp2
      go_ret
      exact⟨rfl,X1.out.2.trans (X5.out.mono X1.out.2.size)⟩
     | true =>
      have C6:=hidp (HI.out w5 X5.out)
      go_wp2_with fail
      refine(C6.out).mono ?_
      rintro e w6 ⟨rfl,hb6⟩
      have X6:Hid (Below w1.heap.size w1 w6):=X5.out.trans (hb6.mono X5.out.size)
      clear hb6 C6 y1 y2 y3 y4 y5 y6
      obtain⟨y1,y2,y3,y4,y5,y6⟩:=YA.out w6 X6.out
      cases it with
      | false =>
       go_wp2
       go_ret
       exact⟨rfl,X1.out.2.trans (X6.out.mono X1.out.2.size)⟩
      | true =>
       go_wp2
       go_ret
       exact⟨rfl,X1.out.2.trans (X6.out.mono X1.out.2.size)⟩
 | false =>
  have C4:=hidp (HR.out w1 X2.out)
  go_wp2_with fail
  refine(C4.out).mono ?_
  rintro e w4 ⟨rfl,hb4⟩
  have X4:Hid (Below w1.heap.size w1 w4):=X2.out.trans (hb4.mono X2.out.size)
  clear hb4 C4 y1 y2 y3 y4 y5 y6
  obtain⟨y1,y2,y3,y4,y5,y6⟩:=YA.out w4 X4.out
  have C5:=hidp (HN.out w4)
  go_wp2_with fail
  refine(C5.out).mono ?_
  rintro e w5 ⟨rfl,hb5⟩
  have X5:Hid (Below w1.heap.size w1 w5):=X4.out.trans (hb5.mono X4.out.size)
  clear hb5 C5 y1 y2 y3 y4 y5 y6
  obtain⟨y1,y2,y3,y4,y5,y6⟩:=YA.out w5 X5.out
  cases nm with
  | false =>
   go_wp2
   go_ret
   exact⟨rfl,X1.out.2.trans (X5.out.mono X1.out.2.size)⟩
  | true =>
   cases h with
   | true =>
    go_wp2
    go_ret
    exact⟨rfl,X1.out.2.trans (X5.out.mono X1.out.2.size)⟩
   | false =>
    cases d with
    | true =>
     go_wp2
     go_ret
     exact⟨rfl,X1.out.2.trans (X5.out.mono X1.out.2.size)⟩
    | false =>
     cases f0 with
     | false =>
      go_wp2
      go_ret
      exact⟨rfl,X1.out.2.trans (X5.out.mono X1.out.2.size)⟩
     | true =>
      cases rE with
      | false =>
       go_wp2
       go_ret
       exact⟨rfl,X1.out.2.trans (X5.out.mono X1.out.2.size)⟩
      | true =>
       have C6:=hidp (HI.out w5 X5.out)
       go_wp2_with fail
       refine(C6.out).mono ?_
       rintro e w6 ⟨rfl,hb6⟩
       have X6:Hid (Below w1.heap.size w1 w6):=X5.out.trans (hb6.mono X5.out.size)
       clear hb6 C6 y1 y2 y3 y4 y5 y6
       obtain⟨y1,y2,y3,y4,y5,y6⟩:=YA.out w6 X6.out
       cases it with
       | false =>
        go_wp2
        go_ret
        exact⟨rfl,X1.out.2.trans (X6.out.mono X1.out.2.size)⟩
       | true =>
        go_wp2
        go_ret
        exact⟨rfl,X1.out.2.trans (X6.out.mono X1.out.2.size)⟩
theorem rck5 (tb fb:ByteArray) (n m:Nat) (ia ea:Option Addr) (ic ec:Nat) (h d:Bool) (nm nmf rE cl it e0 i0 f0:Bool) (w:World) (qe:((m:Int)==0)=e0) (qi:((n:Int)==0)=i0) (qf:(fb.toList==[])=f0)
  (hN:∀W,Calls Tryz.prog 35 #[.string tb] W fun e w'=>e=.returned (.bool nm)∧Below W.heap.size W w') (hF:∀W,Calls Tryz.prog 35 #[.string fb] W fun e w'=>e=.returned (.bool nmf)∧Below W.heap.size W w')
  (hR:∀W,Below w.heap.size w W→Calls Tryz.prog 17 #[.slice ea m ec] W fun e w'=>e=.returned (.bool rE)∧Below W.heap.size W w') (hC:∀W,Below w.heap.size w W→Calls Tryz.prog 19 #[.slice ea m ec] W fun e w'=>e=.returned (.bool cl)∧Below W.heap.size W w')
  (hI:∀W,Below w.heap.size w W→Calls Tryz.prog 36 #[.slice ia n ic,.int .i64 1] W fun e w'=>e=.returned (.bool it)∧Below W.heap.size W w') :
  Calls Tryz.prog 15 #[.agg #[.int .u8 5,.string tb,.string fb,.slice ia n ic,.slice ea m ec,.bool h,.bool d]] w fun e w'=>e=.returned (.int .i64 (if (nm && i0 && (!h && !d) && f0 && (e0 || rE))=true then 0 else 13))∧Below w.heap.size w w':=by
 obtain⟨w1,hw1⟩:∃w1,w1=w.alloc (.cells #[.int .u8 5,.string tb,.string fb,.slice ia n ic,.slice ea m ec,.bool h,.bool d] 26):=⟨_,rfl⟩
 obtain⟨T,hT⟩:∃T,T=w.heap.size:=⟨_,rfl⟩
 have X1:Hid (w1.heap[T]?=some (.cells #[.int .u8 5,.string tb,.string fb,.slice ia n ic,.slice ea m ec,.bool h,.bool d] 26 (0,0))∧Below w.heap.size w w1):=⟨by rw[hw1,hT];exact heap_alloc_new w _,by rw[hw1];exact bnew _ _⟩
 have YA:Hid (∀W,Below w1.heap.size w1 W→W.cell? ⟨T,1,none⟩=some (.string tb)∧W.cell? ⟨T,2,none⟩=some (.string fb)∧W.cell? ⟨T,3,none⟩=some (.slice ia n ic)∧W.cell? ⟨T,4,none⟩=some (.slice ea m ec)∧W.cell? ⟨T,5,none⟩=some (.bool h)∧W.cell? ⟨T,6,none⟩=some (.bool d)):=fun W hW=>by
  have r:=(hW.block T (row_lt X1.out.1)).trans X1.out.1
  exact⟨by rw[cell_of_row _ _ _ _ _ _ r];rfl,by rw[cell_of_row _ _ _ _ _ _ r];rfl,by rw[cell_of_row _ _ _ _ _ _ r];rfl,by rw[cell_of_row _ _ _ _ _ _ r];rfl,by rw[cell_of_row _ _ _ _ _ _ r];rfl,by rw[cell_of_row _ _ _ _ _ _ r];rfl⟩
 have HN:=hidp hN
 have HF:=hidp hF
 have HR:=hidp (fun W (hW:Below w1.heap.size w1 W)=>hR W (X1.out.2.trans (hW.mono X1.out.2.size)))
 have HC:=hidp (fun W (hW:Below w1.heap.size w1 W)=>hC W (X1.out.2.trans (hW.mono X1.out.2.size)))
 have HI:=hidp (fun W (hW:Below w1.heap.size w1 W)=>hI W (X1.out.2.trans (hW.mono X1.out.2.size)))
 have qf2:(fb.toList != [])=!f0:=by rw[bne,qf]
 have qf3:fb.toList.isEmpty=f0:=by rw[←qf];cases fb.toList<;>rfl
 have QF:Hid ((fb.toList==[])=f0∧(fb.toList != [])=!f0∧fb.toList.isEmpty=f0):=⟨qf,qf2,qf3⟩
 have X2:Hid (Below w1.heap.size w1 w1):=Below.refl _ _
 have y0:w1.cell? ⟨T,0,none⟩=some (.int .u8 5):=by rw[cell_of_row _ _ _ _ _ _ X1.out.1];rfl
 obtain⟨y1,y2,y3,y4,y5,y6⟩:=YA.out w1 X2.out
 clear hN hF hR hC hI
 go_enter Tryz.func15,Tryz.ntmps15
 go_upto_region 2 with fail
 rw[←hw1,←hT]
 clear hw1 hT y0
 cases e0 with
 | true =>
  have C5:=hidp (HN.out w1)
  go_wp2_with fail
  refine(C5.out).mono ?_
  rintro e w5 ⟨rfl,hb5⟩
  have X5:Hid (Below w1.heap.size w1 w5):=X2.out.trans (hb5.mono X2.out.size)
  clear hb5 C5 y1 y2 y3 y4 y5 y6
  obtain⟨y1,y2,y3,y4,y5,y6⟩:=YA.out w5 X5.out
  cases nm with
  | false =>
   go_wp2
   go_ret
   exact⟨rfl,X1.out.2.trans (X5.out.mono X1.out.2.size)⟩
  | true =>
   cases i0 with
   | false =>
    go_wp2
    go_ret
    exact⟨rfl,X1.out.2.trans (X5.out.mono X1.out.2.size)⟩
   | true =>
    cases h with
    | true =>
     go_wp2
     go_ret
     exact⟨rfl,X1.out.2.trans (X5.out.mono X1.out.2.size)⟩
    | false =>
     cases d with
     | true =>
      go_wp2
      go_ret
      exact⟨rfl,X1.out.2.trans (X5.out.mono X1.out.2.size)⟩
     | false =>
      cases f0 with
      | false =>
       go_wp2
       go_ret
       exact⟨rfl,X1.out.2.trans (X5.out.mono X1.out.2.size)⟩
      | true =>
       go_wp2
       go_ret
       exact⟨rfl,X1.out.2.trans (X5.out.mono X1.out.2.size)⟩
 | false =>
  have C4:=hidp (HR.out w1 X2.out)
  go_wp2_with fail
  refine(C4.out).mono ?_
  rintro e w4 ⟨rfl,hb4⟩
  have X4:Hid (Below w1.heap.size w1 w4):=X2.out.trans (hb4.mono X2.out.size)
  clear hb4 C4 y1 y2 y3 y4 y5 y6
  obtain⟨y1,y2,y3,y4,y5,y6⟩:=YA.out w4 X4.out
  have C5:=hidp (HN.out w4)
  go_wp2_with fail
  refine(C5.out).mono ?_
  rintro e w5 ⟨rfl,hb5⟩
  have X5:Hid (Below w1.heap.size w1 w5):=X4.out.trans (hb5.mono X4.out.size)
  clear hb5 C5 y1 y2 y3 y4 y5 y6
  obtain⟨y1,y2,y3,y4,y5,y6⟩:=YA.out w5 X5.out
  cases nm with
  | false =>
   go_wp2
   go_ret
   exact⟨rfl,X1.out.2.trans (X5.out.mono X1.out.2.size)⟩
  | true =>
   cases i0 with
   | false =>
    go_wp2
    go_ret
    exact⟨rfl,X1.out.2.trans (X5.out.mono X1.out.2.size)⟩
   | true =>
    cases h with
    | true =>
     go_wp2
     go_ret
     exact⟨rfl,X1.out.2.trans (X5.out.mono X1.out.2.size)⟩
    | false =>
     cases d with
     | true =>
      go_wp2
      go_ret
      exact⟨rfl,X1.out.2.trans (X5.out.mono X1.out.2.size)⟩
     | false =>
      cases f0 with
      | false =>
       go_wp2
       go_ret
       exact⟨rfl,X1.out.2.trans (X5.out.mono X1.out.2.size)⟩
      | true =>
       cases rE with
       | false =>
        go_wp2
        go_ret
        exact⟨rfl,X1.out.2.trans (X5.out.mono X1.out.2.size)⟩
       | true =>
        go_wp2
        go_ret
        exact⟨rfl,X1.out.2.trans (X5.out.mono X1.out.2.size)⟩
theorem rck6 (tb fb:ByteArray) (n m:Nat) (ia ea:Option Addr) (ic ec:Nat) (h d:Bool) (nm nmf rE cl it e0 i0 f0:Bool) (w:World) (qe:((m:Int)==0)=e0) (_:((n:Int)==0)=i0) (qf:(fb.toList==[])=f0)
  (hN:∀W,Calls Tryz.prog 35 #[.string tb] W fun e w'=>e=.returned (.bool nm)∧Below W.heap.size W w') (hF:∀W,Calls Tryz.prog 35 #[.string fb] W fun e w'=>e=.returned (.bool nmf)∧Below W.heap.size W w')
  (hR:∀W,Below w.heap.size w W→Calls Tryz.prog 17 #[.slice ea m ec] W fun e w'=>e=.returned (.bool rE)∧Below W.heap.size W w') (hC:∀W,Below w.heap.size w W→Calls Tryz.prog 19 #[.slice ea m ec] W fun e w'=>e=.returned (.bool cl)∧Below W.heap.size W w')
  (hI:∀W,Below w.heap.size w W→Calls Tryz.prog 36 #[.slice ia n ic,.int .i64 0] W fun e w'=>e=.returned (.bool it)∧Below W.heap.size W w') :
  Calls Tryz.prog 15 #[.agg #[.int .u8 6,.string tb,.string fb,.slice ia n ic,.slice ea m ec,.bool h,.bool d]] w fun e w'=>e=.returned (.int .i64 (if (nm && (e0 || rE) && it && ((f0 && !d) || (!f0 && nmf)))=true then 0 else 13))∧Below w.heap.size w w':=by
 obtain⟨w1,hw1⟩:∃w1,w1=w.alloc (.cells #[.int .u8 6,.string tb,.string fb,.slice ia n ic,.slice ea m ec,.bool h,.bool d] 26):=⟨_,rfl⟩
 obtain⟨T,hT⟩:∃T,T=w.heap.size:=⟨_,rfl⟩
 have X1:Hid (w1.heap[T]?=some (.cells #[.int .u8 6,.string tb,.string fb,.slice ia n ic,.slice ea m ec,.bool h,.bool d] 26 (0,0))∧Below w.heap.size w w1):=⟨by rw[hw1,hT];exact heap_alloc_new w _,by rw[hw1];exact bnew _ _⟩
 have YA:Hid (∀W,Below w1.heap.size w1 W→W.cell? ⟨T,1,none⟩=some (.string tb)∧W.cell? ⟨T,2,none⟩=some (.string fb)∧W.cell? ⟨T,3,none⟩=some (.slice ia n ic)∧W.cell? ⟨T,4,none⟩=some (.slice ea m ec)∧W.cell? ⟨T,5,none⟩=some (.bool h)∧W.cell? ⟨T,6,none⟩=some (.bool d)):=fun W hW=>by
  have r:=(hW.block T (row_lt X1.out.1)).trans X1.out.1
  exact⟨by rw[cell_of_row _ _ _ _ _ _ r];rfl,by rw[cell_of_row _ _ _ _ _ _ r];rfl,by rw[cell_of_row _ _ _ _ _ _ r];rfl,by rw[cell_of_row _ _ _ _ _ _ r];rfl,by rw[cell_of_row _ _ _ _ _ _ r];rfl,by rw[cell_of_row _ _ _ _ _ _ r];rfl⟩
 have HN:=hidp hN
 have HF:=hidp hF
 have HR:=hidp (fun W (hW:Below w1.heap.size w1 W)=>hR W (X1.out.2.trans (hW.mono X1.out.2.size)))
 have HC:=hidp (fun W (hW:Below w1.heap.size w1 W)=>hC W (X1.out.2.trans (hW.mono X1.out.2.size)))
 have HI:=hidp (fun W (hW:Below w1.heap.size w1 W)=>hI W (X1.out.2.trans (hW.mono X1.out.2.size)))
 have qf2:(fb.toList != [])=!f0:=by rw[bne,qf]
 have qf3:fb.toList.isEmpty=f0:=by rw[←qf];cases fb.toList<;>rfl
 have QF:Hid ((fb.toList==[])=f0∧(fb.toList != [])=!f0∧fb.toList.isEmpty=f0):=⟨qf,qf2,qf3⟩
 have X2:Hid (Below w1.heap.size w1 w1):=Below.refl _ _
 have y0:w1.cell? ⟨T,0,none⟩=some (.int .u8 6):=by rw[cell_of_row _ _ _ _ _ _ X1.out.1];rfl
 obtain⟨y1,y2,y3,y4,y5,y6⟩:=YA.out w1 X2.out
 clear hN hF hR hC hI qf qf2 qf3
 go_enter Tryz.func15,Tryz.ntmps15
 go_upto_region 2 with fail
 rw[←hw1,←hT]
 clear hw1 hT y0
 cases e0 with
 | true =>
  have C5:=hidp (HN.out w1)
  go_wp2_with fail
  refine(C5.out).mono ?_
  rintro e w5 ⟨rfl,hb5⟩
  have X5:Hid (Below w1.heap.size w1 w5):=X2.out.trans (hb5.mono X2.out.size)
  clear hb5 C5 y1 y2 y3 y4 y5 y6
  obtain⟨y1,y2,y3,y4,y5,y6⟩:=YA.out w5 X5.out
  cases nm with
  | false =>
   go_wp2
   go_ret
   exact⟨rfl,X1.out.2.trans (X5.out.mono X1.out.2.size)⟩
  | true =>
   have C6:=hidp (HI.out w5 X5.out)
   go_wp2_with fail
   refine(C6.out).mono ?_
   rintro e w6 ⟨rfl,hb6⟩
   have X6:Hid (Below w1.heap.size w1 w6):=X5.out.trans (hb6.mono X5.out.size)
   clear hb6 C6 y1 y2 y3 y4 y5 y6
   obtain⟨y1,y2,y3,y4,y5,y6⟩:=YA.out w6 X6.out
   cases it with
   | false =>
    go_wp2
    go_ret
    exact⟨rfl,X1.out.2.trans (X6.out.mono X1.out.2.size)⟩
   | true =>
    obtain⟨qf,qf2,qf3⟩:=QF.out
    cases f0 with
    | true =>
     cases d with
     | false =>
      go_wp2
      go_ret
      exact⟨rfl,X1.out.2.trans (X6.out.mono X1.out.2.size)⟩
     | true =>
      go_wp2
      go_ret
      exact⟨rfl,X1.out.2.trans (X6.out.mono X1.out.2.size)⟩
    | false =>
     have C7:=hidp (HF.out w6)
     go_wp2_with fail
     refine(C7.out).mono ?_
     rintro e w7 ⟨rfl,hb7⟩
     have X7:Hid (Below w1.heap.size w1 w7):=X6.out.trans (hb7.mono X6.out.size)
     clear hb7 C7 y1 y2 y3 y4 y5 y6
     obtain⟨y1,y2,y3,y4,y5,y6⟩:=YA.out w7 X7.out
     cases nmf with
     | false =>
      go_wp2
      go_ret
      exact⟨rfl,X1.out.2.trans (X7.out.mono X1.out.2.size)⟩
     | true =>
      go_wp2
      go_ret
      exact⟨rfl,X1.out.2.trans (X7.out.mono X1.out.2.size)⟩
 | false =>
  have C4:=hidp (HR.out w1 X2.out)
  go_wp2_with fail
  refine(C4.out).mono ?_
  rintro e w4 ⟨rfl,hb4⟩
  have X4:Hid (Below w1.heap.size w1 w4):=X2.out.trans (hb4.mono X2.out.size)
  clear hb4 C4 y1 y2 y3 y4 y5 y6
  obtain⟨y1,y2,y3,y4,y5,y6⟩:=YA.out w4 X4.out
  have C5:=hidp (HN.out w4)
  go_wp2_with fail
  refine(C5.out).mono ?_
  rintro e w5 ⟨rfl,hb5⟩
  have X5:Hid (Below w1.heap.size w1 w5):=X4.out.trans (hb5.mono X4.out.size)
  clear hb5 C5 y1 y2 y3 y4 y5 y6
  obtain⟨y1,y2,y3,y4,y5,y6⟩:=YA.out w5 X5.out
  cases nm with
  | false =>
   go_wp2
   go_ret
   exact⟨rfl,X1.out.2.trans (X5.out.mono X1.out.2.size)⟩
  | true =>
   cases rE with
   | false =>
    go_wp2
    go_ret
    exact⟨rfl,X1.out.2.trans (X5.out.mono X1.out.2.size)⟩
   | true =>
    have C6:=hidp (HI.out w5 X5.out)
    go_wp2_with fail
    refine(C6.out).mono ?_
    rintro e w6 ⟨rfl,hb6⟩
    have X6:Hid (Below w1.heap.size w1 w6):=X5.out.trans (hb6.mono X5.out.size)
    clear hb6 C6 y1 y2 y3 y4 y5 y6
    obtain⟨y1,y2,y3,y4,y5,y6⟩:=YA.out w6 X6.out
    cases it with
    | false =>
     go_wp2
     go_ret
     exact⟨rfl,X1.out.2.trans (X6.out.mono X1.out.2.size)⟩
    | true =>
     obtain⟨qf,qf2,qf3⟩:=QF.out
     cases f0 with
     | true =>
      cases d with
      | false =>
       go_wp2
       go_ret
       exact⟨rfl,X1.out.2.trans (X6.out.mono X1.out.2.size)⟩
      | true =>
       go_wp2
       go_ret
       exact⟨rfl,X1.out.2.trans (X6.out.mono X1.out.2.size)⟩
     | false =>
      have C7:=hidp (HF.out w6)
      go_wp2_with fail
      refine(C7.out).mono ?_
      rintro e w7 ⟨rfl,hb7⟩
      have X7:Hid (Below w1.heap.size w1 w7):=X6.out.trans (hb7.mono X6.out.size)
      clear hb7 C7 y1 y2 y3 y4 y5 y6
      obtain⟨y1,y2,y3,y4,y5,y6⟩:=YA.out w7 X7.out
      cases nmf with
      | false =>
       go_wp2
       go_ret
       exact⟨rfl,X1.out.2.trans (X7.out.mono X1.out.2.size)⟩
      | true =>
       go_wp2
       go_ret
       exact⟨rfl,X1.out.2.trans (X7.out.mono X1.out.2.size)⟩
theorem rcko (k:Int) (tb fb:ByteArray) (n m:Nat) (ia ea:Option Addr) (ic ec:Nat) (h d:Bool) (nm nmf rE cl it e0 i0 f0:Bool) (w:World) (k1:(k==1)=false) (k2:(k==2)=false) (k3:(k==3)=false) (k4:(k==4)=false) (k5:(k==5)=false) (k6:(k==6)=false) (qe:((m:Int)==0)=e0) (qi:((n:Int)==0)=i0) (qf:(fb.toList==[])=f0)
  (hN:∀W,Calls Tryz.prog 35 #[.string tb] W fun e w'=>e=.returned (.bool nm)∧Below W.heap.size W w') (hF:∀W,Calls Tryz.prog 35 #[.string fb] W fun e w'=>e=.returned (.bool nmf)∧Below W.heap.size W w')
  (hR:∀W,Below w.heap.size w W→Calls Tryz.prog 17 #[.slice ea m ec] W fun e w'=>e=.returned (.bool rE)∧Below W.heap.size W w') (hC:∀W,Below w.heap.size w W→Calls Tryz.prog 19 #[.slice ea m ec] W fun e w'=>e=.returned (.bool cl)∧Below W.heap.size W w')
  (hI:∀W,Below w.heap.size w W→Calls Tryz.prog 36 #[.slice ia n ic,.int .i64 1] W fun e w'=>e=.returned (.bool it)∧Below W.heap.size W w') :
  Calls Tryz.prog 15 #[.agg #[.int .u8 k,.string tb,.string fb,.slice ia n ic,.slice ea m ec,.bool h,.bool d]] w fun e w'=>e=.returned (.int .i64 (if (false)=true then 0 else 13))∧Below w.heap.size w w':=by
 obtain⟨w1,hw1⟩:∃w1,w1=w.alloc (.cells #[.int .u8 k,.string tb,.string fb,.slice ia n ic,.slice ea m ec,.bool h,.bool d] 26):=⟨_,rfl⟩
 obtain⟨T,hT⟩:∃T,T=w.heap.size:=⟨_,rfl⟩
 have X1:Hid (w1.heap[T]?=some (.cells #[.int .u8 k,.string tb,.string fb,.slice ia n ic,.slice ea m ec,.bool h,.bool d] 26 (0,0))∧Below w.heap.size w w1):=⟨by rw[hw1,hT];exact heap_alloc_new w _,by rw[hw1];exact bnew _ _⟩
 have YA:Hid (∀W,Below w1.heap.size w1 W→W.cell? ⟨T,1,none⟩=some (.string tb)∧W.cell? ⟨T,2,none⟩=some (.string fb)∧W.cell? ⟨T,3,none⟩=some (.slice ia n ic)∧W.cell? ⟨T,4,none⟩=some (.slice ea m ec)∧W.cell? ⟨T,5,none⟩=some (.bool h)∧W.cell? ⟨T,6,none⟩=some (.bool d)):=fun W hW=>by
  have r:=(hW.block T (row_lt X1.out.1)).trans X1.out.1
  exact⟨by rw[cell_of_row _ _ _ _ _ _ r];rfl,by rw[cell_of_row _ _ _ _ _ _ r];rfl,by rw[cell_of_row _ _ _ _ _ _ r];rfl,by rw[cell_of_row _ _ _ _ _ _ r];rfl,by rw[cell_of_row _ _ _ _ _ _ r];rfl,by rw[cell_of_row _ _ _ _ _ _ r];rfl⟩
 have HN:=hidp hN
 have HF:=hidp hF
 have HR:=hidp (fun W (hW:Below w1.heap.size w1 W)=>hR W (X1.out.2.trans (hW.mono X1.out.2.size)))
 have HC:=hidp (fun W (hW:Below w1.heap.size w1 W)=>hC W (X1.out.2.trans (hW.mono X1.out.2.size)))
 have HI:=hidp (fun W (hW:Below w1.heap.size w1 W)=>hI W (X1.out.2.trans (hW.mono X1.out.2.size)))
 have qf2:(fb.toList != [])=!f0:=by rw[bne,qf]
 have qf3:fb.toList.isEmpty=f0:=by rw[←qf];cases fb.toList<;>rfl
 have QF:Hid ((fb.toList==[])=f0∧(fb.toList != [])=!f0∧fb.toList.isEmpty=f0):=⟨qf,qf2,qf3⟩
 have X2:Hid (Below w1.heap.size w1 w1):=Below.refl _ _
 have y0:w1.cell? ⟨T,0,none⟩=some (.int .u8 k):=by rw[cell_of_row _ _ _ _ _ _ X1.out.1];rfl
 obtain⟨y1,y2,y3,y4,y5,y6⟩:=YA.out w1 X2.out
 clear hN hF hR hC hI
 go_enter Tryz.func15,Tryz.ntmps15
 go_upto_region 2 with fail
 rw[←hw1,←hT]
 clear hw1 hT y0
 cases e0 with
 | true =>
  have C5:=hidp (HN.out w1)
  go_wp2_with fail
  refine(C5.out).mono ?_
  rintro e w5 ⟨rfl,hb5⟩
  have X5:Hid (Below w1.heap.size w1 w5):=X2.out.trans (hb5.mono X2.out.size)
  clear hb5 C5 y1 y2 y3 y4 y5 y6
  obtain⟨y1,y2,y3,y4,y5,y6⟩:=YA.out w5 X5.out
  cases nm with
  | false =>
   go_wp2
   go_ret
   exact⟨rfl,X1.out.2.trans (X5.out.mono X1.out.2.size)⟩
  | true =>
   cases i0 with
   | false =>
    go_wp2
    go_ret
    exact⟨rfl,X1.out.2.trans (X5.out.mono X1.out.2.size)⟩
   | true =>
    cases h with
    | true =>
     go_wp2
     go_ret
     exact⟨rfl,X1.out.2.trans (X5.out.mono X1.out.2.size)⟩
    | false =>
     cases d with
     | true =>
      go_wp2
      go_ret
      exact⟨rfl,X1.out.2.trans (X5.out.mono X1.out.2.size)⟩
     | false =>
      cases f0 with
      | false =>
       go_wp2
       go_ret
       exact⟨rfl,X1.out.2.trans (X5.out.mono X1.out.2.size)⟩
      | true =>
       go_wp2
       go_ret
       exact⟨rfl,X1.out.2.trans (X5.out.mono X1.out.2.size)⟩
 | false =>
  have C4:=hidp (HR.out w1 X2.out)
  go_wp2_with fail
  refine(C4.out).mono ?_
  rintro e w4 ⟨rfl,hb4⟩
  have X4:Hid (Below w1.heap.size w1 w4):=X2.out.trans (hb4.mono X2.out.size)
  clear hb4 C4 y1 y2 y3 y4 y5 y6
  obtain⟨y1,y2,y3,y4,y5,y6⟩:=YA.out w4 X4.out
  have C5:=hidp (HN.out w4)
  go_wp2_with fail
  refine(C5.out).mono ?_
  rintro e w5 ⟨rfl,hb5⟩
  have X5:Hid (Below w1.heap.size w1 w5):=X4.out.trans (hb5.mono X4.out.size)
  clear hb5 C5 y1 y2 y3 y4 y5 y6
  obtain⟨y1,y2,y3,y4,y5,y6⟩:=YA.out w5 X5.out
  cases nm with
  | false =>
   go_wp2
   go_ret
   exact⟨rfl,X1.out.2.trans (X5.out.mono X1.out.2.size)⟩
  | true =>
   cases i0 with
   | false =>
    go_wp2
    go_ret
    exact⟨rfl,X1.out.2.trans (X5.out.mono X1.out.2.size)⟩
   | true =>
    cases h with
    | true =>
     go_wp2
     go_ret
     exact⟨rfl,X1.out.2.trans (X5.out.mono X1.out.2.size)⟩
    | false =>
     cases d with
     | true =>
      go_wp2
      go_ret
      exact⟨rfl,X1.out.2.trans (X5.out.mono X1.out.2.size)⟩
     | false =>
      cases f0 with
      | false =>
       go_wp2
       go_ret
       exact⟨rfl,X1.out.2.trans (X5.out.mono X1.out.2.size)⟩
      | true =>
       go_wp2
       go_ret
       exact⟨rfl,X1.out.2.trans (X5.out.mono X1.out.2.size)⟩
end Ps
end Go.Proofs.YtfhkaffakniioaaGreatDoor
