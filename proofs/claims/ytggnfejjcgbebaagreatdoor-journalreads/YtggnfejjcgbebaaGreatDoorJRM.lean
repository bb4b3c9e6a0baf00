/- Several texts, joined: BinV1, BinRV, BinRd -/
import Derived.Test.YtggnfejjcgbebaaGreatDoorJEM
import Derived.Test.YtggnfejjcgbebaaGreatDoorBinFRM
import Derived.Test.YtggnfejjcgbebaaGreatDoorBinUM
/- The cursor's value, walked, given what reading parts does. -/
namespace Go.Proofs.YtggnfejjcgbebaaGreatDoor
open Go.RowKit
open Vl (V)
set_option maxHeartbeats 8000000 in
set_option maxRecDepth 10000 in
theorem value46_one (c:Nat) (s:ByteArray) (bad:Bool) (hs:s.size≤65536) (hbad:bad=true→s=⟨#[]⟩) (w:World) (h:Cur c s bad w)
    (CL:∀s1 W B v,s1.size<s.size→LSv w W c B v (.slice none 0 0) []→Cur c s1 false W→Calls Tryz.prog 128 #[.pointer (some ⟨c,0,none⟩),.func (.func 129) #[] #[.pointer (some ⟨v,0,none⟩),.pointer (some ⟨B,0,none⟩)]] W fun e w'=>e=.returned (.tuple #[])∧∃l lv s' bad',LSv w w' c B v lv l∧l.length≤65∧Cur c s' bad' w'∧PL s1 l s' bad')
    (CF:∀s1 W B v,s1.size<s.size→FSt w W c B v (.slice none 0 0) []→Cur c s1 false W→Calls Tryz.prog 128 #[.pointer (some ⟨c,0,none⟩),.func (.func 130) #[] #[.pointer (some ⟨v,0,none⟩),.pointer (some ⟨B,0,none⟩)]] W fun e w'=>e=.returned (.tuple #[])∧∃l lv s' bad',FSt w w' c B v lv l∧l.length≤65∧Cur c s' bad' w'∧QF s1 l s' bad') :
    Calls Tryz.prog 94 #[.pointer (some ⟨c,0,none⟩)] w (Gave s c w):=by
  obtain ⟨B,hB⟩:∃B,B=w.heap.size:=⟨_,rfl⟩
  obtain ⟨w1,hw1⟩:∃w1,w1=(w.alloc (.cells #[.pointer (some ⟨c,0,none⟩)] 166)).alloc (.cells #[.int .u8 0,.bool false,.int .i64 0,.string ⟨#[]⟩,.slice none 0 0,.slice none 0 0] 32):=⟨_,rfl⟩
  have V1:Hid (VS w w1 c B):=by show VS _ _ _ _;rw [hw1,hB];exact VS.start w c h.lt
  have H1:Hid (Cur c s bad w1):=h.call (by rw [hw1];exact (below_new _ _).trans ((below_new _ _).mono (by simp)))
  have C78:Hid (Calls Tryz.prog 124 #[.pointer (some ⟨c,0,none⟩),.int .u64 1] w1 fun e w'=>Curw c w1 w'∧((s.size<1∧e=.returned (.string ⟨#[]⟩)∧Cur c ⟨#[]⟩ true w')∨(1≤s.size∧e=.returned (.string (s.extract 0 1))∧Cur c (s.extract 1 s.size) bad w'))):=take78 c s (by omega) bad 1 (by omega) w1 H1.out
  obtain ⟨K,hK⟩:∃K,K=Gave s c w:=⟨_,rfl⟩
  have HK:Hid (K=Gave s c w):=hK
  rw [←hK]
  have b1:=block_cells V1.out.box 0 _ rfl
  by_cases h0:s.size=0
  · have D78:Hid (Calls Tryz.prog 124 #[.pointer (some ⟨c,0,none⟩),.int .u64 1] w1 fun e w'=>Curw c w1 w'∧e=.returned (.string ⟨#[]⟩)∧Cur c ⟨#[]⟩ true w'):=C78.out.mono (fun e w' ⟨k1,k2⟩=>by
      rcases k2 with ⟨_,k3,k4⟩ | ⟨k3,_⟩
      · exact ⟨k1,k3,k4⟩
      · omega)
    have HP:Hid (PV s ⟨0,false,0,⟨#[]⟩,[],[]⟩ ⟨#[]⟩ true):=Or.inr ⟨rfl,rfl,by rw [Vl.size_zero h0];exact Bn.noV_nil⟩
    clear CL CF h hs hbad C78 hK
    go_enter Tryz.func94,Tryz.ntmps94
    go_upto_region 1 with fail
    rw [←hw1,←hB]
    clear hw1 hB
    go_wp2_with (first
      | (go_at_call 124;refine D78.out.mono ?_;rintro e w2 ⟨k1,rfl,h1⟩
         have V2:Hid (VS w w2 c B):=V1.out.call k1
         have H2:Hid (Cur c ⟨#[]⟩ true w2):=h1
         have b2:=block_cells V2.out.box 0 _ rfl
         have c2:=h1.cells.2.1
         obtain ⟨q0,q1,q2,q3,q4,q5⟩:=Row6.cells V2.out.res
         have fz:=Row6.free V2.out.res
         clear k1 h1))
    have F:=V2.out.fin (repA_flat w2 _ 0 false 0 ⟨#[]⟩ (by omega) (by omega) (by decide)) H2.out HP.out
    rw [sets6]
    exact bodyPost_ret (v:=.agg #[.int .u8 0,.bool false,.int .i64 0,.string ⟨#[]⟩,.slice none 0 0,.slice none 0 0]) (results_cell_row rfl _ _ (B+1) 32 #[.int .u8 0,.bool false,.int .i64 0,.string ⟨#[]⟩,.slice none 0 0,.slice none 0 0] (0,0) _ rfl F.1 Tryz.underlying32 rfl infoVal) rfl (by rw [HK.out];exact F.2)
  · obtain rfl:bad=false:=by
      cases bad with
      | false=>rfl
      | true=>exact absurd (by rw [hbad rfl];rfl) h0
    obtain ⟨b,hb,hf1⟩:=Bn.split1 h0
    obtain ⟨f,hf⟩:∃f,f=s.extract 0 1:=⟨_,rfl⟩
    obtain ⟨s1,hs1⟩:∃s1,s1=s.extract 1 s.size:=⟨_,rfl⟩
    rw [←hs1] at hb
    rw [←hf] at hf1
    have D78:Hid (Calls Tryz.prog 124 #[.pointer (some ⟨c,0,none⟩),.int .u64 1] w1 fun e w'=>Curw c w1 w'∧e=.returned (.string f)∧Cur c s1 false w'):=C78.out.mono (fun e w' ⟨k1,k2⟩=>by
      rcases k2 with ⟨k3,_⟩ | ⟨_,k3,k4⟩
      · omega
      · rw [hf,hs1];exact ⟨k1,k3,k4⟩)
    have hfs:f.size=1:=by rw [Lib.size_eq,hf1];rfl
    obtain ⟨bN,hbN⟩:∃bN,bN=b.toNat:=⟨_,rfl⟩
    have IX:∀wx,(Instr.index 9 (.string f) (.int .i64 0)).run Tryz.prog wx=.ok (.int .u8 (bN:Int)) wx:=fun wx=>by
      rw [Bn.index_byte f 0 (by omega) (by omega) wx,hf1,hbN];rfl
    have HSB:Hid (s.data.toList=b :: s1.data.toList):=hb
    have hlt1:s1.size<s.size:=by rw [Lib.size_eq,Lib.size_eq,hb,List.length_cons];omega
    have C80:Hid (∀W,Cur c s1 false W→Calls Tryz.prog 126 #[.pointer (some ⟨c,0,none⟩)] W fun e w'=>Curw c W w'∧∃(n:Nat) (s':ByteArray) (bad':Bool),n<18446744073709551616∧e=.returned (.int .u64 (n:Int))∧Cur c s' bad' w' ∧
      ((s1.data.toList=Bn.num n++s'.data.toList∧bad'=false)∨(n=0∧s'=⟨#[]⟩∧bad'=true∧Bn.noNum s1.data.toList))):=fun W hW=>number80 c s1 (by omega) false W hW
    have C81:Hid (∀W,Cur c s1 false W→Calls Tryz.prog 127 #[.pointer (some ⟨c,0,none⟩)] W fun e w'=>Curw c W w'∧∃(t s':ByteArray) (bad':Bool),t.size≤65536∧e=.returned (.string t)∧Cur c s' bad' w' ∧
      ((s1.data.toList=Bn.text t++s'.data.toList∧bad'=false)∨(s'=⟨#[]⟩∧bad'=true∧Bn.noText s1.data.toList))):=fun W hW=>text81 c s1 (by omega) false W hW
    have DL:Hid (∀W B v,LSv w W c B v (.slice none 0 0) []→Cur c s1 false W→Calls Tryz.prog 128 #[.pointer (some ⟨c,0,none⟩),.func (.func 129) #[] #[.pointer (some ⟨v,0,none⟩),.pointer (some ⟨B,0,none⟩)]] W fun e w'=>e=.returned (.tuple #[])∧∃l lv s' bad',LSv w w' c B v lv l∧l.length≤65∧Cur c s' bad' w'∧PL s1 l s' bad'):=fun W B v=>CL s1 W B v hlt1
    have DF:Hid (∀W B v,FSt w W c B v (.slice none 0 0) []→Cur c s1 false W→Calls Tryz.prog 128 #[.pointer (some ⟨c,0,none⟩),.func (.func 130) #[] #[.pointer (some ⟨v,0,none⟩),.pointer (some ⟨B,0,none⟩)]] W fun e w'=>e=.returned (.tuple #[])∧∃l lv s' bad',FSt w w' c B v lv l∧l.length≤65∧Cur c s' bad' w'∧QF s1 l s' bad'):=fun W B v=>CF s1 W B v hlt1
    have HBN:Hid (bN=b.toNat):=hbN
    have HB8:bN<256:=by rw [hbN];exact UInt8.toNat_lt b
    clear CL CF h hs hbad C78 hK hf hs1 hlt1 hb hbN hf1 h0 H1
    go_enter Tryz.func94,Tryz.ntmps94
    go_upto_region 1 with fail
    rw [←hw1,←hB]
    have HBW:Hid (B=w.heap.size):=hB
    clear hw1 hB
    go_upto_region 5 with (first
      | (go_at_call 124;refine D78.out.mono ?_;rintro e w2 ⟨k1,rfl,h1⟩
         have V2:Hid (VS w w2 c B):=V1.out.call k1
         have H2:Hid (Cur c s1 false w2):=h1
         have b2:=block_cells V2.out.box 0 _ rfl
         have c2:=h1.cells.2.1
         obtain ⟨q0,q1,q2,q3,q4,q5⟩:=Row6.cells V2.out.res
         have fz:=Row6.free V2.out.res
         clear k1 h1))
    clear IX
    have hcase:bN=0∨bN=1∨bN=2∨bN=3∨bN=4∨bN=5∨bN=6∨bN=7∨8≤bN:=by omega
    rcases hcase with rfl | rfl | rfl | rfl | rfl | rfl | rfl | rfl | h8
    · have F:=V2.out.fin (repA_flat w2 _ 0 false 0 ⟨#[]⟩ (by omega) (by omega) (by decide)) H2.out (PV.zero HSB.out HBN.out.symm)
      have HF:Hid _:=F
      clear F
      go_wp2
      have F:=HF.out
      rw [sets6]
      exact bodyPost_ret (v:=.agg #[.int .u8 0,.bool false,.int .i64 0,.string ⟨#[]⟩,.slice none 0 0,.slice none 0 0]) (results_cell_row rfl _ _ (B+1) 32 #[.int .u8 0,.bool false,.int .i64 0,.string ⟨#[]⟩,.slice none 0 0,.slice none 0 0] (0,0) _ rfl F.1 Tryz.underlying32 rfl infoVal) rfl (by rw [HK.out];exact F.2)
    · have F:=V2.out.fin (repA_flat w2 _ 1 false 0 ⟨#[]⟩ (by omega) (by omega) (by decide)) H2.out (PV.no HSB.out HBN.out.symm)
      have HF:Hid _:=F
      clear F
      go_wp2
      have F:=HF.out
      rw [sets6]
      exact bodyPost_ret (v:=.agg #[.int .u8 1,.bool false,.int .i64 0,.string ⟨#[]⟩,.slice none 0 0,.slice none 0 0]) (results_cell_row rfl _ _ (B+1) 32 #[.int .u8 1,.bool false,.int .i64 0,.string ⟨#[]⟩,.slice none 0 0,.slice none 0 0] (0,0) _ rfl F.1 Tryz.underlying32 rfl infoVal) rfl (by rw [HK.out];exact F.2)
    · have F:=V2.out.fin (repA_flat w2 _ 1 true 0 ⟨#[]⟩ (by omega) (by omega) (by decide)) H2.out (PV.yes HSB.out HBN.out.symm)
      have HF:Hid _:=F
      clear F
      go_wp2
      have F:=HF.out
      rw [sets6]
      exact bodyPost_ret (v:=.agg #[.int .u8 1,.bool true,.int .i64 0,.string ⟨#[]⟩,.slice none 0 0,.slice none 0 0]) (results_cell_row rfl _ _ (B+1) 32 #[.int .u8 1,.bool true,.int .i64 0,.string ⟨#[]⟩,.slice none 0 0,.slice none 0 0] (0,0) _ rfl F.1 Tryz.underlying32 rfl infoVal) rfl (by rw [HK.out];exact F.2)
    · go_wp2_with (first
        | (go_at_call 126;refine (C80.out _ H2.out).mono ?_;rintro e w3 ⟨k1,n,s2,b3,hn,rfl,h1,h2⟩
           have V3:Hid (VS w w3 c B):=V2.out.call k1
           have H3:Hid (Cur c s2 b3 w3):=h1
           have HP:Hid (PV s ⟨2,false,Bn.zag n,⟨#[]⟩,[],[]⟩ s2 b3):=PV.int hn HSB.out HBN.out.symm h2
           have HN:Hid (n<18446744073709551616):=hn
           obtain ⟨q0,q1,q2,q3,q4,q5⟩:=Row6.cells V3.out.res
           have fz:=Row6.free V3.out.res
           clear k1 h1 h2 hn)
        | (go_at_call 125;refine (unfolded79 n HN.out _).mono ?_;rintro e w4 ⟨rfl,rfl⟩))
      have hz:=(Bn.zag_fold HN.out).2
      have F:=V3.out.fin (repA_flat _ _ 2 false (Bn.zag n) ⟨#[]⟩ (by omega) (by omega) (by decide)) H3.out HP.out
      rw [sets6]
      exact bodyPost_ret (v:=.agg #[.int .u8 2,.bool false,.int .i64 (Bn.zag n),.string ⟨#[]⟩,.slice none 0 0,.slice none 0 0]) (results_cell_row rfl _ _ (B+1) 32 #[.int .u8 2,.bool false,.int .i64 (Bn.zag n),.string ⟨#[]⟩,.slice none 0 0,.slice none 0 0] (0,0) _ rfl F.1 Tryz.underlying32 rfl infoVal) rfl (by rw [HK.out];exact F.2)
    · go_wp2_with (first
        | (go_at_call 127;refine (C81.out _ H2.out).mono ?_;rintro e w3 ⟨k1,t,s2,b3,ht,rfl,h1,h2⟩
           have V3:Hid (VS w w3 c B):=V2.out.call k1
           have H3:Hid (Cur c s2 b3 w3):=h1
           have HP:Hid (PV s ⟨3,false,0,t,[],[]⟩ s2 b3):=PV.text (by omega) ht HSB.out HBN.out.symm h2
           have HT:Hid (t.size≤65536):=ht
           obtain ⟨q0,q1,q2,q3,q4,q5⟩:=Row6.cells V3.out.res
           have fz:=Row6.free V3.out.res
           clear k1 h1 h2 ht))
      have F:=V3.out.fin (repA_flat w3 _ 3 false 0 t (by omega) (by omega) (by have:=HT.out;unfold maxLen;omega)) H3.out HP.out
      rw [sets6]
      exact bodyPost_ret (v:=.agg #[.int .u8 3,.bool false,.int .i64 0,.string t,.slice none 0 0,.slice none 0 0]) (results_cell_row rfl _ _ (B+1) 32 #[.int .u8 3,.bool false,.int .i64 0,.string t,.slice none 0 0,.slice none 0 0] (0,0) _ rfl F.1 Tryz.underlying32 rfl infoVal) rfl (by rw [HK.out];exact F.2)
    · go_wp2_with (first
        | (go_at_call 127;refine (C81.out _ H2.out).mono ?_;rintro e w3 ⟨k1,t,s2,b3,ht,rfl,h1,h2⟩
           have V3:Hid (VS w w3 c B):=V2.out.call k1
           have H3:Hid (Cur c s2 b3 w3):=h1
           have HP:Hid (PV s ⟨4,false,0,t,[],[]⟩ s2 b3):=PV.text (by omega) ht HSB.out HBN.out.symm h2
           have HT:Hid (t.size≤65536):=ht
           obtain ⟨q0,q1,q2,q3,q4,q5⟩:=Row6.cells V3.out.res
           have fz:=Row6.free V3.out.res
           clear k1 h1 h2 ht))
      have F:=V3.out.fin (repA_flat w3 _ 4 false 0 t (by omega) (by omega) (by have:=HT.out;unfold maxLen;omega)) H3.out HP.out
      rw [sets6]
      exact bodyPost_ret (v:=.agg #[.int .u8 4,.bool false,.int .i64 0,.string t,.slice none 0 0,.slice none 0 0]) (results_cell_row rfl _ _ (B+1) 32 #[.int .u8 4,.bool false,.int .i64 0,.string t,.slice none 0 0,.slice none 0 0] (0,0) _ rfl F.1 Tryz.underlying32 rfl infoVal) rfl (by rw [HK.out];exact F.2)
    · go_upto_region 19 with fail
      obtain ⟨v,hv⟩:∃v,v=w2.heap.size:=⟨_,rfl⟩
      obtain ⟨w3,hw3⟩:∃w3,w3=w2.alloc (.cells #[.int .u8 5,.bool false,.int .i64 0,.string ⟨#[]⟩,.slice none 0 0,.slice none 0 0] 32):=⟨_,rfl⟩
      have S3:Hid (LSv w w3 c B v (.slice none 0 0) []):=LSv.start V2.out hv (by rw [hw3,hv];simp) (by rw [hw3];exact below_new _ _) (by rw [hw3,hv];exact heap_alloc_new w2 _)
      have H3:Hid (Cur c s1 false w3):=H2.out.call (by rw [hw3];exact below_new _ _)
      rw [←hv,←hw3]
      clear hv hw3 q0 q1 q2 q3 q4 q5 fz b2 c2 b1
      have b3:=block_cells S3.out.box 0 _ rfl
      go_wp2_with (first
        | (go_at_call 128;refine (DL.out _ _ _ S3.out H3.out).mono ?_;rintro e w4 ⟨rfl,l,lv,s2,b4,h1,hl,h2,h3⟩
           obtain ⟨ao,lc,rfl,hr⟩:=h1.rep hl
           have V4:Hid (VS w w4 c B):=VS.list h1 HBW.out
           have H4:Hid (Cur c s2 b4 w4):=h2
           have HP:Hid (PV s ⟨5,false,0,⟨#[]⟩,l,[]⟩ s2 b4):=PV.list HSB.out HBN.out.symm h3
           have HR:Hid (RepA w4 (fun g=>B+1<g∧g<w4.heap.size) ⟨5,false,0,⟨#[]⟩,l,[]⟩ (.agg #[.int .u8 5,.bool false,.int .i64 0,.string ⟨#[]⟩,.slice ao l.length lc,.slice none 0 0])):=hr
           obtain ⟨p0,p1,p2,p3,p4,p5⟩:=h1.row.cells
           obtain ⟨q0,q1,q2,q3,q4,q5⟩:=Row6.cells h1.res
           have fz:=Row6.free h1.res
           clear h1 h2 h3 hr hl))
      have F:=V4.out.fin HR.out H4.out HP.out
      rw [sets6]
      exact bodyPost_ret (v:=.agg #[.int .u8 5,.bool false,.int .i64 0,.string ⟨#[]⟩,.slice ao l.length lc,.slice none 0 0]) (results_cell_row rfl _ _ (B+1) 32 #[.int .u8 5,.bool false,.int .i64 0,.string ⟨#[]⟩,.slice ao l.length lc,.slice none 0 0] (0,0) _ rfl F.1 Tryz.underlying32 rfl infoVal) rfl (by rw [HK.out];exact F.2)
    · go_upto_region 23 with fail
      obtain ⟨v,hv⟩:∃v,v=w2.heap.size:=⟨_,rfl⟩
      obtain ⟨w3,hw3⟩:∃w3,w3=w2.alloc (.cells #[.int .u8 6,.bool false,.int .i64 0,.string ⟨#[]⟩,.slice none 0 0,.slice none 0 0] 32):=⟨_,rfl⟩
      have S3:Hid (FSt w w3 c B v (.slice none 0 0) []):=FSt.start V2.out hv (by rw [hw3,hv];simp) (by rw [hw3];exact below_new _ _) (by rw [hw3,hv];exact heap_alloc_new w2 _)
      have H3:Hid (Cur c s1 false w3):=H2.out.call (by rw [hw3];exact below_new _ _)
      rw [←hv,←hw3]
      clear hv hw3 q0 q1 q2 q3 q4 q5 fz b2 c2 b1
      have b3:=block_cells S3.out.box 0 _ rfl
      go_wp2_with (first
        | (go_at_call 128;refine (DF.out _ _ _ S3.out H3.out).mono ?_;rintro e w4 ⟨rfl,l,lv,s2,b4,h1,hl,h2,h3⟩
           obtain ⟨ao,lc,rfl,hr⟩:=h1.rep hl
           have V4:Hid (VS w w4 c B):=VS.struct h1 HBW.out
           have H4:Hid (Cur c s2 b4 w4):=h2
           have HP:Hid (PV s ⟨6,false,0,⟨#[]⟩,[],l⟩ s2 b4):=PV.struct HSB.out HBN.out.symm h3
           have HR:Hid (RepA w4 (fun g=>B+1<g∧g<w4.heap.size) ⟨6,false,0,⟨#[]⟩,[],l⟩ (.agg #[.int .u8 6,.bool false,.int .i64 0,.string ⟨#[]⟩,.slice none 0 0,.slice ao l.length lc])):=hr
           obtain ⟨p0,p1,p2,p3,p4,p5⟩:=h1.row.cells
           obtain ⟨q0,q1,q2,q3,q4,q5⟩:=Row6.cells h1.res
           have fz:=Row6.free h1.res
           clear h1 h2 h3 hr hl))
      have F:=V4.out.fin HR.out H4.out HP.out
      rw [sets6]
      exact bodyPost_ret (v:=.agg #[.int .u8 6,.bool false,.int .i64 0,.string ⟨#[]⟩,.slice none 0 0,.slice ao l.length lc]) (results_cell_row rfl _ _ (B+1) 32 #[.int .u8 6,.bool false,.int .i64 0,.string ⟨#[]⟩,.slice none 0 0,.slice ao l.length lc] (0,0) _ rfl F.1 Tryz.underlying32 rfl infoVal) rfl (by rw [HK.out];exact F.2)
    · have C86:Hid (Calls Tryz.prog 132 #[.pointer (some ⟨c,0,none⟩)] w2 fun e w'=>e=.returned (.tuple #[])∧Cur c ⟨#[]⟩ true w'∧Curw c w2 w'):=fail86 c s1 false w2 H2.out
      have HP:Hid (PV s ⟨0,false,0,⟨#[]⟩,[],[]⟩ ⟨#[]⟩ true):=Or.inr ⟨rfl,rfl,by rw [HSB.out];exact Bn.noV_first (by rw [←HBN.out];exact h8)⟩
      have e0:¬(bN:Int)=0:=by omega
      have e1:¬(bN:Int)=1:=by omega
      have e2:¬(bN:Int)=2:=by omega
      have e3:¬(bN:Int)=3:=by omega
      have e4:¬(bN:Int)=4:=by omega
      have e5:¬(bN:Int)=5:=by omega
      have e6:¬(bN:Int)=6:=by omega
      have e7:¬(bN:Int)=7:=by omega
      clear h8 HB8
      go_wp2_with (first
        | (go_at_call 132;refine C86.out.mono ?_;rintro e w3 ⟨rfl,h1,k1⟩
           have V3:Hid (VS w w3 c B):=V2.out.call k1
           have H3:Hid (Cur c ⟨#[]⟩ true w3):=h1
           obtain ⟨q0,q1,q2,q3,q4,q5⟩:=Row6.cells V3.out.res
           have fz:=Row6.free V3.out.res
           clear k1 h1))
      have F:=V3.out.fin (repA_flat w3 _ 0 false 0 ⟨#[]⟩ (by omega) (by omega) (by decide)) H3.out HP.out
      rw [sets6]
      exact bodyPost_ret (v:=.agg #[.int .u8 0,.bool false,.int .i64 0,.string ⟨#[]⟩,.slice none 0 0,.slice none 0 0]) (results_cell_row rfl _ _ (B+1) 32 #[.int .u8 0,.bool false,.int .i64 0,.string ⟨#[]⟩,.slice none 0 0,.slice none 0 0] (0,0) _ rfl F.1 Tryz.underlying32 rfl infoVal) rfl (by rw [HK.out];exact F.2)
end Go.Proofs.YtggnfejjcgbebaaGreatDoor
/- The cursor's value, whatever is left. -/
namespace Go.Proofs.YtggnfejjcgbebaaGreatDoor
open Go.RowKit
open Vl (V)
theorem value46 (c:Nat):∀(N:Nat) (s:ByteArray) (bad:Bool),s.size≤N→s.size≤65536→(bad=true→s=⟨#[]⟩)→∀w,Cur c s bad w→Calls Tryz.prog 94 #[.pointer (some ⟨c,0,none⟩)] w (Gave s c w):=by
  intro N
  induction N with
  | zero =>
    intro s bad hN hs hb w h
    exact value46_one c s bad hs hb w h (fun s1 _ _ _ h1=>by omega) (fun s1 _ _ _ h1=>by omega)
  | succ N ih =>
    intro s bad hN hs hb w h
    refine value46_one c s bad hs hb w h (fun s1 W B v h1 hL hc=>?_) (fun s1 W B v h1 hL hc=>?_)
    · exact parts82L w c B v s1 (by omega) W hL hc (fun lv l s2 W2 hl h2 hL2 hc2=>part83 w c B v lv l hl s2 W2 hL2 hc2 (fun W' hW'=>ih s2 false (by omega) (by omega) (fun e=>by cases e) W' (hc2.call hW')))
    · exact parts82F w c B v s1 (by omega) W hL hc (fun lv l s2 W2 hl h2 hL2 hc2=>part84 w c B v lv l hl s2 W2 hL2 hc2 (fun W' hW' =>
        field85 c s2 (by omega) W' (hc2.call hW') (fun s3 b3 W3 hb3 hs3 hc3=>by
          have hz:s3.size≤N∧s3.size≤65536:=by
            rcases hs3 with e | e
            · omega
            · rw [e];exact ⟨Nat.zero_le _,by decide⟩
          exact ih s3 b3 hz.1 hz.2 hb3 W3 hc3)))
end Go.Proofs.YtggnfejjcgbebaaGreatDoor
/- Read, walked: the right value whose bytes are handed in, or why there is none. -/
namespace Go.Proofs.YtggnfejjcgbebaaGreatDoor
open Go.RowKit
open Vl (V)
def Bn.Is (s:ByteArray) (t:V):Prop:=s.size≤16384∧Bn.fit t∧s.data.toList=Bn.bytes t∧Vl.check Bn.u8 0 t=0
theorem Bn.Is.one {s:ByteArray} {t u:V} (h:Bn.Is s t) (k:Bn.Is s u):t=u:=by
  have e:Bn.bytes t++[]=Bn.bytes u++[]:=by rw [←h.2.2.1,k.2.2.1]
  exact (Bn.bytes_app t u [] [] h.2.1 k.2.1 e).1
def ReadGave (s:ByteArray) (w:World) (e:Ending) (w':World):Prop:=Below w.heap.size w w'∧((∃(t:V) (zk:Nat) (zb:Bool) (zn:Int) (zs:ByteArray) (za:Option Addr) (zl zc:Nat) (ta:Option Addr) (tl tc:Nat),Bn.Is s t∧e=.returned (.tuple #[.agg #[.int .u8 (zk:Int),.bool zb,.int .i64 zn,.string zs,.slice za zl zc,.slice ta tl tc],.int .i64 0])∧RepA w' (fun g=>w.heap.size≤g∧g<w'.heap.size) t (.agg #[.int .u8 (zk:Int),.bool zb,.int .i64 zn,.string zs,.slice za zl zc,.slice ta tl tc])) ∨
  ((∀t,¬Bn.Is s t)∧e=.returned (.tuple #[.agg #[.int .u8 0,.bool false,.int .i64 0,.string ⟨#[]⟩,.slice none 0 0,.slice none 0 0],.int .i64 (if 16384<s.size then 4 else 11)])))
structure RS (w0 W:World) (c:Nat):Prop where
  below:Below w0.heap.size w0 W
  res:Z6 W w0.heap.size
  hc:c=w0.heap.size+1
theorem RS.call {w0 W W':World} {c:Nat} (h:RS w0 W c) (k:Curw c W W'):RS w0 W' c:=by
  have a1:=h.below.size
  have a2:=h.res.1
  have a3:=h.hc
  exact ⟨h.below.trans (k.below (by omega) (by omega)),h.res.keep k.size (k.block _ a2 (by omega)),h.hc⟩
theorem RS.ok {w0 W:World} {c:Nat} {s:ByteArray} {t:V} {zk:Nat} {zb:Bool} {zn:Int} {zs:ByteArray} {za:Option Addr} {zl zc:Nat} {ta:Option Addr} {tl tc:Nat} (h:RS w0 W c) (hi:Bn.Is s t) (hr:RepA W (fun g=>w0.heap.size<g∧g<W.heap.size) t (.agg #[.int .u8 (zk:Int),.bool zb,.int .i64 zn,.string zs,.slice za zl zc,.slice ta tl tc])) :
    (W.setCells w0.heap.size 0 [.int .u8 (zk:Int),.bool zb,.int .i64 zn,.string zs,.slice za zl zc,.slice ta tl tc]).heap[w0.heap.size]?=some (.cells #[.int .u8 (zk:Int),.bool zb,.int .i64 zn,.string zs,.slice za zl zc,.slice ta tl tc] 32 (0,0))∧ReadGave s w0 (.returned (.tuple #[.agg #[.int .u8 (zk:Int),.bool zb,.int .i64 zn,.string zs,.slice za zl zc,.slice ta tl tc],.int .i64 0])) (W.setCells w0.heap.size 0 [.int .u8 (zk:Int),.bool zb,.int .i64 zn,.string zs,.slice za zl zc,.slice ta tl tc]):=by
  refine ⟨Z6.put h.res _ _ _ _ _ _,below_setCellsV (Nat.le_refl _) _ _ h.below,Or.inl ⟨t,zk,zb,zn,zs,za,zl,zc,ta,tl,tc,hi,rfl,?_⟩⟩
  rw [size_setCellsV']
  exact repA_stays (fun g hg=>setCells_block (by omega) _) (fun g hg=>⟨by omega,hg.2⟩) t _ hr
theorem RS.no {w0 W:World} {c:Nat} {s:ByteArray} {e:Int} (h:RS w0 W c) (hi:∀t,¬Bn.Is s t) (he:e=if 16384<s.size then 4 else 11) :
    (W.setCells w0.heap.size 0 [.int .u8 0,.bool false,.int .i64 0,.string ⟨#[]⟩,.slice none 0 0,.slice none 0 0]).heap[w0.heap.size]?=some (.cells #[.int .u8 0,.bool false,.int .i64 0,.string ⟨#[]⟩,.slice none 0 0,.slice none 0 0] 32 (0,0))∧ReadGave s w0 (.returned (.tuple #[.agg #[.int .u8 0,.bool false,.int .i64 0,.string ⟨#[]⟩,.slice none 0 0,.slice none 0 0],.int .i64 e])) (W.setCells w0.heap.size 0 [.int .u8 0,.bool false,.int .i64 0,.string ⟨#[]⟩,.slice none 0 0,.slice none 0 0]):=by
  refine ⟨Z6.put h.res _ _ _ _ _ _,below_setCellsV (Nat.le_refl _) _ _ h.below,Or.inr ⟨hi,by rw [he]⟩⟩
set_option maxHeartbeats 8000000 in
set_option maxRecDepth 10000 in
theorem read20 (s:ByteArray) (w:World) (hT:Bn.HasU w):Calls Tryz.prog 58 #[.string s] w (ReadGave s w):=by
  obtain ⟨R,hR⟩:∃R,R=w.heap.size:=⟨_,rfl⟩
  obtain ⟨K,hK⟩:∃K,K=ReadGave s w:=⟨_,rfl⟩
  have HK:Hid (K=ReadGave s w):=hK
  rw [←hK]
  by_cases hlong:16384<s.size
  · have hli:(16384:Int)<(s.size:Int):=by omega
    have HNO:Hid (∀t,¬Bn.Is s t):=fun t h=>by have:=h.1;omega
    have HLE:Hid ((4:Int)=if 16384<s.size then 4 else 11):=by show _=_;rw [if_pos hlong]
    obtain ⟨w1,hw1⟩:∃w1,w1=w.alloc (.cells #[.int .u8 0,.bool false,.int .i64 0,.string ⟨#[]⟩,.slice none 0 0,.slice none 0 0] 32):=⟨_,rfl⟩
    have S1:Hid (RS w w1 (R+1)):=by
      show RS _ _ _
      rw [hw1,hR]
      exact ⟨below_new _ _,⟨by simp,heap_alloc_new w _⟩,rfl⟩
    clear hlong hK
    go_enter Tryz.func58,Tryz.ntmps58
    go_upto_region 1 with fail
    rw [←hw1,←hR]
    clear hw1
    have S1':=S1.out.res
    rw [←hR] at S1'
    obtain ⟨q0,q1,q2,q3,q4,q5⟩:=Row6.cells S1'
    have fz:=Row6.free S1'
    have HR:Hid (R=w.heap.size):=hR
    clear S1' hR
    go_wp2
    have F:=S1.out.no HNO.out HLE.out
    rw [←HR.out] at F
    rw [sets6]
    exact bodyPost_ret (v:=.tuple #[.agg #[.int .u8 0,.bool false,.int .i64 0,.string ⟨#[]⟩,.slice none 0 0,.slice none 0 0],.int .i64 4]) ((results_row_tmpV (fn:=Tryz.f58) (p:=2) (u:=3) (ty:=32) (by rfl) _ _ R 32 _ (0,0) _ (by rfl) F.1 Tryz.underlying32 rfl infoVal).trans (by rfl)) rfl (by rw [HK.out];exact F.2)
  · have hli:¬(16384:Int)<(s.size:Int):=by omega
    have HLE:Hid ((11:Int)=if 16384<s.size then 4 else 11):=by show _=_;rw [if_neg hlong]
    have HLS:Hid (s.size≤16384):=by show _≤_;omega
    obtain ⟨c,hc⟩:∃c,c=R+1:=⟨_,rfl⟩
    obtain ⟨w2,hw2⟩:∃w2,w2=(w.alloc (.cells #[.int .u8 0,.bool false,.int .i64 0,.string ⟨#[]⟩,.slice none 0 0,.slice none 0 0] 32)).alloc (.cells #[.string s,.bool false] 118):=⟨_,rfl⟩
    have S2:Hid (RS w w2 c):=by
      show RS _ _ _
      rw [hw2,hc,hR]
      exact ⟨(below_new _ _).trans ((below_new _ _).mono (by simp)),⟨by simp;omega,(Below.heap_alloc _ _ _ (by simp)).trans (heap_alloc_new w _)⟩,rfl⟩
    have H2:Hid (Cur c s false w2):=by
      show Cur _ _ _ _
      rw [hw2,hc,hR]
      refine ⟨by simp,?_⟩
      have:=heap_alloc_new (w.alloc (.cells #[.int .u8 0,.bool false,.int .i64 0,.string ⟨#[]⟩,.slice none 0 0,.slice none 0 0] 32)) (.cells #[.string s,.bool false] 118)
      simpa using this
    have C46:Hid (Calls Tryz.prog 94 #[.pointer (some ⟨c,0,none⟩)] w2 (Gave s c w2)):=value46 c s.size s false (Nat.le_refl _) (by omega) (fun e=>by cases e) w2 H2.out
    clear hlong hK H2
    go_enter Tryz.func58,Tryz.ntmps58
    go_upto_region 4 with fail
    rw [←hR,←hc,←hw2]
    have HR:Hid (R=w.heap.size):=hR
    have HC:Hid (c=R+1):=hc
    clear hw2 hR hc
    go_upto_region 5 with (first
      | (go_at_call 94;refine C46.out.mono ?_;rintro e w3 ⟨x,xv,s',bad',rfl,k3,h3,h4,h5⟩
         obtain ⟨zk,zb,zn,zs,za,zl,zc,ta,tl,tc,rfl⟩:=repA_form h3
         have S3:Hid (RS w w3 c):=S2.out.call k3
         have H3:Hid (RepA w3 (fun g=>w2.heap.size≤g∧g<w3.heap.size) x (.agg #[.int .u8 (zk:Int),.bool zb,.int .i64 zn,.string zs,.slice za zl zc,.slice ta tl tc])):=h3
         have H4:Hid (Cur c s' bad' w3):=h4
         have H5:Hid (PV s x s' bad'):=h5
         clear k3 h3 h4 h5))
    obtain ⟨v,hv⟩:∃v,v=w3.heap.size:=⟨_,rfl⟩
    obtain ⟨w4,hw4⟩:∃w4,w4=w3.alloc (.cells #[.int .u8 (zk:Int),.bool zb,.int .i64 zn,.string zs,.slice za zl zc,.slice ta tl tc] 32):=⟨_,rfl⟩
    have hb4:Below w3.heap.size w3 w4:=by rw [hw4];exact below_new _ _
    have S4:Hid (RS w w4 c):=S3.out.call (Curw.of hb4)
    have R4:Hid (Row6 w4 v (.int .u8 (zk:Int)) (.bool zb) (.int .i64 zn) (.string zs) (.slice za zl zc) (.slice ta tl tc)):=by
      show Row6 _ _ _ _ _ _ _ _
      rw [hw4,hv];exact ⟨by simp,heap_alloc_new w3 _⟩
    have HX:Hid (RepA w4 (fun g=>w.heap.size<g∧g<w4.heap.size) x (.agg #[.int .u8 (zk:Int),.bool zb,.int .i64 zn,.string zs,.slice za zl zc,.slice ta tl tc])):=by
      have a1:=S2.out.below.size
      have a2:=S2.out.res.1
      have a3:=hb4.size
      exact repA_stays (fun g hg=>hb4.block g hg.2) (fun g hg=>⟨by omega,by omega⟩) x _ H3.out
    have HQ:Hid (Cur c s' bad' w4):=H4.out.call hb4
    have HU:Hid (Bn.HasU w4):=hT.stays S4.out.below
    rw [←hv,←hw4]
    clear hw4 hv hb4 S3 H3 H4 C46 S2
    have S4':=S4.out.res
    rw [←HR.out] at S4'
    obtain ⟨q0,q1,q2,q3,q4,q5⟩:=Row6.cells S4'
    have fz:=Row6.free S4'
    clear S4'
    obtain ⟨p0,p1,p2,p3,p4,p5⟩:=R4.out.cells
    obtain ⟨c0,c1,f0,f1⟩:=HQ.out.cells
    cases bad' with
    | true =>
      have HNO:Hid (∀t,¬Bn.Is s t):=fun t h=>by
        rcases H5.out with ⟨e,_⟩ | ⟨_,_,e⟩
        · cases e
        · exact e t [] h.2.1 (by rw [List.append_nil];exact h.2.2.1)
      clear H5
      go_wp2
      have F:=S4.out.no HNO.out HLE.out
      rw [←HR.out] at F
      rw [sets6]
      exact bodyPost_ret (v:=.tuple #[.agg #[.int .u8 0,.bool false,.int .i64 0,.string ⟨#[]⟩,.slice none 0 0,.slice none 0 0],.int .i64 11]) ((results_row_tmpV (fn:=Tryz.f58) (p:=2) (u:=3) (ty:=32) (by rfl) _ _ R 32 _ (0,0) _ (by rfl) F.1 Tryz.underlying32 rfl infoVal).trans (by rfl)) rfl (by rw [HK.out];exact F.2)
    | false =>
      have hfit:Bn.fit x∧s.data.toList=Bn.bytes x++s'.data.toList:=by
        rcases H5.out with ⟨_,e⟩ | ⟨e,_⟩
        · exact e
        · cases e
      by_cases he:s'=⟨#[]⟩
      · subst he
        have HIS:Hid (∀t,Bn.Is s t→t=x):=fun t h=>by
          have e:Bn.bytes t++[]=Bn.bytes x++[]:=by rw [List.append_nil,←h.2.2.1];exact hfit.2
          exact (Bn.bytes_app t x [] [] h.2.1 hfit.1 e).1
        have HI:Hid (Vl.check Bn.u8 0 x=0→Bn.Is s x):=fun h=>⟨HLS.out,hfit.1,by rw [hfit.2];exact List.append_nil _,h⟩
        obtain ⟨k,hk⟩:∃k,k=Vl.check Bn.u8 0 x:=⟨_,rfl⟩
        have C27:Hid (Calls Tryz.prog 85 #[.agg #[.int .u8 (zk:Int),.bool zb,.int .i64 zn,.string zs,.slice za zl zc,.slice ta tl tc]] w4 fun e w'=>e=.returned (.int .i64 (k:Int))∧Below w4.heap.size w4 w'):=by
          rw [hk]
          exact check27 x w4 HU.out w4.heap.size _ (Nat.le_refl _) (repA_rep (fun g hg=>hg.2) x _ HX.out)
        by_cases hk0:k=0
        · have HIX:Hid (Bn.Is s x):=HI.out (by rw [←hk];exact hk0)
          subst hk0
          clear hk H5 hfit HI HIS
          go_wp2_with (first
            | (go_at_call 85;refine C27.out.mono ?_;rintro e w5 ⟨rfl,hb5⟩
               have S5:Hid (RS w w5 c):=S4.out.call (Curw.of hb5)
               have HX5:Hid (RepA w5 (fun g=>w.heap.size<g∧g<w5.heap.size) x (.agg #[.int .u8 (zk:Int),.bool zb,.int .i64 zn,.string zs,.slice za zl zc,.slice ta tl tc])):=repA_stays (fun g hg=>hb5.block g hg.2) (fun g hg=>⟨hg.1,Nat.lt_of_lt_of_le hg.2 hb5.size⟩) x _ HX.out
               obtain ⟨p0,p1,p2,p3,p4,p5⟩:=(R4.out.call hb5).cells
               have S5':=S5.out.res
               rw [←HR.out] at S5'
               obtain ⟨q0,q1,q2,q3,q4,q5⟩:=Row6.cells S5'
               have fz:=Row6.free S5'
               clear S5' hb5))
          have F:=S5.out.ok HIX.out HX5.out
          rw [←HR.out] at F
          rw [sets6]
          exact bodyPost_ret (v:=.tuple #[.agg #[.int .u8 (zk:Int),.bool zb,.int .i64 zn,.string zs,.slice za zl zc,.slice ta tl tc],.int .i64 0]) ((results_row_tmpV (fn:=Tryz.f58) (p:=2) (u:=3) (ty:=32) (by rfl) _ _ R 32 _ (0,0) _ (by rfl) F.1 Tryz.underlying32 rfl infoVal).trans (by rfl)) rfl (by rw [HK.out];exact F.2)
        · have HNO:Hid (∀t,¬Bn.Is s t):=fun t h=>by
            obtain rfl:=HIS.out t h
            exact hk0 (by rw [hk];exact h.2.2.2)
          have hk1:¬(k:Int)=0:=by omega
          clear hk H5 hfit HI HIS hk0
          go_wp2_with (first
            | (go_at_call 85;refine C27.out.mono ?_;rintro e w5 ⟨rfl,hb5⟩
               have S5:Hid (RS w w5 c):=S4.out.call (Curw.of hb5)
               have S5':=S5.out.res
               rw [←HR.out] at S5'
               obtain ⟨q0,q1,q2,q3,q4,q5⟩:=Row6.cells S5'
               have fz:=Row6.free S5'
               clear S5' hb5))
          have F:=S5.out.no HNO.out HLE.out
          rw [←HR.out] at F
          rw [sets6]
          exact bodyPost_ret (v:=.tuple #[.agg #[.int .u8 0,.bool false,.int .i64 0,.string ⟨#[]⟩,.slice none 0 0,.slice none 0 0],.int .i64 11]) ((results_row_tmpV (fn:=Tryz.f58) (p:=2) (u:=3) (ty:=32) (by rfl) _ _ R 32 _ (0,0) _ (by rfl) F.1 Tryz.underlying32 rfl infoVal).trans (by rfl)) rfl (by rw [HK.out];exact F.2)
      · have HNO:Hid (∀t,¬Bn.Is s t):=fun t h=>by
          have e:Bn.bytes t++[]=Bn.bytes x++s'.data.toList:=by rw [List.append_nil,←h.2.2.1];exact hfit.2
          exact he (Bn.data_ext ((Bn.bytes_app t x [] _ h.2.1 hfit.1 e).2.symm))
        have hne:=Bn.neq he
        have hne2:¬s'.toList=[]:=fun e=>he (Bn.data_ext (by rw [←Go.ByteArray.toList_eq,e]))
        have hne3:(s'.toList==[])=false:=by simpa using hne2
        have hne4:s'.toList.isEmpty=false:=by simpa using hne2
        clear H5 hfit
        go_wp2
        have F:=S4.out.no HNO.out HLE.out
        rw [←HR.out] at F
        rw [sets6]
        exact bodyPost_ret (v:=.tuple #[.agg #[.int .u8 0,.bool false,.int .i64 0,.string ⟨#[]⟩,.slice none 0 0,.slice none 0 0],.int .i64 11]) ((results_row_tmpV (fn:=Tryz.f58) (p:=2) (u:=3) (ty:=32) (by rfl) _ _ R 32 _ (0,0) _ (by rfl) F.1 Tryz.underlying32 rfl infoVal).trans (by rfl)) rfl (by rw [HK.out];exact F.2)
end Go.Proofs.YtggnfejjcgbebaaGreatDoor
