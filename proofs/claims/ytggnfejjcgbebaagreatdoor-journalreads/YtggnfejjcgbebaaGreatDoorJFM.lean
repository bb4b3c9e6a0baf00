/- Several texts, joined: BinFS, BinRP, BinRF -/
import Derived.Test.YtggnfejjcgbebaaGreatDoorJLM
/- A struct that is read field by field. -/
namespace Go.Proofs.YtggnfejjcgbebaaGreatDoor
open Go.RowKit
open Vl (V)
structure FSt (w0 W:World) (c B v:Nat) (lv:Value) (l:List (ByteArray × V)):Prop where
  keep:Curw c w0 W
  cl:c<w0.heap.size
  hB:w0.heap.size≤B
  hv:B+1<v
  box:W.heap[B]?=some (.cells #[.pointer (some ⟨c,0,none⟩)] 166 (0,0))
  res:Z6 W (B+1)
  row:Row6 W v (.int .u8 6) (.bool false) (.int .i64 0) (.string ⟨#[]⟩) (.slice none 0 0) lv
  parts:∃cs,W.ownsRow (v+1) 147 7 lv l.length cs∧EF W (fun g=>v+1≤g∧some g≠lv.ownBlock∧g<W.heap.size) l cs
theorem FSt.call {w0 W W':World} {c B v:Nat} {lv:Value} {l:List (ByteArray × V)} (h:FSt w0 W c B v lv l) (k:Curw c W W'):FSt w0 W' c B v lv l:=by
  obtain ⟨cs,h1,h2⟩:=h.parts
  have a1:=h.cl
  have a2:=h.hB
  have a3:=h.hv
  have a4:=h.row.1
  refine ⟨h.keep.trans k,h.cl,h.hB,h.hv,(k.block B (by omega) (by omega)).trans h.box,h.res.keep k.size (k.block _ (by omega) (by omega)),h.row.keep k.size (k.block _ (by omega) (by omega)),cs,own_keep h1 (fun g hg hl=>k.block g hl (by omega)),?_⟩
  exact EF.stays (fun g hg=>k.block g hg.2.2 (by omega)) (fun g hg=>⟨hg.1,hg.2.1,Nat.lt_of_lt_of_le hg.2.2 k.size⟩) _ _ h2
set_option maxHeartbeats 2000000 in
theorem FSt.next {w0 W w3 w4 w5:World} {c B v n lc:Nat} {la:Option Addr} {l:List (ByteArray × V)} {m:ByteArray} (hm:m.size≤maxLen) {x:V} {s':ByteArray} {bad':Bool} {d0 d1 d2 d3 d4 d5:Value} {gg cap:Nat} {cs zs:List Value}
    (h:FSt w0 W c B v (.slice la n lc) l) (hl:n=l.length) (ho:W.ownsRow (v+1) 147 7 (.slice la n lc) n cs) (he:EF W (fun g=>v+1≤g∧some g≠(Value.slice la n lc).ownBlock∧g<W.heap.size) l cs)
    (k3:Curw c W w3) (hr:RepA w3 (fun g=>W.heap.size≤g∧g<w3.heap.size) x (.agg #[d0,d1,d2,d3,d4,d5])) (hc:Cur c s' bad' w3) (h4:Below w3.heap.size w3 w4) (hg:w4.grownBy w5 (Value.slice la n lc).ownBlock)
    (hn:w5.ownsRow (v+1) 147 7 (.slice (some ⟨gg,0,none⟩) (n+1) cap) (n+1) (cs++zs)) (hz:zs.length=7) (hat:(Value.slice la n lc).ownBlock=some gg∨gg=w4.heap.size) :
    gg≠v∧Row6 w5 v (.int .u8 6) (.bool false) (.int .i64 0) (.string ⟨#[]⟩) (.slice none 0 0) (.slice la n lc)∧(∀j u,zs[j]?=some u→w5.cell? ⟨gg,n*7+j,none⟩=some u)∧(∀j,w5.frozen? ⟨gg,j,none⟩=false) ∧
    FSt w0 ((w5.setCells gg (n*7) [.string m,d0,d1,d2,d3,d4,d5]).setCell ⟨v,5,none⟩ (.slice (some ⟨gg,0,none⟩) (n+1) cap)) c B v (.slice (some ⟨gg,0,none⟩) (n+1) cap) (l++[(m,x)]) ∧
    Cur c s' bad' ((w5.setCells gg (n*7) [.string m,d0,d1,d2,d3,d4,d5]).setCell ⟨v,5,none⟩ (.slice (some ⟨gg,0,none⟩) (n+1) cap)):=by
  have hlv:∀k,(Value.slice la n lc).ownBlock=some k→v+1≤k∧k<W.heap.size:=ho.lt
  have a1:=h.cl
  have a2:=h.hB
  have a3:=h.hv
  have a4:=h.row.1
  have s3:=k3.size
  have s4:=h4.size
  have s5:=hg.size
  have hgb:v+1≤gg∧gg<w5.heap.size:=hn.lt gg rfl
  have hgn:∀k,k<w4.heap.size→some k≠(Value.slice la n lc).ownBlock→k≠gg:=fun k hk hne e=>by
    rcases hat with e2 | e2
    · exact hne (by rw [e,e2])
    · omega
  have hcs:cs.length=n*7:=ho.1
  have st:∀k,k<W.heap.size→k≠c→some k≠(Value.slice la n lc).ownBlock→w5.heap[k]?=W.heap[k]?:=fun k hk hkc hne=>(hg.block k (by omega) hne).trans ((h4.block k (by omega)).trans (k3.block k hk hkc))
  have sn:∀k,W.heap.size≤k→k<w3.heap.size→w5.heap[k]?=w3.heap[k]?:=fun k hk hk2=>(hg.block k (by omega) (fun e=>by have:=(hlv k e.symm).2;omega)).trans (h4.block k hk2)
  have nb:∀k,k≤v→some k≠(Value.slice la n lc).ownBlock:=fun k hk e=>by have:=(hlv k e.symm).1;omega
  have sc:w5.heap[c]?=w3.heap[c]?:=(hg.block c (by omega) (nb c (by omega))).trans (h4.block c (by omega))
  have hrow:Row6 w5 v (.int .u8 6) (.bool false) (.int .i64 0) (.string ⟨#[]⟩) (.slice none 0 0) (.slice la n lc):=h.row.keep (by omega) (st v a4 (by omega) (nb v (Nat.le_refl _)))
  have hnew:=own_last (ds:=[.string m,d0,d1,d2,d3,d4,d5]) hn hcs hz rfl
  have b6:Below 0 w5 (w5.setCells gg (n*7) [.string m,d0,d1,d2,d3,d4,d5]):=below_setCellsV (Nat.zero_le gg) _ _ (Below.refl 0 w5)
  have k6:∀k,k≠gg→(w5.setCells gg (n*7) [.string m,d0,d1,d2,d3,d4,d5]).heap[k]?=w5.heap[k]?:=fun k hk=>setCells_block hk _
  have s6:(w5.setCells gg (n*7) [.string m,d0,d1,d2,d3,d4,d5]).heap.size=w5.heap.size:=size_setCellsV' _ _ _ _
  obtain ⟨w6,hw6⟩:∃w6,w6=w5.setCells gg (n*7) [.string m,d0,d1,d2,d3,d4,d5]:=⟨_,rfl⟩
  rw [←hw6] at hnew b6 k6 s6 ⊢
  clear hw6
  obtain ⟨nv,hnv⟩:∃nv:Value,nv=.slice (some ⟨gg,0,none⟩) (n+1) cap:=⟨_,rfl⟩
  have hend:∀k,k≠gg→k≠v→(w6.setCell ⟨v,5,none⟩ nv).heap[k]?=w5.heap[k]?:=fun k h1 h2=>(heap_setCell_other _ _ _ _ h2).trans (k6 k h1)
  have hsz:(w6.setCell ⟨v,5,none⟩ nv).heap.size=w5.heap.size:=by simp [s6]
  have hnb:nv.ownBlock=some gg:=by rw [hnv];rfl
  have cell5:∀j u,zs[j]?=some u→w5.cell? ⟨gg,n*7+j,none⟩=some u:=by
    intro j u hu
    have hcell:=hn.cells (g:=gg) rfl (n*7+j) u
    rw [Addr.add_mid,Nat.zero_add] at hcell
    refine hcell ?_
    rw [List.getElem?_append_right (by omega),hcs,show n*7+j - n*7=j by omega]
    exact hu
  have free5:∀j,w5.frozen? ⟨gg,j,none⟩=false:=by
    intro j
    rcases hn.2 with ⟨e,_⟩ | ⟨g',cap',cur,e,_,h2,_⟩
    · cases e
    · cases e
      exact row_freeV h2 j
  rw [←hnv] at hnew ⊢
  have keep6:Curw c w0 (w6.setCell ⟨v,5,none⟩ nv):=by
    refine ⟨b6.os.trans (hg.os.trans (h4.os.trans (k3.os.trans h.keep.os))),b6.tape.trans (hg.tape.trans (h4.tape.trans (k3.tape.trans h.keep.tape))),b6.output.trans (hg.output.trans (h4.output.trans (k3.output.trans h.keep.output))),by rw [hsz];have:=h.keep.size;omega,fun k hk hkc=>?_⟩
    have:=h.keep.size
    exact (hend k (by omega) (by omega)).trans ((st k (by omega) hkc (nb k (by omega))).trans (h.keep.block k hk hkc))
  refine ⟨by omega,hrow,cell5,free5,⟨keep6,h.cl,h.hB,h.hv,?_,?_,?_,cs++[.string m,d0,d1,d2,d3,d4,d5],?_,?_⟩,?_,?_⟩
  · exact (hend B (by omega) (by omega)).trans ((st B (by omega) (by omega) (nb B (by omega))).trans h.box)
  · exact h.res.keep (by rw [hsz];omega) ((hend (B+1) (by omega) (by omega)).trans (st (B+1) (by omega) (by omega) (nb (B+1) (by omega))))
  · exact Row6.set5 (hrow.keep (by omega) (k6 v (by omega)))
  · rw [List.length_append,List.length_singleton,←hl]
    exact own_set hnew (fun e=>by rw [hnb] at e;injection e with e;omega)
  · refine EF.snoc hm ?_ _ _ ?_
    · refine repA_stays (fun k hk=>?_) (fun k hk=>?_) x _ hr
      · exact (hend k (hgn k (by omega) (fun e=>by have:=(hlv k e.symm).2;omega)) (by omega)).trans (sn k hk.1 hk.2)
      · exact ⟨by omega,fun e=>hgn k (by omega) (fun e=>by have:=(hlv k e.symm).2;omega) (by rw [hnb] at e;injection e),by rw [hsz];omega⟩
    · refine EF.stays (fun k hk=>?_) (fun k hk=>?_) _ _ he
      · exact (hend k (hgn k (by omega) hk.2.1) (by omega)).trans (st k hk.2.2 (by omega) hk.2.1)
      · exact ⟨hk.1,fun e=>hgn k (by omega) hk.2.1 (by rw [hnb] at e;injection e),by rw [hsz];omega⟩
  · rw [hsz];have:=hc.lt;omega
  · exact (hend c (by omega) (by omega)).trans (sc.trans hc.row)
end Go.Proofs.YtggnfejjcgbebaaGreatDoor
/- The cursor's parts, walked, whatever reads a part. -/
namespace Go.Proofs.YtggnfejjcgbebaaGreatDoor
open Go.RowKit
open Vl (V)
def PL (s1:ByteArray) (l:List V) (s':ByteArray) (bad:Bool):Prop:=(bad=false∧Bn.fitL l∧l.length≤64∧s1.data.toList=Bn.num l.length++(Bn.bytesL l++s'.data.toList))∨(bad=true∧s'=⟨#[]⟩∧Bn.noV (6 :: s1.data.toList))
def PLm (n:Nat) (s1:ByteArray) (l:List V) (s':ByteArray) (bad:Bool):Prop:=(bad=false∧Bn.fitL l∧s1.data.toList=Bn.num n++(Bn.bytesL l++s'.data.toList))∨(bad=true∧s'=⟨#[]⟩∧Bn.noV (6 :: s1.data.toList))
theorem PLm.next {n:Nat} {s1 s3 s':ByteArray} {l:List V} {x:V} {bad:Bool} (h:PLm n s1 l s3 false) (hl:l.length<n) (hx:PV s3 x s' bad):PLm n s1 (l++[x]) s' bad:=by
  rcases h with ⟨_,h1,h2⟩ | ⟨h0,_⟩
  · rcases hx with ⟨e,k1,k2⟩ | ⟨e,k1,k2⟩
    · refine Or.inl ⟨e,Bn.fitL_snoc l x h1 k1,?_⟩
      rw [h2,k2,Bn.bytesL_snoc,List.append_assoc]
    · refine Or.inr ⟨e,k1,?_⟩
      rw [h2]
      refine Bn.noV_list (fun _=>?_)
      rw [show n=l.length+(n - l.length) by omega]
      exact Bn.noL_app l _ _ h1 (Bn.noL_now k2 (by omega))
  · cases h0
theorem PLm.small {n:Nat} {s1 s3:ByteArray} {l:List V} {bad:Bool} (h:PLm n s1 l s3 bad):s3.size≤s1.size:=by
  rcases h with ⟨_,_,h2⟩ | ⟨_,h2,_⟩
  · rw [Lib.size_eq,Lib.size_eq,h2,List.length_append,List.length_append];omega
  · rw [h2];exact Nat.zero_le _
theorem PLm.done {n:Nat} {s1 s3:ByteArray} {l:List V} {bad:Bool} (h:PLm n s1 l s3 bad) (hl:l.length=n) (hn:n≤64):PL s1 l s3 bad:=by
  rcases h with ⟨h0,h1,h2⟩ | h
  · exact Or.inl ⟨h0,h1,by omega,by rw [hl];exact h2⟩
  · exact Or.inr h
theorem PLm.start {n:Nat} {s1 s2:ByteArray} {b2:Bool} (h:(s1.data.toList=Bn.num n++s2.data.toList∧b2=false)∨(n=0∧s2=⟨#[]⟩∧b2=true∧Bn.noNum s1.data.toList)):PLm n s1 [] s2 b2:=by
  rcases h with ⟨h1,h2⟩ | ⟨_,h2,h3,h4⟩
  · exact Or.inl ⟨h2,by rw [Bn.fitL];trivial,by rw [h1,Bn.bytesL,List.nil_append]⟩
  · exact Or.inr ⟨h3,h2,Bn.noV_list_num h4⟩
set_option maxHeartbeats 2000000 in
set_option maxRecDepth 10000 in
theorem parts82L (w0:World) (c B v:Nat) (s1:ByteArray) (hs:s1.size≤65536) (W:World) (h:LSv w0 W c B v (.slice none 0 0) []) (hc:Cur c s1 false W)
    (HC:∀lv l s2 W2,l.length≤64→s2.size≤s1.size→LSv w0 W2 c B v lv l→Cur c s2 false W2→Calls Tryz.prog 129 #[.pointer (some ⟨v,0,none⟩),.pointer (some ⟨B,0,none⟩)] W2 fun e w'=>e=.returned (.tuple #[])∧∃x lv' s' bad',LSv w0 w' c B v lv' (l++[x])∧Cur c s' bad' w'∧PV s2 x s' bad') :
    Calls Tryz.prog 128 #[.pointer (some ⟨c,0,none⟩),.func (.func 129) #[] #[.pointer (some ⟨v,0,none⟩),.pointer (some ⟨B,0,none⟩)]] W fun e w'=>e=.returned (.tuple #[])∧∃l lv s' bad',LSv w0 w' c B v lv l∧l.length≤65∧Cur c s' bad' w'∧PL s1 l s' bad':=by
  have C80:Hid (Calls Tryz.prog 126 #[.pointer (some ⟨c,0,none⟩)] W fun e w'=>Curw c W w'∧∃(n:Nat) (s':ByteArray) (bad':Bool),n<18446744073709551616∧e=.returned (.int .u64 (n:Int))∧Cur c s' bad' w' ∧
      ((s1.data.toList=Bn.num n++s'.data.toList∧bad'=false)∨(n=0∧s'=⟨#[]⟩∧bad'=true∧Bn.noNum s1.data.toList))):=number80 c s1 (by omega) false W hc
  have HCC:Hid (∀lv l s2 W2,l.length≤64→s2.size≤s1.size→LSv w0 W2 c B v lv l→Cur c s2 false W2→Calls Tryz.prog 129 #[.pointer (some ⟨v,0,none⟩),.pointer (some ⟨B,0,none⟩)] W2 fun e w'=>e=.returned (.tuple #[])∧∃x lv' s' bad',LSv w0 w' c B v lv' (l++[x])∧Cur c s' bad' w'∧PV s2 x s' bad'):=HC
  have HS:Hid (LSv w0 W c B v (.slice none 0 0) []):=h
  clear h hc HC hs
  go_enter Tryz.func128,Tryz.ntmps128
  go_upto_region 1 with (first
    | (go_at_call 126;refine C80.out.mono ?_;rintro e w1 ⟨k1,n,s2,b2,hn,rfl,h1,h2⟩
       have H1:Hid (Cur c s2 b2 w1):=h1
       have H2:Hid ((s1.data.toList=Bn.num n++s2.data.toList∧b2=false)∨(n=0∧s2=⟨#[]⟩∧b2=true∧Bn.noNum s1.data.toList)):=h2
       have S1:Hid (LSv w0 w1 c B v (.slice none 0 0) []):=HS.out.call k1
       clear h1 h2 k1))
  by_cases hbig:64<n
  · have C86:Hid (Calls Tryz.prog 132 #[.pointer (some ⟨c,0,none⟩)] w1 fun e w'=>e=.returned (.tuple #[])∧Cur c ⟨#[]⟩ true w'∧Curw c w1 w'):=fail86 c s2 b2 w1 H1.out
    have HNO:Hid (Bn.noV (6 :: s1.data.toList)):=by
      rcases H2.out with ⟨e,_⟩ | ⟨e,_⟩
      · show Bn.noV _
        rw [e];exact Bn.noV_list (fun h=>by omega)
      · omega
    have hbi:(64:Int)<(n:Int):=by omega
    have hn0:(0:Int)<(n:Int):=by omega
    clear H1 H2 hbig hn
    go_wp2_with (first
      | (go_at_call 132;refine C86.out.mono ?_;rintro e w2 ⟨rfl,h1,k1⟩
         have H3:Hid (Cur c ⟨#[]⟩ true w2):=h1
         have S2:Hid (LSv w0 w2 c B v (.slice none 0 0) []):=S1.out.call k1
         have c1:=h1.cells.2.1
         clear h1 k1))
    go_loopw [16] (fun i wr=>i=.int .u64 0∧wr=w2) (fun _ _=>0)
    case atStart=>exact ⟨rfl,rfl⟩
    case round =>
      obtain ⟨rfl,rfl⟩:=hrel
      go_wp2
      exact bodyPost_ret (v:=.tuple #[]) (results_none (by rfl) _ _ _) rfl ⟨rfl,[],_,_,true,S2.out,by simp,H3.out,Or.inr ⟨rfl,rfl,HNO.out⟩⟩
  · have hn64:n≤64:=by omega
    have hbi:¬(64:Int)<(n:Int):=by omega
    have HST:Hid (PLm n s1 [] s2 b2):=PLm.start H2.out
    clear H2 hn hbig
    go_wp2
    go_loopw [16] (fun i wr=>∃(j:Nat) (l:List V) (lv:Value) (s3:ByteArray) (b3:Bool),j≤n∧i=.int .u64 j∧l.length=j∧LSv w0 wr c B v lv l∧Cur c s3 b3 wr∧PLm n s1 l s3 b3) (fun i _=>n - (intOf i).toNat)
    case atStart=>exact ⟨0,[],_,s2,b2,Nat.zero_le _,rfl,rfl,S1.out,H1.out,HST.out⟩
    case round =>
      obtain ⟨j,l,lv,s3,b3,hj,rfl,hl,r1,r2,r3⟩:=hrel
      have R1:Hid (LSv w0 wr c B v lv l):=r1
      have R2:Hid (Cur c s3 b3 wr):=r2
      have R3:Hid (PLm n s1 l s3 b3):=r3
      have HL:Hid (l.length=j):=hl
      have c1:=r2.cells.2.1
      clear r1 r2 r3 hl HST S1 H1
      by_cases hlt:j<n
      · have hlt':(j:Int)<(n:Int):=by omega
        cases b3 with
        | true =>
          have HP:Hid (PL s1 l s3 true):=by
            rcases R3.out with ⟨e,_⟩ | e
            · cases e
            · exact Or.inr e
          have HL65:Hid (l.length≤65):=by have:=HL.out;show _≤_;omega
          clear R3
          go_wp2
          exact bodyPost_ret (v:=.tuple #[]) (results_none (by rfl) _ _ _) rfl ⟨rfl,l,lv,s3,true,R1.out,HL65.out,R2.out,HP.out⟩
        | false =>
          have C83:Hid (Calls Tryz.prog 129 #[.pointer (some ⟨v,0,none⟩),.pointer (some ⟨B,0,none⟩)] wr fun e w'=>e=.returned (.tuple #[])∧∃x lv' s' bad',LSv w0 w' c B v lv' (l++[x])∧Cur c s' bad' w'∧PV s3 x s' bad'):=HCC.out lv l s3 wr (by have:=HL.out;omega) R3.out.small R1.out R2.out
          go_wp2_with (first
            | (go_at_call 129;refine C83.out.mono ?_;rintro e w4 ⟨rfl,x,lv',s4,b4,h1,h2,h3⟩
               have R4:Hid (LSv w0 w4 c B v lv' (l++[x])):=h1
               have R5:Hid (Cur c s4 b4 w4):=h2
               have R6:Hid (PLm n s1 (l++[x]) s4 b4):=PLm.next R3.out (by have:=HL.out;omega) h3
               clear h1 h2 h3))
          go_roundw
          case rel=>exact ⟨j+1,l++[x],lv',s4,b4,by omega,by go_num,by rw [List.length_append,HL.out];rfl,R4.out,R5.out,R6.out⟩
          case measure=>simp [intOf];omega
      · have hjn:j=n:=by omega
        subst hjn
        have HP:Hid (PL s1 l s3 b3):=R3.out.done HL.out hn64
        have HL65:Hid (l.length≤65):=by have:=HL.out;show _≤_;omega
        clear R3
        go_wp2
        go_end0
        exact ⟨rfl,l,lv,s3,b3,R1.out,HL65.out,R2.out,HP.out⟩
end Go.Proofs.YtggnfejjcgbebaaGreatDoor
/- The cursor's parts, walked, whatever reads a field. -/
namespace Go.Proofs.YtggnfejjcgbebaaGreatDoor
open Go.RowKit
open Vl (V)
def PFl (s m:ByteArray) (x:V) (s':ByteArray) (bad:Bool):Prop:=(bad=false∧m.size≤65536∧Bn.fit x∧s.data.toList=Bn.text m++(Bn.bytes x++s'.data.toList))∨(bad=true∧s'=⟨#[]⟩∧Bn.noField s.data.toList)
def QF (s1:ByteArray) (l:List (ByteArray × V)) (s':ByteArray) (bad:Bool):Prop:=(bad=false∧Bn.fitF l∧l.length≤64∧s1.data.toList=Bn.num l.length++(Bn.bytesF l++s'.data.toList))∨(bad=true∧s'=⟨#[]⟩∧Bn.noV (7 :: s1.data.toList))
def QFm (n:Nat) (s1:ByteArray) (l:List (ByteArray × V)) (s':ByteArray) (bad:Bool):Prop:=(bad=false∧Bn.fitF l∧s1.data.toList=Bn.num n++(Bn.bytesF l++s'.data.toList))∨(bad=true∧s'=⟨#[]⟩∧Bn.noV (7 :: s1.data.toList))
theorem QFm.next {n:Nat} {s1 s3 s':ByteArray} {l:List (ByteArray × V)} {m:ByteArray} {x:V} {bad:Bool} (h:QFm n s1 l s3 false) (hl:l.length<n) (hx:PFl s3 m x s' bad):QFm n s1 (l++[(m,x)]) s' bad:=by
  rcases h with ⟨_,h1,h2⟩ | ⟨h0,_⟩
  · rcases hx with ⟨e,km,k1,k2⟩ | ⟨e,k1,k2⟩
    · refine Or.inl ⟨e,Bn.fitF_snoc l m x h1 km k1,?_⟩
      rw [h2,k2,Bn.bytesF_snoc];simp
    · refine Or.inr ⟨e,k1,?_⟩
      rw [h2]
      refine Bn.noV_struct (fun _=>?_)
      rw [show n=l.length+(n - l.length) by omega]
      exact Bn.noF_app l _ _ h1 (Bn.noF_now k2 (by omega))
  · cases h0
theorem QFm.small {n:Nat} {s1 s3:ByteArray} {l:List (ByteArray × V)} {bad:Bool} (h:QFm n s1 l s3 bad):s3.size≤s1.size:=by
  rcases h with ⟨_,_,h2⟩ | ⟨_,h2,_⟩
  · rw [Lib.size_eq,Lib.size_eq,h2,List.length_append,List.length_append];omega
  · rw [h2];exact Nat.zero_le _
theorem QFm.done {n:Nat} {s1 s3:ByteArray} {l:List (ByteArray × V)} {bad:Bool} (h:QFm n s1 l s3 bad) (hl:l.length=n) (hn:n≤64):QF s1 l s3 bad:=by
  rcases h with ⟨h0,h1,h2⟩ | h
  · exact Or.inl ⟨h0,h1,by omega,by rw [hl];exact h2⟩
  · exact Or.inr h
theorem QFm.start {n:Nat} {s1 s2:ByteArray} {b2:Bool} (h:(s1.data.toList=Bn.num n++s2.data.toList∧b2=false)∨(n=0∧s2=⟨#[]⟩∧b2=true∧Bn.noNum s1.data.toList)):QFm n s1 [] s2 b2:=by
  rcases h with ⟨h1,h2⟩ | ⟨_,h2,h3,h4⟩
  · exact Or.inl ⟨h2,by rw [Bn.fitF];trivial,by rw [h1,Bn.bytesF,List.nil_append]⟩
  · exact Or.inr ⟨h3,h2,Bn.noV_struct_num h4⟩
set_option maxHeartbeats 2000000 in
set_option maxRecDepth 10000 in
theorem parts82F (w0:World) (c B v:Nat) (s1:ByteArray) (hs:s1.size≤65536) (W:World) (h:FSt w0 W c B v (.slice none 0 0) []) (hc:Cur c s1 false W)
    (HC:∀lv l s2 W2,l.length≤64→s2.size≤s1.size→FSt w0 W2 c B v lv l→Cur c s2 false W2→Calls Tryz.prog 130 #[.pointer (some ⟨v,0,none⟩),.pointer (some ⟨B,0,none⟩)] W2 fun e w'=>e=.returned (.tuple #[])∧∃m x lv' s' bad',FSt w0 w' c B v lv' (l++[(m,x)])∧Cur c s' bad' w'∧PFl s2 m x s' bad') :
    Calls Tryz.prog 128 #[.pointer (some ⟨c,0,none⟩),.func (.func 130) #[] #[.pointer (some ⟨v,0,none⟩),.pointer (some ⟨B,0,none⟩)]] W fun e w'=>e=.returned (.tuple #[])∧∃l lv s' bad',FSt w0 w' c B v lv l∧l.length≤65∧Cur c s' bad' w'∧QF s1 l s' bad':=by
  have C80:Hid (Calls Tryz.prog 126 #[.pointer (some ⟨c,0,none⟩)] W fun e w'=>Curw c W w'∧∃(n:Nat) (s':ByteArray) (bad':Bool),n<18446744073709551616∧e=.returned (.int .u64 (n:Int))∧Cur c s' bad' w' ∧
      ((s1.data.toList=Bn.num n++s'.data.toList∧bad'=false)∨(n=0∧s'=⟨#[]⟩∧bad'=true∧Bn.noNum s1.data.toList))):=number80 c s1 (by omega) false W hc
  have HCC:Hid (∀lv l s2 W2,l.length≤64→s2.size≤s1.size→FSt w0 W2 c B v lv l→Cur c s2 false W2→Calls Tryz.prog 130 #[.pointer (some ⟨v,0,none⟩),.pointer (some ⟨B,0,none⟩)] W2 fun e w'=>e=.returned (.tuple #[])∧∃m x lv' s' bad',FSt w0 w' c B v lv' (l++[(m,x)])∧Cur c s' bad' w'∧PFl s2 m x s' bad'):=HC
  have HS:Hid (FSt w0 W c B v (.slice none 0 0) []):=h
  clear h hc HC hs
  go_enter Tryz.func128,Tryz.ntmps128
  go_upto_region 1 with (first
    | (go_at_call 126;refine C80.out.mono ?_;rintro e w1 ⟨k1,n,s2,b2,hn,rfl,h1,h2⟩
       have H1:Hid (Cur c s2 b2 w1):=h1
       have H2:Hid ((s1.data.toList=Bn.num n++s2.data.toList∧b2=false)∨(n=0∧s2=⟨#[]⟩∧b2=true∧Bn.noNum s1.data.toList)):=h2
       have S1:Hid (FSt w0 w1 c B v (.slice none 0 0) []):=HS.out.call k1
       clear h1 h2 k1))
  by_cases hbig:64<n
  · have C86:Hid (Calls Tryz.prog 132 #[.pointer (some ⟨c,0,none⟩)] w1 fun e w'=>e=.returned (.tuple #[])∧Cur c ⟨#[]⟩ true w'∧Curw c w1 w'):=fail86 c s2 b2 w1 H1.out
    have HNO:Hid (Bn.noV (7 :: s1.data.toList)):=by
      rcases H2.out with ⟨e,_⟩ | ⟨e,_⟩
      · show Bn.noV _
        rw [e];exact Bn.noV_struct (fun h=>by omega)
      · omega
    have hbi:(64:Int)<(n:Int):=by omega
    have hn0:(0:Int)<(n:Int):=by omega
    clear H1 H2 hbig hn
    go_wp2_with (first
      | (go_at_call 132;refine C86.out.mono ?_;rintro e w2 ⟨rfl,h1,k1⟩
         have H3:Hid (Cur c ⟨#[]⟩ true w2):=h1
         have S2:Hid (FSt w0 w2 c B v (.slice none 0 0) []):=S1.out.call k1
         have c1:=h1.cells.2.1
         clear h1 k1))
    go_loopw [16] (fun i wr=>i=.int .u64 0∧wr=w2) (fun _ _=>0)
    case atStart=>exact ⟨rfl,rfl⟩
    case round =>
      obtain ⟨rfl,rfl⟩:=hrel
      go_wp2
      exact bodyPost_ret (v:=.tuple #[]) (results_none (by rfl) _ _ _) rfl ⟨rfl,[],_,_,true,S2.out,by simp,H3.out,Or.inr ⟨rfl,rfl,HNO.out⟩⟩
  · have hn64:n≤64:=by omega
    have hbi:¬(64:Int)<(n:Int):=by omega
    have HST:Hid (QFm n s1 [] s2 b2):=QFm.start H2.out
    clear H2 hn hbig
    go_wp2
    go_loopw [16] (fun i wr=>∃(j:Nat) (l:List (ByteArray × V)) (lv:Value) (s3:ByteArray) (b3:Bool),j≤n∧i=.int .u64 j∧l.length=j∧FSt w0 wr c B v lv l∧Cur c s3 b3 wr∧QFm n s1 l s3 b3) (fun i _=>n - (intOf i).toNat)
    case atStart=>exact ⟨0,[],_,s2,b2,Nat.zero_le _,rfl,rfl,S1.out,H1.out,HST.out⟩
    case round =>
      obtain ⟨j,l,lv,s3,b3,hj,rfl,hl,r1,r2,r3⟩:=hrel
      have R1:Hid (FSt w0 wr c B v lv l):=r1
      have R2:Hid (Cur c s3 b3 wr):=r2
      have R3:Hid (QFm n s1 l s3 b3):=r3
      have HL:Hid (l.length=j):=hl
      have c1:=r2.cells.2.1
      clear r1 r2 r3 hl HST S1 H1
      by_cases hlt:j<n
      · have hlt':(j:Int)<(n:Int):=by omega
        cases b3 with
        | true =>
          have HP:Hid (QF s1 l s3 true):=by
            rcases R3.out with ⟨e,_⟩ | e
            · cases e
            · exact Or.inr e
          have HL65:Hid (l.length≤65):=by have:=HL.out;show _≤_;omega
          clear R3
          go_wp2
          exact bodyPost_ret (v:=.tuple #[]) (results_none (by rfl) _ _ _) rfl ⟨rfl,l,lv,s3,true,R1.out,HL65.out,R2.out,HP.out⟩
        | false =>
          have C84:Hid (Calls Tryz.prog 130 #[.pointer (some ⟨v,0,none⟩),.pointer (some ⟨B,0,none⟩)] wr fun e w'=>e=.returned (.tuple #[])∧∃m x lv' s' bad',FSt w0 w' c B v lv' (l++[(m,x)])∧Cur c s' bad' w'∧PFl s3 m x s' bad'):=HCC.out lv l s3 wr (by have:=HL.out;omega) R3.out.small R1.out R2.out
          go_wp2_with (first
            | (go_at_call 130;refine C84.out.mono ?_;rintro e w4 ⟨rfl,m,x,lv',s4,b4,h1,h2,h3⟩
               have R4:Hid (FSt w0 w4 c B v lv' (l++[(m,x)])):=h1
               have R5:Hid (Cur c s4 b4 w4):=h2
               have R6:Hid (QFm n s1 (l++[(m,x)]) s4 b4):=QFm.next R3.out (by have:=HL.out;omega) h3
               clear h1 h2 h3))
          go_roundw
          case rel=>exact ⟨j+1,l++[(m,x)],lv',s4,b4,by omega,by go_num,by rw [List.length_append,HL.out];rfl,R4.out,R5.out,R6.out⟩
          case measure=>simp [intOf];omega
      · have hjn:j=n:=by omega
        subst hjn
        have HP:Hid (QF s1 l s3 b3):=R3.out.done HL.out hn64
        have HL65:Hid (l.length≤65):=by have:=HL.out;show _≤_;omega
        clear R3
        go_wp2
        go_end0
        exact ⟨rfl,l,lv,s3,b3,R1.out,HL65.out,R2.out,HP.out⟩
end Go.Proofs.YtggnfejjcgbebaaGreatDoor
