/- Several texts, joined. -/
import Derived.Test.YtfhkaffakniioaaGreatDoorQ06M
set_option maxHeartbeats 8000000
set_option maxRecDepth 100000
namespace Go.Proofs.YtfhkaffakniioaaGreatDoor
open Go.RowKit
theorem infoTok3:(Tryz.prog.info? 92).map (fun i=>(i.zero,i.size,i.bytes))=some (some (.agg #[.int .u8 0,.string ⟨#[]⟩,.int .i64 0,.int .i64 0]),4,40):=by kernel_rfl
namespace Lx
def tcs (l:List Tk):List Value:=l.flatMap fun t=>(tc t.kind t.text t.n t.at').toList
theorem tcs_snoc (l:List Tk) (t:Tk):tcs (l++[t])=tcs l++[.int .u8 (t.kind:Int),.string (bs t.text),.int .i64 t.n,.int .i64 (t.at':Int)]:=by
 simp[tcs,tc]
theorem lx_form (n:Nat) (l:Bs) (a:Nat):join [] (lx n l a)=lx n l a:=by
 cases n with
 | zero=>rfl
 | succ n =>
  rw[lx]
  split
  ·rfl
  ·split
   ·rename_i h
    unfold join
    rw[if_pos h]
   ·rw[join_join];rfl
theorem arA {k a k2 m m' L:Nat} (h1:k<a) (h2:a≤k2) (h3:m=m'+1) (h4:L<k+m):L<k2+m':=by omega
theorem arB {t k a k2:Nat} (h:t≤k) (h1:k<a) (h2:a≤k2):t+1≤k2:=by omega
theorem arC {k a k2 L:Nat} (h1:k<a) (h2:a≤k2) (h3:k2≤L):L - ((k2:Int)).toNat<L - ((k:Int)).toNat:=by omega
def LexGave (o:Out) (w:World) (e:Ending) (w':World):Prop:=Below w.heap.size w w'∧∃lv,e=.returned (.tuple #[lv,.int .i64 (o.err:Int),.int .i64 (o.pos:Int)])∧w'.ownsRow w.heap.size 92 4 lv o.toks.length (tcs o.toks)
end Lx
theorem zaT {W W':World} {B n size:Nat} {t:TypeId} {v:Value} {L:List Value} (h:W.ownsRow B t size v n L) (hb:Below W.heap.size W W'):W'.ownsRow B t size v n L:=by
 refine⟨h.1,?_⟩
 rcases h.2 with h1 | ⟨g,cap,cur,e,h2,h3,h4⟩
 ·exact Or.inl h1
 ·exact Or.inr ⟨g,cap,cur,e,h2,(hb.block g (Array.getElem?_eq_some_iff.1 h3).1).trans h3,h4⟩
theorem own_setL {W:World} {B n size p o:Nat} {u:Value} {t:TypeId} {v:Value} {L:List Value} (h:W.ownsRow B t size v n L) (hp:some p≠v.ownBlock):(W.setCell ⟨p,o,none⟩ u).ownsRow B t size v n L:=by
 refine⟨h.1,?_⟩
 rcases h.2 with h1 | ⟨g,cap,cur,rfl,h2,h3,h4⟩
 ·exact Or.inl h1
 ·exact Or.inr ⟨g,cap,cur,rfl,h2,(heap_setCell_other _ _ _ _ (fun e=>hp (by rw[e];rfl))).trans h3,h4⟩
theorem own_lt {W:World} {B n size:Nat} {t:TypeId} {v:Value} {L:List Value} (h:W.ownsRow B t size v n L):∀k,v.ownBlock=some k→B≤k∧k<W.heap.size:=h.lt
theorem zbI {P:Program} {fn:Func} {a b c:Tmp} (h:fn.results=#[.tmp a,.tmp b,.tmp c]) (tmps:Array Value) (w:World):(results fn tmps).run P w=.ok (.tuple #[tmps.getD a undef,tmps.getD b undef,tmps.getD c undef]) w:=by
 simp only[results,h]
 simp
structure LS (w W:World) (B:Nat) (ts:List Lx.Tk) (lv:Value):Prop where
 below:Below w.heap.size w W
 rd:RD W B
 lt:w.heap.size≤B
 row:W.ownsRow w.heap.size 92 4 lv ts.length (Lx.tcs ts)
 ne:lv.ownBlock≠some B
theorem LS.call {w W W':World} {B:Nat} {ts:List Lx.Tk} {lv:Value} (h:LS w W B ts lv) (hb:Below W.heap.size W W'):LS w W' B ts lv :=
 ⟨h.below.trans (hb.mono h.below.size),h.rd.call hb,h.lt,zaT h.row hb,h.ne⟩
theorem LS.next {w W W3 W4 W5:World} {B gg cap:Nat} {ts:List Lx.Tk} {lv:Value} {t:Lx.Tk} (h:LS w W B ts lv) (h3:Below W.heap.size W W3) (h4:Below W3.heap.size W3 W4) (hg:W4.grownBy W5 lv.ownBlock) (hat:lv.ownBlock=some gg∨gg=W4.heap.size)
  (hn:W5.ownsRow w.heap.size 92 4 (.slice (some ⟨gg,0,none⟩) (ts.length+1) cap) (ts.length+1) (Lx.tcs ts++[.int .u8 (t.kind:Int),.string (Lx.bs t.text),.int .i64 t.n,.int .i64 (t.at':Int)])):LS w W5 B (ts++[t]) (.slice (some ⟨gg,0,none⟩) (ts.length+1) cap):=by
 have hb:Below W.heap.size W W4:=h3.trans (h4.mono h3.size)
 have hs:=h.below.size
 have hs4:=hb.size
 have hB:B<W.heap.size:=(Array.getElem?_eq_some_iff.1 h.rd).1
 have hb5:Below w.heap.size W4 W5:=(Below.refl _ _).grown hg (by omega) (fun k hk=>(own_lt h.row k hk).1)
 refine⟨(h.below.trans (hb.mono h.below.size)).trans hb5,?_,h.lt,?_,?_⟩
 ·exact((hg.block B (by omega) (fun e=>h.ne e.symm)).trans (hb.block B hB)).trans h.rd
 ·rw[List.length_append,Lx.tcs_snoc]
  exact hn
 ·show some gg≠some B
  rcases hat with e | rfl
  ·rw[←e];exact h.ne
  ·intro q;simp at q;omega
theorem lex_c (l:Lx.Bs) (hl:l.length≤140737488351232) (w:World) (hL:HasL w):Calls Tryz.prog 39 #[.string (Lx.bs l)] w (Lx.LexGave (Lx.lex l) w):=by
 obtain⟨s,hs⟩:∃s,s=Lx.bs l:=⟨_,rfl⟩
 obtain⟨n,hn⟩:∃n:Int,n=(l.length:Int):=⟨_,rfl⟩
 have hsz:(s.size:Int)=n:=by rw[hs,Lx.bs_size,hn]
 have HN:Hid (n=(l.length:Int)):=hn
 by_cases hbig:16384<l.length
 ·have q0:(16384:Int)<n:=by omega
  have HR:Hid (Lx.lex l=⟨[],4,0⟩):=by show _=_;rw[Lx.lex,if_pos hbig]
  rw[←hs]
  clear hs hn
  go_enter Tryz.func39,Tryz.ntmps39
  go_wp2
  refine bodyPost_ret (zbI rfl _ _) rfl ?_
  rw[HR.out]
  exact⟨Below.refl _ _,_,rfl,World.ownsRow_nil _ _ _ _⟩
 ·have q0:¬(16384:Int)<n:=by omega
  have HR:Hid (Lx.lex l=Lx.lx (l.length+1) l 0):=by show _=_;rw[Lx.lex,if_neg hbig]
  have hll:l.length≤16384:=by omega
  have CR:Hid (Calls Tryz.prog 67 #[] w fun e w'=>e=.returned (.slice (some ⟨w.heap.size,0,none⟩) 4 4)∧RD w' w.heap.size∧Below w.heap.size w w'):=readers_c w
  have CB:Hid (∀(k:Nat) (W:World),k≤l.length→Calls Tryz.prog 68 #[.string s,.int .i64 (k:Int)] W fun e w'=>e=.returned (.int .i64 ((k+Lx.bl (l.drop k):Nat):Int))∧Below W.heap.size W w'):=fun k W hk=>by rw[hs];exact behindBlanks_c l k hk hll W
  have HL:Hid (∀W,Below w.heap.size w W→HasL W):=fun W hW=>hL.stays hW
  have HSL:Hid (∀(k:Nat),k≤l.length→∀wx,(Instr.slice 9 (.string s) (some (.int .i64 (k:Int))) none none).run Tryz.prog wx=.ok (.string (Lx.bs (l.drop k))) wx):=fun k hk wx=>by rw[hs];exact Lx.slice_from l (k:Int) k rfl hk wx
  obtain⟨B,hB⟩:∃B,B=w.heap.size:=⟨_,rfl⟩
  have HB:Hid (B=w.heap.size):=hB
  rw[←hB] at CR
  rw[←hs]
  obtain⟨ir,hir,hr0,hr1,hr2⟩:=Go.info_parts infoTok3
  clear hs hn hL hbig hl
  go_enter Tryz.func39,Tryz.ntmps39
  go_wp2_with fail
  refine Calls.mono CR.out ?_
  rintro e w1 ⟨rfl,hrd,hb1⟩
  have S1:Hid (LS w w1 B [] (.slice none 0 0)):=⟨by rw[←HB.out];exact hb1,hrd,by rw[HB.out];exact Nat.le_refl _,World.ownsRow_nil _ _ _ _,by simp[Value.ownBlock]⟩
  clear hrd hb1 CR hB
  go_wp2_with fail
  refine Calls.mono (CB.out 0 _ (Nat.zero_le _)) ?_
  rintro e w2 ⟨rfl,hb2⟩
  have S2:Hid (LS w w2 B [] (.slice none 0 0)):=S1.out.call hb2
  clear hb2 S1
  go_wp2
  go_loopw [5,7] (fun o a wr=>∃(ts:List Lx.Tk) (k m:Nat) (lv:Value),lv=o∧a=.int .i64 (k:Int)∧k≤l.length∧Lx.bl (l.drop k)=0∧l.length<k+m∧Lx.lx (l.length+1) l 0=Lx.join ts (Lx.lx m (l.drop k) k)∧ts.length≤k∧LS w wr B ts lv) (fun _ a _=>l.length - (intOf a).toNat)
  case atStart =>
   refine⟨[],Lx.bl l,l.length+1,_,rfl,rfl,Lx.bl_le l,Lx.bl_drop l,by omega,?_,Nat.zero_le _,S2.out⟩
   rw[Lx.lx_blank,Nat.zero_add]
   exact(Lx.lx_form _ _ _).symm
  case round =>
   obtain⟨ts,k,m,lv,hlv,rfl,hk,hbl,hm,hlx,htk,hS⟩:=hrel
   subst hlv
   have S:Hid (LS w wr B ts lv):=hS
   have HBL:Hid (Lx.bl (l.drop k)=0):=hbl
   have HLX:Hid (Lx.lx (l.length+1) l 0=Lx.join ts (Lx.lx m (l.drop k) k)):=hlx
   clear hS hbl hlx S2
   by_cases hlt:k<l.length
   ·have q1:(k:Int)<n:=by rw[HN.out];omega
    have hsl:=HSL.out k hk
    obtain⟨x,r,hxr⟩:∃x r,l.drop k=x :: r:=by
     cases hd:l.drop k with
     | nil=>have:=congrArg List.length hd;rw[List.length_drop] at this;simp at this;omega
     | cons x r=>exact⟨x,r,rfl⟩
    have hln:(x :: r).length=l.length - k:=by rw[←hxr,List.length_drop]
    obtain⟨sx,hsx⟩:∃sx,sx=Lx.bs (l.drop k):=⟨_,rfl⟩
    rw[←hsx] at hsl
    obtain⟨F,hF⟩:∃F,F=Lx.frst (x :: r):=⟨_,rfl⟩
    have CF:Hid (Calls Tryz.prog 69 #[.slice (some ⟨B,0,none⟩) 4 4,.string sx] wr fun e w'=>e=Lx.gave F∧Below wr.heap.size wr w'):=by
     rw[hsx,hxr,hF]
     exact first_c x r (by rw[hln];omega) B wr S.out.rd (HL.out _ S.out.below)
    have HF:Hid (F.err=0→0<F.size∧F.size≤(x :: r).length):=by rw[hF];exact Lx.frst_size
    obtain⟨m',hm'⟩:∃m',m=m'+1:=⟨m - 1,by omega⟩
    have HLE:Hid (F.err≠0→Lx.lex l=⟨[],F.err,k⟩):=fun he=>by
     rw[HR.out,HLX.out,hm',Lx.lx,HBL.out,List.drop_zero,hxr]
     show Lx.join ts (if (Lx.frst (x :: r)).err≠0 then _ else _)=_
     rw[←hF,if_pos he,Lx.join,if_pos (show(Lx.Out.mk [] F.err (k+0)).err≠0 from he)]
     rfl
    have HLN:Hid (F.err=0→Lx.lx (l.length+1) l 0=Lx.join (ts++[⟨F.kind,F.text,F.n,k⟩]) (Lx.lx m' (l.drop (k+F.size)) (k+F.size))):=fun he=>by
     rw[HLX.out,hm',Lx.lx,HBL.out,List.drop_zero,hxr]
     show Lx.join ts (if (Lx.frst (x :: r)).err≠0 then _ else _)=_
     rw[←hF,if_neg (by simp[he]),Lx.join_join,←hxr,List.drop_drop]
     rfl
    clear hF hsx HLX
    obtain⟨er,kd,tx,nn,sz⟩:=F
    go_wp2_with fail
    refine Calls.mono CF.out ?_
    rintro e w2 ⟨rfl,hb2⟩
    have S2:Hid (LS w w2 B ts lv):=S.out.call hb2
    have HB2:Hid (Below wr.heap.size wr w2):=hb2
    clear hb2 CF
    simp only[Lx.gave,Lx.tc]
    go_upto_region 8 with fail
    obtain⟨w3,hw3⟩:∃w3,w3=w2.alloc (.cells #[.int .u8 (kd:Int),.string (Lx.bs tx),.int .i64 nn,.int .i64 0] 92):=⟨_,rfl⟩
    obtain⟨Q,hQ⟩:∃Q,Q=w2.heap.size:=⟨_,rfl⟩
    have S3:Hid (LS w w3 B ts lv):=by rw[hw3];exact S2.out.call ((Below.refl _ _).alloc (Nat.le_refl _) _)
    have V3:Hid (w3.heap[Q]?=some (.cells #[.int .u8 (kd:Int),.string (Lx.bs tx),.int .i64 nn,.int .i64 0] 92 (0,0))∧Q=w2.heap.size∧Below w2.heap.size w2 w3):=by rw[hw3,hQ];exact⟨heap_alloc_new w2 _,rfl,(Below.refl _ _).alloc (Nat.le_refl _) _⟩
    rw[←hw3,←hQ]
    clear hw3 hQ S2
    by_cases he:er=0
    ·subst he
     have HSZ:Hid (0<sz∧sz≤(x :: r).length):=HF.out rfl
     obtain⟨p0,p1,p2,p3⟩:w3.cell? ⟨Q,0,none⟩=some (.int .u8 (kd:Int))∧w3.cell? ⟨Q,1,none⟩=some (.string (Lx.bs tx))∧w3.cell? ⟨Q,2,none⟩=some (.int .i64 nn)∧w3.cell? ⟨Q,3,none⟩=some (.int .i64 0):=by
      refine⟨?_,?_,?_,?_⟩<;>(rw[cell_of_row _ _ _ _ _ _ V3.out.1];rfl)
     have fz:=Lib.frozen_of_heap V3.out.1
     go_upto_region 11 with fail
     obtain⟨w4,hw4⟩:∃w4,w4=w3.setCell ⟨Q,3,none⟩ (.int .i64 (k:Int)):=⟨_,rfl⟩
     have HBW:Hid (Below wr.heap.size wr w4):=by
      have h2:=HB2.out.size
      have h3:=V3.out.2.1
      rw[hw4]
      exact(HB2.out.trans (V3.out.2.2.mono h2)).setCell (by show wr.heap.size≤Q;omega) _
     have V4:Hid (w4.heap[Q]?=some (.cells #[.int .u8 (kd:Int),.string (Lx.bs tx),.int .i64 nn,.int .i64 (k:Int)] 92 (0,0))):=by rw[hw4];exact heap_setCell_same w3 _ 3 _ 92 _ V3.out.1
     rw[←hw4]
     clear hw4 p0 p1 p2 p3 fz S3 V3
     obtain⟨p0,p1,p2,p3⟩:w4.cell? ⟨Q,0,none⟩=some (.int .u8 (kd:Int))∧w4.cell? ⟨Q,1,none⟩=some (.string (Lx.bs tx))∧w4.cell? ⟨Q,2,none⟩=some (.int .i64 nn)∧w4.cell? ⟨Q,3,none⟩=some (.int .i64 (k:Int)):=by
      refine⟨?_,?_,?_,?_⟩<;>(rw[cell_of_row _ _ _ _ _ _ V4.out];rfl)
     obtain⟨j,hj⟩:∃j,j=ts.length:=⟨_,rfl⟩
     have HJ:Hid (j=ts.length):=hj
     have HOWN:Hid (w4.ownsRow w.heap.size 92 4 lv j (Lx.tcs ts)):=by rw[hj];exact zaT S.out.row HBW.out
     have fit63:Hid (j+1≤maxLen):=by show _≤_;unfold maxLen;omega
     have fit47:Hid ((j+1)*40≤140737488355328):=by show _≤_;omega
     have HSZ2:Hid (w.heap.size≤(w4.alloc (.cells #[.int .u8 (kd:Int),.string (Lx.bs tx),.int .i64 nn,.int .i64 (k:Int)] 92)).heap.size):=by have:=HBW.out.size;have:=S.out.below.size;show _≤_;simp;omega
     have HNX:Hid (∀gg cap w5,(w4.alloc (.cells #[.int .u8 (kd:Int),.string (Lx.bs tx),.int .i64 nn,.int .i64 (k:Int)] 92)).grownBy w5 lv.ownBlock→(lv.ownBlock=some gg∨gg=(w4.alloc (.cells #[.int .u8 (kd:Int),.string (Lx.bs tx),.int .i64 nn,.int .i64 (k:Int)] 92)).heap.size)→w5.ownsRow w.heap.size 92 4 (.slice (some ⟨gg,0,none⟩) (j+1) cap) (j+1) (Lx.tcs ts++[.int .u8 (kd:Int),.string (Lx.bs tx),.int .i64 nn,.int .i64 (k:Int)])→LS w w5 B (ts++[⟨kd,tx,nn,k⟩]) (.slice (some ⟨gg,0,none⟩) (j+1) cap)):=by
      intro gg cap w5 hgr hat hno
      rw[hj] at hno ⊢
      exact LS.next (t:=⟨kd,tx,nn,k⟩) S.out HBW.out ((Below.refl _ _).alloc (Nat.le_refl _) _) hgr hat hno
     clear hj
     go_upto_region 12 with (first | (at_builtin;refine wpList_append_lies _ rfl _ _ 61 rfl w.heap.size 92 ir _ 4 40 Tryz.underlying61 hir hr0 hr1 hr2 rfl (by decide) _ _ _ rfl (HOWN.out.alloc _) ⟨w4.heap.size,0,none⟩ 1 1 [.int .u8 (kd:Int),.string (Lx.bs tx),.int .i64 nn,.int .i64 (k:Int)] rfl rfl (World.news_of_block (heap_alloc_new w4 _)) (by intro u hu;simp at hu;rcases hu with rfl | rfl | rfl | rfl<;>rfl) (by decide) fit63.out fit47.out HSZ2.out _ rfl ?_;intro gg cap w5 hown5 hgrow hat hglt;have S5:Hid (LS w w5 B (ts++[⟨kd,tx,nn,k⟩]) (.slice (some ⟨gg,0,none⟩) (j+1) cap)):=HNX.out gg cap w5 hgrow hat hown5;clear hown5 hgrow hat hglt))
     obtain⟨a2,ha2⟩:∃a2,a2=k+sz:=⟨_,rfl⟩
     have hle2:a2≤l.length:=by have:=HSZ.out;omega
     have hgt:k<a2:=by have:=HSZ.out;omega
     have hw1:wrap64 ((k:Int)+(sz:Int))=(a2:Int):=by unfold wrap64;omega
     have HA:Hid (Lx.lx (l.length+1) l 0=Lx.join (ts++[⟨kd,tx,nn,k⟩]) (Lx.lx m' (l.drop a2) a2)):=by rw[ha2];exact HLN.out rfl
     clear ha2 HLN HLE
     obtain⟨k2,hk2⟩:∃k2,k2=a2+Lx.bl (l.drop a2):=⟨_,rfl⟩
     have HK2:Hid (k2≤l.length∧a2≤k2∧Lx.bl (l.drop k2)=0∧Lx.lx m' (l.drop a2) a2=Lx.lx m' (l.drop k2) k2):=by exact Lx.skip l a2 k2 m' hle2 hk2
     have CB2:Hid (∀W:World,Calls Tryz.prog 68 #[.string s,.int .i64 (a2:Int)] W fun e w'=>e=.returned (.int .i64 (k2:Int))∧Below W.heap.size W w'):=fun W=>by rw[hk2];exact CB.out a2 W hle2
     clear hk2
     go_wp2_with fail
     refine Calls.mono (CB2.out _) ?_
     rintro e w6 ⟨rfl,hb6⟩
     have S6:Hid (LS w w6 B (ts++[⟨kd,tx,nn,k⟩]) (.slice (some ⟨gg,0,none⟩) (j+1) cap)):=S5.out.call hb6
     clear hb6 S5
     go_wp2
     obtain⟨h1,h2,h3,h4⟩:=HK2.out
     exact⟨⟨ts++[⟨kd,tx,nn,k⟩],k2,m',_,rfl,rfl,h1,h3,Lx.arA hgt h2 hm' hm,by rw[HA.out,h4],by rw[List.length_append];exact Lx.arB htk hgt h2,S6.out⟩,Lx.arC hgt h2 h1⟩
    ·have q2:((er:Int)==0)=false:=by rw[beq_eq_false_iff_ne];omega
     have q3:((er:Int) != 0)=true:=by rw[bne,q2];rfl
     have hF:=HLE.out he
     have HFF:Hid (Lx.lex l=⟨[],er,k⟩):=hF
     have HBB:=S3.out.below
     clear hF he
     go_wp2
     refine bodyPost_ret (zbI rfl _ _) rfl ?_
     rw[HFF.out]
     exact⟨HBB,_,rfl,World.ownsRow_nil _ _ _ _⟩
   ·have q1:¬(k:Int)<n:=by rw[HN.out];omega
    have HF:Hid (Lx.lex l=⟨ts,0,0⟩):=by
     show _=_
     rw[HR.out,HLX.out,List.drop_of_length_le (by omega)]
     cases m with
     | zero=>simp[Lx.lx,Lx.join]
     | succ m=>simp[Lx.lx,Lx.join,Lx.bl]
    have hF:=S.out
    go_wp2
    refine bodyPost_ret (zbI rfl _ _) rfl ?_
    rw[HF.out]
    exact⟨hF.below,_,rfl,hF.row⟩
end Go.Proofs.YtfhkaffakniioaaGreatDoor
