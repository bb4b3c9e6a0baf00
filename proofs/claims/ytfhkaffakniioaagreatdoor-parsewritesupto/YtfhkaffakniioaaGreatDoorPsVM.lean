/- Several texts, joined. -/
import Derived.Test.YtfhkaffakniioaaGreatDoorQ21M
set_option maxHeartbeats 16000000
set_option maxRecDepth 100000
namespace Go.Proofs.YtfhkaffakniioaaGreatDoor
open Go.RowKit
namespace Ps
attribute [local go_sem] zaR field_tok2
section
variable {W0:World} {pb:Nat} {F:S→S} {m:Nat}
theorem primary_c (hF:∀s,Less s (F s)) (HC:∀m1,m=m1+1→DoesP W0 pb 106 F m1) (hL:HasL W0):DoesP W0 pb 198 (zaQ F) m:=by
 intro W s sb h hm
 obtain⟨bx,hbx⟩:∃bx,bx=W.heap.size:=⟨_,rfl⟩
 obtain⟨w1,hw1⟩:∃w1,w1=W.alloc (.cells #[.pointer (some ⟨pb,0,none⟩)] 99):=⟨_,rfl⟩
 have hb1:Below W.heap.size W w1:=by rw[hw1];exact bnew _ _
 have U:Hid (PU W0 pb bx m w1 s sb F):=⟨h.call hb1,by rw[hw1,hbx];exact heap_alloc_new W _,h.ne (by rw[hbx];exact Nat.le_refl _),hm,hF,HC,hL⟩
 have B1:Hid (Below W.heap.size W w1):=hb1
 have y1:w1.cell? ⟨bx,0,none⟩=some (.pointer (some ⟨pb,0,none⟩)):=by rw[cell_of_row _ _ _ _ _ _ U.out.row];rfl
 obtain⟨t,ht⟩:∃t,t=token s:=⟨_,rfl⟩
 have HT:Hid (t=token s):=ht
 have CT:Hid (Calls Tryz.prog 104 #[.pointer (some ⟨pb,0,none⟩)] w1 fun e W'=>e=.returned (.agg #[.int .u8 (t.kind:Int),.string (Lx.bs t.text),.int .i64 t.n,.int .i64 (t.at':Int)])∧Hid (PG W0 pb w1 sb s W')):=by
  rw[ht]
  refine(token_c U.out.hp).mono ?_
  rintro e W' ⟨rfl,hb⟩
  exact⟨rfl,⟨sb,U.out.hp.call hb,PCh.of_below hb⟩⟩
 clear h hm hF HC hL hb1 ht
 go_enter Tryz.func198,Tryz.ntmps198
 go_upto_region 1 with fail
 rw[←hw1,←hbx]
 clear hw1 hbx
 go_wp2_with fail
 refine(CT.out).mono ?_
 rintro e w2 ⟨rfl,G2⟩
 clear CT
 go_upto_region 3 with fail
 obtain⟨w4,hw4⟩:∃w4,w4=w2.alloc (.cells #[.int .u8 (t.kind:Int),.string (Lx.bs t.text),.int .i64 t.n,.int .i64 (t.at':Int)] 92):=⟨_,rfl⟩
 obtain⟨T,hTT⟩:∃T,T=w2.heap.size:=⟨_,rfl⟩
 have XT:Hid (w4.heap[T]?=some (.cells #[.int .u8 (t.kind:Int),.string (Lx.bs t.text),.int .i64 t.n,.int .i64 (t.at':Int)] 92 (0,0))):=by
  show _=_
  rw[hw4,hTT];exact heap_alloc_new w2 _
 have G4:Hid (PG W0 pb w1 sb s w4):=by rw[hw4];exact G2.out.call (bnew _ _)
 rw[←hw4,←hTT]
 clear hw4 hTT y1 G2
 have z0:w4.cell? ⟨T,0,none⟩=some (.int .u8 (t.kind:Int)):=by rw[cell_of_row _ _ _ _ _ _ XT.out];rfl
 obtain⟨r4,y4⟩:=box_pg U.out.row U.out.ne G4.out
 clear r4
 have HB:Hid (∀s' W',PG W0 pb w1 sb s' W'→W'.cell? ⟨bx,0,none⟩=some (.pointer (some ⟨pb,0,none⟩))):=fun s' W' hg=>(box_pg U.out.row U.out.ne hg).2
 by_cases k3:t.kind=3
 ·have q3:((t.kind:Int)==3)=true:=by rw[k3];rfl
  have hk:(token s).kind=3:=by rw[←HT.out];exact k3
  have hne:=zcT (by decide) hk
  obtain⟨u,hu⟩:∃u,u=nextT s:=⟨_,rfl⟩
  have HE:Hid (zaQ F s=add ⟨4,[],u.n⟩ (next s)):=by
   show _=_
   rw[zaQ,if_pos hk,hu]
  have CN:Hid (∀W',PG W0 pb w1 sb s W'→Calls Tryz.prog 103 #[.pointer (some ⟨pb,0,none⟩)] W' fun e W''=>e=.returned (.agg #[.int .u8 (u.kind:Int),.string (Lx.bs u.text),.int .i64 u.n,.int .i64 (u.at':Int)])∧Hid (PG W0 pb w1 sb (next s) W'')):=fun W' hg=>by
   rw[hu]
   exact next_pg hg hne
  have CA:Hid (∀W',PG W0 pb w1 sb (next s) W'→Calls Tryz.prog 162 #[.pointer (some ⟨pb,0,none⟩),.agg #[.int .u8 4,.string ⟨#[]⟩,.int .i64 u.n]] W' fun e W''=>e=.returned (.tuple #[])∧Hid (PG W0 pb w1 sb (add ⟨4,[],u.n⟩ (next s)) W'')):=fun W' hg=>U.out.add ⟨4,[],u.n⟩ (zaA hne).2 hg
  clear k3 hk hne hu
  go_upto_region 4 with fail
  go_region_law (first
   |(go_simp;go_at_call 103;refine(CN.out _ ?_).mono ?_;(first | exact G4.out | exact G4.out.call (Below.refl _ _).drew);rintro e w5 ⟨rfl,G5⟩
     have y5:=HB.out _ _ G5.out)
   |(go_simp;go_at_call 162;refine(CA.out _ ?_).mono ?_;(first | exact G5.out | exact G5.out.call (Below.refl _ _).drew);rintro e w6 ⟨rfl,G6⟩)
   | fail "no arm")
  all_goals
   first | exact bodyPost_ret (v:=.tuple #[]) (results_none (by rfl) _ _ _) rfl ⟨rfl,by rw[HE.out];exact G6.out.pre B1.out⟩ | exact bodyPost_end (results_none (by rfl) _ _ _) rfl ⟨rfl,by rw[HE.out];exact G6.out.pre B1.out⟩ | (go_wp2;first | exact bodyPost_ret (v:=.tuple #[]) (results_none (by rfl) _ _ _) rfl ⟨rfl,by rw[HE.out];exact G6.out.pre B1.out⟩ | exact bodyPost_end (results_none (by rfl) _ _ _) rfl ⟨rfl,by rw[HE.out];exact G6.out.pre B1.out⟩)
 have q3:((t.kind:Int)==3)=false:=by simp;omega
 have n3:¬(token s).kind=3:=by rw[←HT.out];exact k3
 by_cases k4:t.kind=4
 ·have q4:((t.kind:Int)==4)=true:=by rw[k4];rfl
  have hk:(token s).kind=4:=by rw[←HT.out];exact k4
  have hne:=zcT (by decide) hk
  obtain⟨u,hu⟩:∃u,u=nextT s:=⟨_,rfl⟩
  have HE:Hid (zaQ F s=add ⟨5,u.text,0⟩ (next s)):=by
   show _=_
   rw[zaQ,if_neg n3,if_pos hk,hu]
  have CN:Hid (∀W',PG W0 pb w1 sb s W'→Calls Tryz.prog 103 #[.pointer (some ⟨pb,0,none⟩)] W' fun e W''=>e=.returned (.agg #[.int .u8 (u.kind:Int),.string (Lx.bs u.text),.int .i64 u.n,.int .i64 (u.at':Int)])∧Hid (PG W0 pb w1 sb (next s) W'')):=fun W' hg=>by
   rw[hu]
   exact next_pg hg hne
  have CA:Hid (∀W',PG W0 pb w1 sb (next s) W'→Calls Tryz.prog 162 #[.pointer (some ⟨pb,0,none⟩),.agg #[.int .u8 5,.string (Lx.bs u.text),.int .i64 0]] W' fun e W''=>e=.returned (.tuple #[])∧Hid (PG W0 pb w1 sb (add ⟨5,u.text,0⟩ (next s)) W'')):=fun W' hg=>U.out.add ⟨5,u.text,0⟩ (zaA hne).2 hg
  clear k4 hk hne hu
  go_upto_region 6 with fail
  go_region_law (first
   |(go_simp;go_at_call 103;refine(CN.out _ ?_).mono ?_;(first | exact G4.out | exact G4.out.call (Below.refl _ _).drew);rintro e w5 ⟨rfl,G5⟩
     have y5:=HB.out _ _ G5.out)
   |(go_simp;go_at_call 162;refine(CA.out _ ?_).mono ?_;(first | exact G5.out | exact G5.out.call (Below.refl _ _).drew);rintro e w6 ⟨rfl,G6⟩)
   | fail "no arm")
  all_goals
   first | exact bodyPost_ret (v:=.tuple #[]) (results_none (by rfl) _ _ _) rfl ⟨rfl,by rw[HE.out];exact G6.out.pre B1.out⟩ | exact bodyPost_end (results_none (by rfl) _ _ _) rfl ⟨rfl,by rw[HE.out];exact G6.out.pre B1.out⟩ | (go_wp2;first | exact bodyPost_ret (v:=.tuple #[]) (results_none (by rfl) _ _ _) rfl ⟨rfl,by rw[HE.out];exact G6.out.pre B1.out⟩ | exact bodyPost_end (results_none (by rfl) _ _ _) rfl ⟨rfl,by rw[HE.out];exact G6.out.pre B1.out⟩)
 have q4:((t.kind:Int)==4)=false:=by simp;omega
 have n4:¬(token s).kind=4:=by rw[←HT.out];exact k4
 by_cases k1:t.kind=1
 ·have q1:((t.kind:Int)==1)=true:=by rw[k1];rfl
  have hk:(token s).kind=1:=by rw[←HT.out];exact k1
  have hne:=zcT (by decide) hk
  obtain⟨u,hu⟩:∃u,u=(path s).2:=⟨_,rfl⟩
  have HE:Hid (zaQ F s=add ⟨6,join [46] u,0⟩ (path s).1):=by
   show _=_
   rw[zaQ,if_neg n3,if_neg n4,if_pos hk,hu]
  have CN:Hid (∀W',PG W0 pb w1 sb s W'→Calls Tryz.prog 199 #[.pointer (some ⟨pb,0,none⟩)] W' fun e W''=>e=.returned (.string (Lx.bs (join [46] u)))∧Hid (PG W0 pb w1 sb (path s).1 W'')):=fun W' hg=>by
   rw[hu]
   obtain⟨sb1,k1,k2⟩:=hg
   refine(path_c k1 hne U.out.hasL).mono ?_
   rintro e W'' ⟨rfl,q⟩
   exact⟨rfl,PG.trans k2 q⟩
  have CA:Hid (∀W',PG W0 pb w1 sb (path s).1 W'→Calls Tryz.prog 162 #[.pointer (some ⟨pb,0,none⟩),.agg #[.int .u8 6,.string (Lx.bs (join [46] u)),.int .i64 0]] W' fun e W''=>e=.returned (.tuple #[])∧Hid (PG W0 pb w1 sb (add ⟨6,join [46] u,0⟩ (path s).1) W'')):=fun W' hg=>U.out.add ⟨6,join [46] u,0⟩ (path_shrinks hne) hg
  clear k1 hk hne hu
  go_upto_region 8 with fail
  go_region_law (first
   |(go_simp;go_at_call 199;refine(CN.out _ ?_).mono ?_;(first | exact G4.out | exact G4.out.call (Below.refl _ _).drew);rintro e w5 ⟨rfl,G5⟩
     have y5:=HB.out _ _ G5.out)
   |(go_simp;go_at_call 162;refine(CA.out _ ?_).mono ?_;(first | exact G5.out | exact G5.out.call (Below.refl _ _).drew);rintro e w6 ⟨rfl,G6⟩)
   | fail "no arm")
  all_goals
   first | exact bodyPost_ret (v:=.tuple #[]) (results_none (by rfl) _ _ _) rfl ⟨rfl,by rw[HE.out];exact G6.out.pre B1.out⟩ | exact bodyPost_end (results_none (by rfl) _ _ _) rfl ⟨rfl,by rw[HE.out];exact G6.out.pre B1.out⟩ | (go_wp2;first | exact bodyPost_ret (v:=.tuple #[]) (results_none (by rfl) _ _ _) rfl ⟨rfl,by rw[HE.out];exact G6.out.pre B1.out⟩ | exact bodyPost_end (results_none (by rfl) _ _ _) rfl ⟨rfl,by rw[HE.out];exact G6.out.pre B1.out⟩)
 have q1:((t.kind:Int)==1)=false:=by simp;omega
 have n1:¬(token s).kind=1:=by rw[←HT.out];exact k1
 have R0:Hid (zaQ F s=(if is [[78,85,76,76]] s then add ⟨1,[],0⟩ (next s) else if is [[84,82,85,69]] s then add ⟨2,[],0⟩ (next s) else if is [[70,65,76,83,69]] s then add ⟨3,[],0⟩ (next s) else if is [[40]] s then nest (closed F) s else if is [[91]] s then nest (list F) s else if is [[123]] s then nest (fields F) s else fail 13 s)):=by show _=_;rw[zaQ,if_neg n3,if_neg n4,if_neg n1]
 clear n1 n3 n4 k1 k3 k4
 have G5:=G4
 have y5:=y4
 clear y4
 have CM:Hid (Calls Tryz.prog 109 #[.pointer (some ⟨pb,0,none⟩),.slice (some ⟨w4.heap.size,0,none⟩) 1 1] (w4.alloc (.cells #[.string ⟨#[78,85,76,76]⟩] 9)) fun e W''=>e=.returned (.bool (is [[78,85,76,76]] s))∧Hid (PG W0 pb w1 sb (may [[78,85,76,76]] s) W'')):=may_pg (ts:=[[78,85,76,76]]) G5.out rfl rfl (by decide)
 cases hi:is [[78,85,76,76]] s with
 | true =>
  rw[hi,may,if_pos hi] at CM
  have hne:=is_ne hi
  have HE:Hid (zaQ F s=add ⟨1,[],0⟩ (next s)):=by show _=_;rw[R0.out,if_pos hi]
  clear hi
  go_wp2_with fail
  refine(CM.out).mono ?_
  rintro e v0 ⟨rfl,G7⟩
  have y7:=HB.out _ _ G7.out
  have CA:Hid (Calls Tryz.prog 162 #[.pointer (some ⟨pb,0,none⟩),.agg #[.int .u8 1,.string ⟨#[]⟩,.int .i64 0]] v0 fun e W''=>e=.returned (.tuple #[])∧Hid (PG W0 pb w1 sb (add ⟨1,[],0⟩ (next s)) W'')):=U.out.add ⟨1,[],0⟩ (zaA hne).2 G7.out
  clear hne y5 CM G5
  go_wp2_with fail
  refine(CA.out).mono ?_
  rintro e w6 ⟨rfl,G6⟩
  first | exact bodyPost_ret (v:=.tuple #[]) (results_none (by rfl) _ _ _) rfl ⟨rfl,by rw[HE.out];exact G6.out.pre B1.out⟩ | exact bodyPost_end (results_none (by rfl) _ _ _) rfl ⟨rfl,by rw[HE.out];exact G6.out.pre B1.out⟩ | (go_wp2;first | exact bodyPost_ret (v:=.tuple #[]) (results_none (by rfl) _ _ _) rfl ⟨rfl,by rw[HE.out];exact G6.out.pre B1.out⟩ | exact bodyPost_end (results_none (by rfl) _ _ _) rfl ⟨rfl,by rw[HE.out];exact G6.out.pre B1.out⟩)
 | false =>
 rw[hi,may,hi] at CM
 have RN:Hid (zaQ F s=(if is [[84,82,85,69]] s then add ⟨2,[],0⟩ (next s) else if is [[70,65,76,83,69]] s then add ⟨3,[],0⟩ (next s) else if is [[40]] s then nest (closed F) s else if is [[91]] s then nest (list F) s else if is [[123]] s then nest (fields F) s else fail 13 s)):=by show _=_;rw[R0.out,hi];rfl
 clear hi R0
 have R0:=RN
 clear RN
 go_wp2_with fail
 refine(CM.out).mono ?_
 clear y5 CM G5
 rintro e v0 ⟨rfl,G5⟩
 have y5:=HB.out _ _ G5.out
 have CM:Hid (Calls Tryz.prog 109 #[.pointer (some ⟨pb,0,none⟩),.slice (some ⟨v0.heap.size,0,none⟩) 1 1] (v0.alloc (.cells #[.string ⟨#[84,82,85,69]⟩] 9)) fun e W''=>e=.returned (.bool (is [[84,82,85,69]] s))∧Hid (PG W0 pb w1 sb (may [[84,82,85,69]] s) W'')):=may_pg (ts:=[[84,82,85,69]]) G5.out rfl rfl (by decide)
 cases hi:is [[84,82,85,69]] s with
 | true =>
  rw[hi,may,if_pos hi] at CM
  have hne:=is_ne hi
  have HE:Hid (zaQ F s=add ⟨2,[],0⟩ (next s)):=by show _=_;rw[R0.out,if_pos hi]
  clear hi
  go_wp2_with fail
  refine(CM.out).mono ?_
  rintro e v1 ⟨rfl,G7⟩
  have y7:=HB.out _ _ G7.out
  have CA:Hid (Calls Tryz.prog 162 #[.pointer (some ⟨pb,0,none⟩),.agg #[.int .u8 2,.string ⟨#[]⟩,.int .i64 0]] v1 fun e W''=>e=.returned (.tuple #[])∧Hid (PG W0 pb w1 sb (add ⟨2,[],0⟩ (next s)) W'')):=U.out.add ⟨2,[],0⟩ (zaA hne).2 G7.out
  clear hne y5 CM G5
  go_wp2_with fail
  refine(CA.out).mono ?_
  rintro e w6 ⟨rfl,G6⟩
  first | exact bodyPost_ret (v:=.tuple #[]) (results_none (by rfl) _ _ _) rfl ⟨rfl,by rw[HE.out];exact G6.out.pre B1.out⟩ | exact bodyPost_end (results_none (by rfl) _ _ _) rfl ⟨rfl,by rw[HE.out];exact G6.out.pre B1.out⟩ | (go_wp2;first | exact bodyPost_ret (v:=.tuple #[]) (results_none (by rfl) _ _ _) rfl ⟨rfl,by rw[HE.out];exact G6.out.pre B1.out⟩ | exact bodyPost_end (results_none (by rfl) _ _ _) rfl ⟨rfl,by rw[HE.out];exact G6.out.pre B1.out⟩)
 | false =>
 rw[hi,may,hi] at CM
 have RN:Hid (zaQ F s=(if is [[70,65,76,83,69]] s then add ⟨3,[],0⟩ (next s) else if is [[40]] s then nest (closed F) s else if is [[91]] s then nest (list F) s else if is [[123]] s then nest (fields F) s else fail 13 s)):=by show _=_;rw[R0.out,hi];rfl
 clear hi R0
 have R0:=RN
 clear RN
 go_wp2_with fail
 refine(CM.out).mono ?_
 clear y5 CM G5
 rintro e v1 ⟨rfl,G5⟩
 have y5:=HB.out _ _ G5.out
 have CM:Hid (Calls Tryz.prog 109 #[.pointer (some ⟨pb,0,none⟩),.slice (some ⟨v1.heap.size,0,none⟩) 1 1] (v1.alloc (.cells #[.string ⟨#[70,65,76,83,69]⟩] 9)) fun e W''=>e=.returned (.bool (is [[70,65,76,83,69]] s))∧Hid (PG W0 pb w1 sb (may [[70,65,76,83,69]] s) W'')):=may_pg (ts:=[[70,65,76,83,69]]) G5.out rfl rfl (by decide)
 cases hi:is [[70,65,76,83,69]] s with
 | true =>
  rw[hi,may,if_pos hi] at CM
  have hne:=is_ne hi
  have HE:Hid (zaQ F s=add ⟨3,[],0⟩ (next s)):=by show _=_;rw[R0.out,if_pos hi]
  clear hi
  go_wp2_with fail
  refine(CM.out).mono ?_
  rintro e v2 ⟨rfl,G7⟩
  have y7:=HB.out _ _ G7.out
  have CA:Hid (Calls Tryz.prog 162 #[.pointer (some ⟨pb,0,none⟩),.agg #[.int .u8 3,.string ⟨#[]⟩,.int .i64 0]] v2 fun e W''=>e=.returned (.tuple #[])∧Hid (PG W0 pb w1 sb (add ⟨3,[],0⟩ (next s)) W'')):=U.out.add ⟨3,[],0⟩ (zaA hne).2 G7.out
  clear hne y5 CM G5
  go_wp2_with fail
  refine(CA.out).mono ?_
  rintro e w6 ⟨rfl,G6⟩
  first | exact bodyPost_ret (v:=.tuple #[]) (results_none (by rfl) _ _ _) rfl ⟨rfl,by rw[HE.out];exact G6.out.pre B1.out⟩ | exact bodyPost_end (results_none (by rfl) _ _ _) rfl ⟨rfl,by rw[HE.out];exact G6.out.pre B1.out⟩ | (go_wp2;first | exact bodyPost_ret (v:=.tuple #[]) (results_none (by rfl) _ _ _) rfl ⟨rfl,by rw[HE.out];exact G6.out.pre B1.out⟩ | exact bodyPost_end (results_none (by rfl) _ _ _) rfl ⟨rfl,by rw[HE.out];exact G6.out.pre B1.out⟩)
 | false =>
 rw[hi,may,hi] at CM
 have RN:Hid (zaQ F s=(if is [[40]] s then nest (closed F) s else if is [[91]] s then nest (list F) s else if is [[123]] s then nest (fields F) s else fail 13 s)):=by show _=_;rw[R0.out,hi];rfl
 clear hi R0
 have R0:=RN
 clear RN
 go_wp2_with fail
 refine(CM.out).mono ?_
 clear y5 CM G5
 rintro e v2 ⟨rfl,G5⟩
 have y5:=HB.out _ _ G5.out
 have CM:Hid (Calls Tryz.prog 102 #[.pointer (some ⟨pb,0,none⟩),.slice (some ⟨v2.heap.size,0,none⟩) 1 1] (v2.alloc (.cells #[.string ⟨#[40]⟩] 9)) fun e W''=>e=.returned (.bool (is [[40]] s))∧Hid (PG W0 pb w1 sb s W'')):=is_pg (ts:=[[40]]) G5.out rfl rfl (by decide)
 cases hi:is [[40]] s with
 | true =>
  rw[hi] at CM
  have hne:=is_ne hi
  have HE:Hid (zaQ F s=nest (closed F) s):=by show _=_;rw[R0.out,if_pos hi]
  clear hi
  go_wp2_with fail
  refine(CM.out).mono ?_
  rintro e v3 ⟨rfl,G7⟩
  have y7:=HB.out _ _ G7.out
  have CA:Hid (Calls Tryz.prog 185 #[.pointer (some ⟨pb,0,none⟩),.func (.func 200) #[] #[.pointer (some ⟨bx,0,none⟩)]] v3 fun e W''=>e=.returned (.tuple #[])∧Hid (PG W0 pb w1 sb (nest (closed F) s) W'')):=U.out.nest1 G7.out hne
  clear hne y5 CM G5
  go_wp2_with fail
  refine(CA.out).mono ?_
  rintro e w6 ⟨rfl,G6⟩
  first | exact bodyPost_ret (v:=.tuple #[]) (results_none (by rfl) _ _ _) rfl ⟨rfl,by rw[HE.out];exact G6.out.pre B1.out⟩ | exact bodyPost_end (results_none (by rfl) _ _ _) rfl ⟨rfl,by rw[HE.out];exact G6.out.pre B1.out⟩ | (go_wp2;first | exact bodyPost_ret (v:=.tuple #[]) (results_none (by rfl) _ _ _) rfl ⟨rfl,by rw[HE.out];exact G6.out.pre B1.out⟩ | exact bodyPost_end (results_none (by rfl) _ _ _) rfl ⟨rfl,by rw[HE.out];exact G6.out.pre B1.out⟩)
 | false =>
 rw[hi] at CM
 have RN:Hid (zaQ F s=(if is [[91]] s then nest (list F) s else if is [[123]] s then nest (fields F) s else fail 13 s)):=by show _=_;rw[R0.out,hi];rfl
 clear hi R0
 have R0:=RN
 clear RN
 go_wp2_with fail
 refine(CM.out).mono ?_
 clear y5 CM G5
 rintro e v3 ⟨rfl,G5⟩
 have y5:=HB.out _ _ G5.out
 have CM:Hid (Calls Tryz.prog 102 #[.pointer (some ⟨pb,0,none⟩),.slice (some ⟨v3.heap.size,0,none⟩) 1 1] (v3.alloc (.cells #[.string ⟨#[91]⟩] 9)) fun e W''=>e=.returned (.bool (is [[91]] s))∧Hid (PG W0 pb w1 sb s W'')):=is_pg (ts:=[[91]]) G5.out rfl rfl (by decide)
 cases hi:is [[91]] s with
 | true =>
  rw[hi] at CM
  have hne:=is_ne hi
  have HE:Hid (zaQ F s=nest (list F) s):=by show _=_;rw[R0.out,if_pos hi]
  clear hi
  go_wp2_with fail
  refine(CM.out).mono ?_
  rintro e v4 ⟨rfl,G7⟩
  have y7:=HB.out _ _ G7.out
  have CA:Hid (Calls Tryz.prog 185 #[.pointer (some ⟨pb,0,none⟩),.func (.func 201) #[.pointer (some ⟨pb,0,none⟩)] #[]] v4 fun e W''=>e=.returned (.tuple #[])∧Hid (PG W0 pb w1 sb (nest (list F) s) W'')):=U.out.nest2 G7.out hne
  clear hne y5 CM G5
  go_wp2_with fail
  refine(CA.out).mono ?_
  rintro e w6 ⟨rfl,G6⟩
  first | exact bodyPost_ret (v:=.tuple #[]) (results_none (by rfl) _ _ _) rfl ⟨rfl,by rw[HE.out];exact G6.out.pre B1.out⟩ | exact bodyPost_end (results_none (by rfl) _ _ _) rfl ⟨rfl,by rw[HE.out];exact G6.out.pre B1.out⟩ | (go_wp2;first | exact bodyPost_ret (v:=.tuple #[]) (results_none (by rfl) _ _ _) rfl ⟨rfl,by rw[HE.out];exact G6.out.pre B1.out⟩ | exact bodyPost_end (results_none (by rfl) _ _ _) rfl ⟨rfl,by rw[HE.out];exact G6.out.pre B1.out⟩)
 | false =>
 rw[hi] at CM
 have RN:Hid (zaQ F s=(if is [[123]] s then nest (fields F) s else fail 13 s)):=by show _=_;rw[R0.out,hi];rfl
 clear hi R0
 have R0:=RN
 clear RN
 go_wp2_with fail
 refine(CM.out).mono ?_
 clear y5 CM G5
 rintro e v4 ⟨rfl,G5⟩
 have y5:=HB.out _ _ G5.out
 have CM:Hid (Calls Tryz.prog 102 #[.pointer (some ⟨pb,0,none⟩),.slice (some ⟨v4.heap.size,0,none⟩) 1 1] (v4.alloc (.cells #[.string ⟨#[123]⟩] 9)) fun e W''=>e=.returned (.bool (is [[123]] s))∧Hid (PG W0 pb w1 sb s W'')):=is_pg (ts:=[[123]]) G5.out rfl rfl (by decide)
 cases hi:is [[123]] s with
 | true =>
  rw[hi] at CM
  have hne:=is_ne hi
  have HE:Hid (zaQ F s=nest (fields F) s):=by show _=_;rw[R0.out,if_pos hi]
  clear hi
  go_wp2_with fail
  refine(CM.out).mono ?_
  rintro e v5 ⟨rfl,G7⟩
  have y7:=HB.out _ _ G7.out
  have CA:Hid (Calls Tryz.prog 185 #[.pointer (some ⟨pb,0,none⟩),.func (.func 202) #[.pointer (some ⟨pb,0,none⟩)] #[]] v5 fun e W''=>e=.returned (.tuple #[])∧Hid (PG W0 pb w1 sb (nest (fields F) s) W'')):=U.out.nest3 G7.out hne
  clear hne y5 CM G5
  go_wp2_with fail
  refine(CA.out).mono ?_
  rintro e w6 ⟨rfl,G6⟩
  first | exact bodyPost_ret (v:=.tuple #[]) (results_none (by rfl) _ _ _) rfl ⟨rfl,by rw[HE.out];exact G6.out.pre B1.out⟩ | exact bodyPost_end (results_none (by rfl) _ _ _) rfl ⟨rfl,by rw[HE.out];exact G6.out.pre B1.out⟩ | (go_wp2;first | exact bodyPost_ret (v:=.tuple #[]) (results_none (by rfl) _ _ _) rfl ⟨rfl,by rw[HE.out];exact G6.out.pre B1.out⟩ | exact bodyPost_end (results_none (by rfl) _ _ _) rfl ⟨rfl,by rw[HE.out];exact G6.out.pre B1.out⟩)
 | false =>
 rw[hi] at CM
 have RN:Hid (zaQ F s=(fail 13 s)):=by show _=_;rw[R0.out,hi];rfl
 clear hi R0
 have R0:=RN
 clear RN
 go_wp2_with fail
 refine(CM.out).mono ?_
 clear y5 CM G5
 rintro e v5 ⟨rfl,G5⟩
 have y5:=HB.out _ _ G5.out
 have HE:=R0
 have CA:Hid (Calls Tryz.prog 77 #[.pointer (some ⟨pb,0,none⟩),.int .i64 13] v5 fun e W''=>e=.returned (.tuple #[])∧Hid (PG W0 pb w1 sb (fail 13 s) W'')):=fail_pg G5.out 13
 go_wp2_with fail
 refine(CA.out).mono ?_
 rintro e w6 ⟨rfl,G6⟩
 first | exact bodyPost_ret (v:=.tuple #[]) (results_none (by rfl) _ _ _) rfl ⟨rfl,by rw[HE.out];exact G6.out.pre B1.out⟩ | exact bodyPost_end (results_none (by rfl) _ _ _) rfl ⟨rfl,by rw[HE.out];exact G6.out.pre B1.out⟩ | (go_wp2;first | exact bodyPost_ret (v:=.tuple #[]) (results_none (by rfl) _ _ _) rfl ⟨rfl,by rw[HE.out];exact G6.out.pre B1.out⟩ | exact bodyPost_end (results_none (by rfl) _ _ _) rfl ⟨rfl,by rw[HE.out];exact G6.out.pre B1.out⟩)
end
end Ps
end Go.Proofs.YtfhkaffakniioaaGreatDoor
