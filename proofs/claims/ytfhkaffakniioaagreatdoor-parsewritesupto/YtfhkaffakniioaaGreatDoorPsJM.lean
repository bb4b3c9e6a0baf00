/- Several texts, joined. -/
import Derived.Test.YtfhkaffakniioaaGreatDoorPsIM
set_option maxHeartbeats 8000000
set_option maxRecDepth 100000
namespace Go.Proofs.YtfhkaffakniioaaGreatDoor
open Go.RowKit
namespace Ps
attribute [local go_sem] zaR
section
variable {W0:World} {pb:Nat} {W:World} {s:S} {sb:Option Nat} {F P:S→S} {m:Nat}
def txs (ts:List Bs):Array Value:=(ts.map fun x=>Value.string (Lx.bs x)).toArray
theorem txs_sr (W:World) (ts:List Bs):SR (W.alloc (.cells (txs ts) 9)) (some ⟨W.heap.size,0,none⟩) ts :=
 SR.made (heap_alloc_new W _) fun j x hx=>by
  rw[txs,List.getElem?_toArray,List.getElem?_map,hx]
  rfl
theorem is_made (h:PS W0 W pb s sb) {ts:List Bs} {C:Array Value} {n:Nat} (hC:C=txs ts) (hn:n=ts.length) (hl:ts.length≤1000):Calls Tryz.prog 102 #[.pointer (some ⟨pb,0,none⟩),.slice (some ⟨W.heap.size,0,none⟩) n n] (W.alloc (.cells C 9)) fun e W'=>e=.returned (.bool (is ts s))∧Hid (PG W0 pb W sb s W'):=by
 subst hC hn
 refine(is_c (h.call (bnew W _)) (txs_sr W ts) rfl hl).mono ?_
 rintro e W' ⟨rfl,hb⟩
 have hb2:=(bnew W (.cells (txs ts) 9)).trans (hb.mono (bnew W (.cells (txs ts) 9)).size)
 exact⟨rfl,⟨sb,h.call hb2,PCh.of_below hb2⟩⟩
theorem zbN (h:PS W0 W pb s sb) {ts:List Bs} {C:Array Value} {n:Nat} (hC:C=txs ts) (hn:n=ts.length) (hl:ts.length≤1000):Calls Tryz.prog 109 #[.pointer (some ⟨pb,0,none⟩),.slice (some ⟨W.heap.size,0,none⟩) n n] (W.alloc (.cells C 9)) fun e W'=>e=.returned (.bool (is ts s))∧Hid (PG W0 pb W sb (may ts s) W'):=by
 subst hC hn
 refine(may_c (h.call (bnew W _)) (txs_sr W ts) rfl hl).mono ?_
 rintro e W' ⟨rfl,q⟩
 exact⟨rfl,q.pre (bnew W _)⟩
theorem zcG (h:PS W0 W pb s sb) {ts:List Bs} {C:Array Value} {n:Nat} (hC:C=txs ts) (hn:n=ts.length) (hl:ts.length≤1000):Calls Tryz.prog 70 #[.pointer (some ⟨pb,0,none⟩),.slice (some ⟨W.heap.size,0,none⟩) n n] (W.alloc (.cells C 9)) fun e W'=>e=.returned (.string (Lx.bs (mustT ts s)))∧Hid (PG W0 pb W sb (must ts s) W'):=by
 subst hC hn
 refine(must_c (h.call (bnew W _)) (txs_sr W ts) rfl hl).mono ?_
 rintro e W' ⟨rfl,q⟩
 exact⟨rfl,q.pre (bnew W _)⟩
theorem not_f (hP:∀s,Less s (P s)) (HC:DoesP W0 pb 184 P m):∀(f m':Nat),m'≤m→m'<f→DoesP W0 pb 163 (nots P f) m'
 | 0,_,_,h=>absurd h (Nat.not_lt_zero _)
 | f+1,m',hm,hf=>by
  intro W s sb h hs
  have IH:∀m1,m'=m1+1→DoesP W0 pb 163 (nots P f) m1:=fun m1 e=>not_f hP HC f m1 (by omega) (by omega)
  have HLS:∀s,Less s (nots P f s):=zcS hP f
  have CI:Hid (Calls Tryz.prog 102 #[.pointer (some ⟨pb,0,none⟩),.slice (some ⟨W.heap.size,0,none⟩) 1 1] (W.alloc (.cells #[.string ⟨#[78,79,84]⟩] 9)) fun e W'=>e=.returned (.bool (is [[78,79,84]] s))∧Hid (PG W0 pb W sb s W')):=is_made h (ts:=[[78,79,84]]) rfl rfl (by decide)
  cases hi:is [[78,79,84]] s with
  | false =>
   rw[hi] at CI
   have HE:Hid (nots P (f+1) s=P s):=by show _=_;rw[nots,hi];rfl
   have CP:Hid (∀W',PG W0 pb W sb s W'→Calls Tryz.prog 184 #[.pointer (some ⟨pb,0,none⟩)] W' fun e W''=>e=.returned (.tuple #[])∧Hid (PG W0 pb W sb (P s) W'')):=fun W' hg=>by
    obtain⟨sb1,k1,k2⟩:=hg
    refine(HC W' s sb1 k1 (by omega)).mono ?_
    rintro e W'' ⟨rfl,q⟩
    exact⟨rfl,PG.trans k2 q⟩
   clear h hs hm hf hi IH HLS
   go_enter Tryz.func163,Tryz.ntmps163
   go_wp2_with (first
    |(go_at_call 102;refine(CI.out).mono ?_;rintro en w2 ⟨rfl,G2⟩)
    |(go_at_call 184;refine(CP.out w2 G2.out).mono ?_;rintro en w3 ⟨rfl,G3⟩))
   exact bodyPost_ret (v:=.tuple #[]) (results_none (by rfl) _ _ _) rfl ⟨rfl,by rw[HE.out];exact G3.out⟩
  | true =>
   rw[hi] at CI
   have hne:=is_ne hi
   obtain⟨m1,hm1⟩:∃m1,m'=m1+1:=⟨m' - 1,by have:=List.length_pos_iff.2 hne;omega⟩
   have HE:Hid (nots P (f+1) s=add ⟨10,[],0⟩ (nest (nots P f) s)):=by show _=_;rw[nots,if_pos hi]
   have CN:Hid (∀W',PG W0 pb W sb s W'→Calls Tryz.prog 185 #[.pointer (some ⟨pb,0,none⟩),.func (.func 163) #[.pointer (some ⟨pb,0,none⟩)] #[]] W' fun e W''=>e=.returned (.tuple #[])∧Hid (PG W0 pb W sb (nest (nots P f) s) W'')):=fun W' hg=>by
    obtain⟨sb1,k1,k2⟩:=hg
    refine(nest_not (IH m1 hm1) (fun s=>(HLS s).around) k1 hne (by omega)).mono ?_
    rintro e W'' ⟨rfl,q⟩
    exact⟨rfl,PG.trans k2 q⟩
   have CA:Hid (∀W',PG W0 pb W sb (nest (nots P f) s) W'→Calls Tryz.prog 162 #[.pointer (some ⟨pb,0,none⟩),.agg #[.int .u8 10,.string ⟨#[]⟩,.int .i64 0]] W' fun e W''=>e=.returned (.tuple #[])∧Hid (PG W0 pb W sb (add ⟨10,[],0⟩ (nest (nots P f) s)) W'')):=fun W' hg=>by
    obtain⟨sb1,k1,k2⟩:=hg
    refine(add_c k1 ⟨10,[],0⟩ (by have:=(zcC HLS hne).2;have:=h.lim;omega)).mono ?_
    rintro e W'' ⟨rfl,q⟩
    exact⟨rfl,PG.trans k2 q⟩
   clear h hs hm hf hi IH HLS hne hm1
   go_enter Tryz.func163,Tryz.ntmps163
   go_wp2_with (first
    |(go_at_call 102;refine(CI.out).mono ?_;rintro en w2 ⟨rfl,G2⟩)
    |(go_at_call 185;refine(CN.out w2 G2.out).mono ?_;rintro en w3 ⟨rfl,G3⟩)
    |(go_at_call 162;refine(CA.out w3 G3.out).mono ?_;rintro en w4 ⟨rfl,G4⟩))
   exact bodyPost_end (results_none (by rfl) _ _ _) rfl ⟨rfl,by rw[HE.out];exact G4.out⟩
theorem signed_f (hP:∀s,Less s (P s)) (HC:DoesP W0 pb 198 P m):∀(f m':Nat),m'≤m→m'<f→DoesP W0 pb 197 (zbB P f) m'
 | 0,_,_,h=>absurd h (Nat.not_lt_zero _)
 | f+1,m',hm,hf=>by
  intro W s sb h hs
  have IH:∀m1,m'=m1+1→DoesP W0 pb 197 (zbB P f) m1:=fun m1 e=>signed_f hP HC f m1 (by omega) (by omega)
  have HLS:∀s,Less s (zbB P f s):=zbT hP f
  have CI:Hid (Calls Tryz.prog 102 #[.pointer (some ⟨pb,0,none⟩),.slice (some ⟨W.heap.size,0,none⟩) 1 1] (W.alloc (.cells #[.string ⟨#[45]⟩] 9)) fun e W'=>e=.returned (.bool (is [[45]] s))∧Hid (PG W0 pb W sb s W')):=is_made h (ts:=[[45]]) rfl rfl (by decide)
  cases hi:is [[45]] s with
  | false =>
   rw[hi] at CI
   have HE:Hid (zbB P (f+1) s=P s):=by show _=_;rw[zbB,hi];rfl
   have CP:Hid (∀W',PG W0 pb W sb s W'→Calls Tryz.prog 198 #[.pointer (some ⟨pb,0,none⟩)] W' fun e W''=>e=.returned (.tuple #[])∧Hid (PG W0 pb W sb (P s) W'')):=fun W' hg=>by
    obtain⟨sb1,k1,k2⟩:=hg
    refine(HC W' s sb1 k1 (by omega)).mono ?_
    rintro e W'' ⟨rfl,q⟩
    exact⟨rfl,PG.trans k2 q⟩
   clear h hs hm hf hi IH HLS
   go_enter Tryz.func197,Tryz.ntmps197
   go_wp2_with (first
    |(go_at_call 102;refine(CI.out).mono ?_;rintro en w2 ⟨rfl,G2⟩)
    |(go_at_call 198;refine(CP.out w2 G2.out).mono ?_;rintro en w3 ⟨rfl,G3⟩))
   exact bodyPost_ret (v:=.tuple #[]) (results_none (by rfl) _ _ _) rfl ⟨rfl,by rw[HE.out];exact G3.out⟩
  | true =>
   rw[hi] at CI
   have hne:=is_ne hi
   obtain⟨m1,hm1⟩:∃m1,m'=m1+1:=⟨m' - 1,by have:=List.length_pos_iff.2 hne;omega⟩
   have HE:Hid (zbB P (f+1) s=add ⟨9,[],0⟩ (nest (zbB P f) s)):=by show _=_;rw[zbB,if_pos hi]
   have CN:Hid (∀W',PG W0 pb W sb s W'→Calls Tryz.prog 185 #[.pointer (some ⟨pb,0,none⟩),.func (.func 197) #[.pointer (some ⟨pb,0,none⟩)] #[]] W' fun e W''=>e=.returned (.tuple #[])∧Hid (PG W0 pb W sb (nest (zbB P f) s) W'')):=fun W' hg=>by
    obtain⟨sb1,k1,k2⟩:=hg
    refine(nest_signed (IH m1 hm1) (fun s=>(HLS s).around) k1 hne (by omega)).mono ?_
    rintro e W'' ⟨rfl,q⟩
    exact⟨rfl,PG.trans k2 q⟩
   have CA:Hid (∀W',PG W0 pb W sb (nest (zbB P f) s) W'→Calls Tryz.prog 162 #[.pointer (some ⟨pb,0,none⟩),.agg #[.int .u8 9,.string ⟨#[]⟩,.int .i64 0]] W' fun e W''=>e=.returned (.tuple #[])∧Hid (PG W0 pb W sb (add ⟨9,[],0⟩ (nest (zbB P f) s)) W'')):=fun W' hg=>by
    obtain⟨sb1,k1,k2⟩:=hg
    refine(add_c k1 ⟨9,[],0⟩ (by have:=(zcC HLS hne).2;have:=h.lim;omega)).mono ?_
    rintro e W'' ⟨rfl,q⟩
    exact⟨rfl,PG.trans k2 q⟩
   clear h hs hm hf hi IH HLS hne hm1
   go_enter Tryz.func197,Tryz.ntmps197
   go_wp2_with (first
    |(go_at_call 102;refine(CI.out).mono ?_;rintro en w2 ⟨rfl,G2⟩)
    |(go_at_call 185;refine(CN.out w2 G2.out).mono ?_;rintro en w3 ⟨rfl,G3⟩)
    |(go_at_call 162;refine(CA.out w3 G3.out).mono ?_;rintro en w4 ⟨rfl,G4⟩))
   exact bodyPost_end (results_none (by rfl) _ _ _) rfl ⟨rfl,by rw[HE.out];exact G4.out⟩
theorem comparison_c (hF:∀s,Less s (F s)) (HC:DoesP W0 pb 194 F m) (hO:HasO W0):DoesP W0 pb 184 (zaV F) m:=by
 intro W s sb h hs
 have HF:Hid (∀s,Less s (F s)):=hF
 have HO:Hid (HasO W0):=hO
 have HM:Hid (s.rest.length≤m∧s.steps.length+s.rest.length≤20000):=⟨hs,h.lim⟩
 have CS0:Hid (∀s' W',Less s s'→PG W0 pb W sb s' W'→Calls Tryz.prog 194 #[.pointer (some ⟨pb,0,none⟩)] W' fun e W''=>e=.returned (.tuple #[])∧Hid (PG W0 pb W sb (F s') W'')):=fun s' W' hl hg=>by
  obtain⟨sb1,k1,k2⟩:=hg
  refine(HC W' s' sb1 k1 (Nat.le_trans hl.rest hs)).mono ?_
  rintro e W'' ⟨rfl,q⟩
  exact⟨rfl,PG.trans k2 q⟩
 have CS1:=hidp (CS0.out s W (Less.refl _) (PG.refl h))
 have CA:Hid (∀(p:Sp) s' W',s'.steps.length+1+s'.rest.length≤20000→PG W0 pb W sb s' W'→Calls Tryz.prog 162 #[.pointer (some ⟨pb,0,none⟩),.agg #[.int .u8 (p.kind:Int),.string (Lx.bs p.text),.int .i64 p.n]] W' fun e W''=>e=.returned (.tuple #[])∧Hid (PG W0 pb W sb (add p s') W'')):=fun p s' W' hl hg=>by
  obtain⟨sb1,k1,k2⟩:=hg
  refine(add_c k1 p hl).mono ?_
  rintro e W'' ⟨rfl,q⟩
  exact⟨rfl,PG.trans k2 q⟩
 obtain⟨z,hz⟩:∃z,z=F s:=⟨_,rfl⟩
 rw[←hz] at CS1
 have HZ:Hid (Less s z∧zaV F s=(if is cmps z then add ⟨kindOf (nextT z).text,[],0⟩ (F (next z)) else if is [[73,83]] z then (if is [[78,79,84]] (next z) then add ⟨10,[],0⟩ (add ⟨11,[],0⟩ (must [[78,85,76,76]] (next (next z)))) else add ⟨11,[],0⟩ (must [[78,85,76,76]] (next z))) else z)):=⟨by rw[hz];exact hF s,by rw[zaV,←hz]⟩
 have CI:Hid (∀W',PG W0 pb W sb z W'→Calls Tryz.prog 102 #[.pointer (some ⟨pb,0,none⟩),.slice (some ⟨W'.heap.size,0,none⟩) 6 6] (W'.alloc (.cells #[.string ⟨#[61]⟩,.string ⟨#[60,62]⟩,.string ⟨#[60]⟩,.string ⟨#[60,61]⟩,.string ⟨#[62]⟩,.string ⟨#[62,61]⟩] 9)) fun e W''=>e=.returned (.bool (is cmps z))∧Hid (PG W0 pb W sb z W'')):=fun W' hg=>by
  obtain⟨sb1,k1,k2⟩:=hg
  refine(is_made k1 (ts:=cmps) rfl rfl (by decide)).mono ?_
  rintro e W'' ⟨rfl,q⟩
  exact⟨rfl,PG.trans k2 q.out⟩
 clear h hs hF HC hO hz
 cases hi:is cmps z with
 | true =>
  rw[hi] at CI
  obtain⟨t,ht⟩:∃t,t=nextT z:=⟨_,rfl⟩
  obtain⟨kd,hkd⟩:∃kd,kd=kindOf t.text:=⟨_,rfl⟩
  have HS:Hid ((next z).steps.length+(next z).rest.length+1≤z.steps.length+z.rest.length):=(zaA (is_ne hi)).2
  have HE:Hid (zaV F s=add ⟨kd,[],0⟩ (F (next z))):=by show _=_;rw[HZ.out.2,if_pos hi,hkd,ht]
  have CN:Hid (∀W',PG W0 pb W sb z W'→Calls Tryz.prog 103 #[.pointer (some ⟨pb,0,none⟩)] W' fun e W''=>e=.returned (.agg #[.int .u8 (t.kind:Int),.string (Lx.bs t.text),.int .i64 t.n,.int .i64 (t.at':Int)])∧Hid (PG W0 pb W sb (next z) W'')):=fun W' hg=>by
   obtain⟨sb1,k1,k2⟩:=hg
   refine(next_c k1 fun _=>is_ne hi).mono ?_
   rintro e W'' ⟨rfl,q⟩
   exact⟨by rw[ht];rfl,PG.trans k2 q⟩
  have CK:Hid (∀W',PG W0 pb W sb (next z) W'→Calls Tryz.prog 161 #[.string (Lx.bs t.text)] W' fun e W''=>e=.returned (.int .u8 (kd:Int))∧Hid (PG W0 pb W sb (next z) W'')):=fun W' hg=>by
   have hg':=hg
   obtain⟨sb1,k1,k2⟩:=hg
   refine(zdN t.text W' (k1.hasO HO.out)).mono ?_
   rintro e W'' ⟨rfl,hb⟩
   exact⟨by rw[hkd],hg'.call hb⟩
  have CA1:=hidp (CA.out ⟨kd,[],0⟩ (F (next z)))
  clear hi ht hkd CA
  go_enter Tryz.func184,Tryz.ntmps184
  go_wp2_with fail
  refine(CS1.out).mono ?_
  rintro e w1 ⟨rfl,G1⟩
  go_wp2_with (first
   |(go_at_call 102;refine(CI.out w1 G1.out).mono ?_;rintro en w2 ⟨rfl,G2⟩)
   |(go_at_call 103;refine(CN.out w2 G2.out).mono ?_;rintro en w3 ⟨rfl,G3⟩)
   |(go_at_call 161;refine(CK.out w3 G3.out).mono ?_;rintro en w4 ⟨rfl,G4⟩)
   |(go_at_call 194;refine(CS0.out (next z) w4 (HZ.out.1.trans (zaH z)) G4.out).mono ?_;rintro en w5 ⟨rfl,G5⟩)
   |(go_at_call 162;refine(CA1.out w5 (by have:=HS.out;have:=HZ.out.1.both;have:=(HF.out (next z)).both;have:=HM.out;omega) G5.out).mono ?_;rintro en w6 ⟨rfl,G6⟩))
  exact bodyPost_end (results_none (by rfl) _ _ _) rfl ⟨rfl,by rw[HE.out];exact G6.out⟩
 | false =>
  rw[hi] at CI
  have CY:Hid (∀W',PG W0 pb W sb z W'→Calls Tryz.prog 109 #[.pointer (some ⟨pb,0,none⟩),.slice (some ⟨W'.heap.size,0,none⟩) 1 1] (W'.alloc (.cells #[.string ⟨#[73,83]⟩] 9)) fun e W''=>e=.returned (.bool (is [[73,83]] z))∧Hid (PG W0 pb W sb (may [[73,83]] z) W'')):=fun W' hg=>by
   obtain⟨sb1,k1,k2⟩:=hg
   refine(zbN k1 (ts:=[[73,83]]) rfl rfl (by decide)).mono ?_
   rintro e W'' ⟨rfl,q⟩
   exact⟨rfl,PG.trans k2 q.out⟩
  have HZ1:=hidp HZ.out
  rw[hi] at HZ1
  clear hi
  cases hj:is [[73,83]] z with
  | false =>
   rw[hj,may,hj] at CY
   have HE:Hid (zaV F s=z):=by show _=_;rw[HZ1.out.2,hj];rfl
   clear hj CA CS0
   go_enter Tryz.func184,Tryz.ntmps184
   go_wp2_with fail
   refine(CS1.out).mono ?_
   rintro e w1 ⟨rfl,G1⟩
   go_wp2_with (first
    |(go_at_call 102;refine(CI.out w1 G1.out).mono ?_;rintro en w2 ⟨rfl,G2⟩)
    |(go_at_call 109;refine(CY.out w2 G2.out).mono ?_;rintro en w3 ⟨rfl,G3⟩))
   exact bodyPost_end (results_none (by rfl) _ _ _) rfl ⟨rfl,by rw[HE.out];exact G3.out⟩
  | true =>
   have HS:Hid ((next z).steps.length+(next z).rest.length+1≤z.steps.length+z.rest.length):=(zaA (is_ne hj)).2
   rw[hj,may,if_pos hj] at CY
   have CT:Hid (∀W',PG W0 pb W sb (next z) W'→Calls Tryz.prog 109 #[.pointer (some ⟨pb,0,none⟩),.slice (some ⟨W'.heap.size,0,none⟩) 1 1] (W'.alloc (.cells #[.string ⟨#[78,79,84]⟩] 9)) fun e W''=>e=.returned (.bool (is [[78,79,84]] (next z)))∧Hid (PG W0 pb W sb (may [[78,79,84]] (next z)) W'')):=fun W' hg=>by
    obtain⟨sb1,k1,k2⟩:=hg
    refine(zbN k1 (ts:=[[78,79,84]]) rfl rfl (by decide)).mono ?_
    rintro e W'' ⟨rfl,q⟩
    exact⟨rfl,PG.trans k2 q.out⟩
   have CM:Hid (∀s' W',PG W0 pb W sb s' W'→Calls Tryz.prog 70 #[.pointer (some ⟨pb,0,none⟩),.slice (some ⟨W'.heap.size,0,none⟩) 1 1] (W'.alloc (.cells #[.string ⟨#[78,85,76,76]⟩] 9)) fun e W''=>(∃b,e=.returned (.string b))∧Hid (PG W0 pb W sb (must [[78,85,76,76]] s') W'')):=fun s' W' hg=>by
    obtain⟨sb1,k1,k2⟩:=hg
    refine(zcG k1 (ts:=[[78,85,76,76]]) rfl rfl (by decide)).mono ?_
    rintro e W'' ⟨rfl,q⟩
    exact⟨⟨_,rfl⟩,PG.trans k2 q.out⟩
   have CA11:Hid (∀s' W',s'.steps.length+1+s'.rest.length≤20000→PG W0 pb W sb s' W'→Calls Tryz.prog 162 #[.pointer (some ⟨pb,0,none⟩),.agg #[.int .u8 11,.string ⟨#[]⟩,.int .i64 0]] W' fun e W''=>e=.returned (.tuple #[])∧Hid (PG W0 pb W sb (add ⟨11,[],0⟩ s') W'')):=CA.out ⟨11,[],0⟩
   have CA10:Hid (∀s' W',s'.steps.length+1+s'.rest.length≤20000→PG W0 pb W sb s' W'→Calls Tryz.prog 162 #[.pointer (some ⟨pb,0,none⟩),.agg #[.int .u8 10,.string ⟨#[]⟩,.int .i64 0]] W' fun e W''=>e=.returned (.tuple #[])∧Hid (PG W0 pb W sb (add ⟨10,[],0⟩ s') W'')):=CA.out ⟨10,[],0⟩
   have HZ2:=hidp HZ1.out
   rw[hj] at HZ2
   clear hj CA CS0
   cases hk:is [[78,79,84]] (next z) with
   | true =>
    have HS2:Hid ((next (next z)).steps.length+(next (next z)).rest.length+1≤(next z).steps.length+(next z).rest.length):=(zaA (is_ne hk)).2
    rw[hk,may,if_pos hk] at CT
    have HE:Hid (zaV F s=add ⟨10,[],0⟩ (add ⟨11,[],0⟩ (must [[78,85,76,76]] (next (next z))))):=by show _=_;rw[HZ2.out.2,hk];rfl
    have HL:Hid ((must [[78,85,76,76]] (next (next z))).steps.length+1+(must [[78,85,76,76]] (next (next z))).rest.length≤19999):=by
     show _≤_
     have:=(zbA [[78,85,76,76]] (next (next z))).both
     have:=HS2.out
     have:=HS.out
     have:=HZ.out.1.both
     have:=HM.out
     omega
    have HL2:Hid ((add ⟨11,[],0⟩ (must [[78,85,76,76]] (next (next z)))).steps.length+1+(add ⟨11,[],0⟩ (must [[78,85,76,76]] (next (next z)))).rest.length≤20000):=by
     show _≤_
     have:=HL.out
     simp[add]
     omega
    clear hk
    go_enter Tryz.func184,Tryz.ntmps184
    go_wp2_with fail
    refine(CS1.out).mono ?_
    rintro e w1 ⟨rfl,G1⟩
    go_wp2_with fail
    refine(CI.out w1 G1.out).mono ?_
    rintro en w2 ⟨rfl,G2⟩
    go_wp2_with fail
    refine(CY.out w2 G2.out).mono ?_
    rintro en w3 ⟨rfl,G3⟩
    go_wp2_with fail
    refine(CT.out w3 G3.out).mono ?_
    rintro en w4 ⟨rfl,G4⟩
    go_wp2_with fail
    refine(CM.out _ w4 G4.out).mono ?_
    rintro en w5 ⟨⟨b,rfl⟩,G5⟩
    go_wp2_with fail
    refine(CA11.out _ w5 (Nat.le_trans HL.out (by decide)) G5.out).mono ?_
    rintro en w6 ⟨rfl,G6⟩
    go_wp2_with fail
    refine(CA10.out _ w6 HL2.out G6.out).mono ?_
    rintro en w7 ⟨rfl,G7⟩
    go_wp2
    exact bodyPost_end (results_none (by rfl) _ _ _) rfl ⟨rfl,by rw[HE.out];exact G7.out⟩
   | false =>
    rw[hk,may,hk] at CT
    have HE:Hid (zaV F s=add ⟨11,[],0⟩ (must [[78,85,76,76]] (next z))):=by show _=_;rw[HZ2.out.2,hk];rfl
    have HL:Hid ((must [[78,85,76,76]] (next z)).steps.length+1+(must [[78,85,76,76]] (next z)).rest.length≤20000):=by
     show _≤_
     have:=(zbA [[78,85,76,76]] (next z)).both
     have:=HS.out
     have:=HZ.out.1.both
     have:=HM.out
     omega
    clear hk
    go_enter Tryz.func184,Tryz.ntmps184
    go_wp2_with fail
    refine(CS1.out).mono ?_
    rintro e w1 ⟨rfl,G1⟩
    go_wp2_with fail
    refine(CI.out w1 G1.out).mono ?_
    rintro en w2 ⟨rfl,G2⟩
    go_wp2_with fail
    refine(CY.out w2 G2.out).mono ?_
    rintro en w3 ⟨rfl,G3⟩
    go_wp2_with fail
    refine(CT.out w3 G3.out).mono ?_
    rintro en w4 ⟨rfl,G4⟩
    go_wp2_with fail
    refine(CM.out _ w4 G4.out).mono ?_
    rintro en w5 ⟨⟨b,rfl⟩,G5⟩
    go_wp2_with fail
    refine(CA11.out _ w5 HL.out G5.out).mono ?_
    rintro en w6 ⟨rfl,G6⟩
    go_wp2
    exact bodyPost_end (results_none (by rfl) _ _ _) rfl ⟨rfl,by rw[HE.out];exact G6.out⟩
end
end Ps
end Go.Proofs.YtfhkaffakniioaaGreatDoor
