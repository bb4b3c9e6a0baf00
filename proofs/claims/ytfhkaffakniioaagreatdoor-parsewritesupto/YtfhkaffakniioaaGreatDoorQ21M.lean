/- Several texts, joined. -/
import Derived.Test.YtfhkaffakniioaaGreatDoorQ63M
set_option maxHeartbeats 8000000
set_option maxRecDepth 100000
namespace Go.Proofs.YtfhkaffakniioaaGreatDoor
open Go.RowKit
namespace Ps
attribute [local go_sem] zaR
section
variable {W0:World} {pb bx:Nat} {W:World} {s:S} {sb:Option Nat} {F:S→S} {m:Nat}
theorem till_few {E:Type} {part:S→E→S × E} (cl:Bs) (hp:∀s e,Less s (part s e).1) (s:S) (e:E):(zaG cl part s e).1.steps.length+(zaG cl part s e).1.rest.length≤s.steps.length+s.rest.length:=(zcR cl hp s e).both
theorem list_c (hF:∀s,Less s (F s)) (HC:DoesP W0 pb 106 F m):DoesQ W0 pb 201 (list F) m:=by
 intro W s sb h hl hm
 have hp:∀s e,Less s (listP F s e).1:=fun s _=>hF s
 have PO:PartOK W0 pb W.heap.size 106 #[.pointer (some ⟨pb,0,none⟩)] (fun _ (_:Unit) _=>True) (listP F) m:=fun W' s' sb' e k _ hX h' _ hm'=>by
  refine(HC W' s' sb' h' hm').mono ?_
  rintro en W'' ⟨rfl,q⟩
  exact⟨rfl,PGX.of q hX,trivial⟩
 obtain⟨R,hR⟩:∃R,R=zaG [93] (listP F) s ():=⟨_,rfl⟩
 have CT:Hid (Calls Tryz.prog 203 #[.pointer (some ⟨pb,0,none⟩),.string ⟨#[93]⟩,.func (.func 106) #[.pointer (some ⟨pb,0,none⟩)] #[]] W fun en W'=>en=.returned (.int .i64 (R.2.2:Int))∧Hid (PG W0 pb W sb R.1 W')):=by
  rw[hR]
  refine(till_list (e:=()) [93] hp PO (fun _ _ _ _ _ _ _ _ _ _=>trivial) h trivial (Nat.le_refl _) hm).mono ?_
  rintro en W' ⟨rfl,⟨sb',k1,k2⟩,_,_⟩
  exact⟨rfl,⟨sb',k1,k2.to (Nat.le_refl _)⟩⟩
 have CA:Hid (∀W',PG W0 pb W sb R.1 W'→Calls Tryz.prog 162 #[.pointer (some ⟨pb,0,none⟩),.agg #[.int .u8 7,.string ⟨#[]⟩,.int .i64 (R.2.2:Int)]] W' fun e W''=>e=.returned (.tuple #[])∧Hid (PG W0 pb W sb (list F s) W'')):=fun W' hg=>by
  obtain⟨sb1,k1,k2⟩:=hg
  refine(add_c k1 ⟨7,[],(R.2.2:Int)⟩ (by have:=till_few [93] hp s ();rw[←hR] at this;show R.1.steps.length+1+R.1.rest.length≤20000;omega)).mono ?_
  rintro e W'' ⟨rfl,q⟩
  have e1:list F s=add ⟨7,[],(R.2.2:Int)⟩ R.1:=by rw[list,←hR]
  exact⟨rfl,by rw[e1];exact PG.trans k2 q⟩
 clear h hl hm HC hF hp PO hR
 go_enter Tryz.func201,Tryz.ntmps201
 go_wp2_with (first
  |(go_at_call 203;refine(CT.out).mono ?_;rintro en w2 ⟨rfl,G2⟩)
  |(go_at_call 162;refine(CA.out w2 G2.out).mono ?_;rintro en w3 ⟨rfl,G3⟩))
 exact bodyPost_end (results_none (by rfl) _ _ _) rfl ⟨rfl,G3.out⟩
theorem closed_c (HC:DoesP W0 pb 106 F m):DoesB W0 pb 200 bx (closed F) m:=by
 intro W s sb h hC hm
 obtain⟨n1,n2⟩:=h.other hC (by decide) (by decide)
 have bc:W.cell? ⟨bx,0,none⟩=some (.pointer (some ⟨pb,0,none⟩)):=by rw[cell_of_row _ _ _ _ _ _ hC];rfl
 have CO:Hid (Calls Tryz.prog 106 #[.pointer (some ⟨pb,0,none⟩)] W fun e W'=>e=.returned (.tuple #[])∧Hid (PG W0 pb W sb (F s) W')∧W'.cell? ⟨bx,0,none⟩=some (.pointer (some ⟨pb,0,none⟩))):=by
  show Calls _ _ _ _ _
  refine(HC W s sb h hm).mono ?_
  rintro e W' ⟨rfl,q⟩
  exact⟨rfl,q,(World.cell?_of_block (a:=⟨bx,0,none⟩) (q.block (row_lt hC) n1 n2)).trans bc⟩
 have CM:Hid (∀W',PG W0 pb W sb (F s) W'→Calls Tryz.prog 70 #[.pointer (some ⟨pb,0,none⟩),.slice (some ⟨W'.heap.size,0,none⟩) 1 1] (W'.alloc (.cells #[.string ⟨#[41]⟩] 9)) fun e W''=>(∃b,e=.returned (.string b))∧Hid (PG W0 pb W sb (closed F s) W'')):=fun W' hg=>by
  obtain⟨sb1,k1,k2⟩:=hg
  refine(zcG k1 (ts:=[[41]]) rfl rfl (by decide)).mono ?_
  rintro e W'' ⟨rfl,q⟩
  exact⟨⟨_,rfl⟩,PG.trans k2 q.out⟩
 clear h hm HC hC n1 n2
 go_enter Tryz.func200,Tryz.ntmps200
 go_wp2_with fail
 refine(CO.out).mono ?_
 rintro e w2 ⟨rfl,G2,b2⟩
 clear bc
 go_wp2_with fail
 refine(CM.out w2 G2.out).mono ?_
 rintro e w3 ⟨⟨b,rfl⟩,G3⟩
 go_wp2
 exact bodyPost_end (results_none (by rfl) _ _ _) rfl ⟨rfl,G3.out⟩
end
attribute [local go_sem] zaR
section
variable {W0:World} {pb:Nat} {W:World} {s:S} {sb:Option Nat} {F:S→S} {m:Nat}
theorem zdE (hF:∀s,Less s (F s)) (s:S) (e:List Bs):Less s (fieldP F s e).1:=((zbH e s).trans (zbA _ _)).trans (hF _)
theorem fields_c (hF:∀s,Less s (F s)) (HC:DoesP W0 pb 106 F m):DoesQ W0 pb 202 (fields F) m:=by
 intro W s sb h hl hm
 obtain⟨bx,hbx⟩:∃bx,bx=W.heap.size:=⟨_,rfl⟩
 obtain⟨nb,hnb⟩:∃nb,nb=W.heap.size+1:=⟨_,rfl⟩
 obtain⟨w2,hw2⟩:∃w2,w2=(W.alloc (.cells #[.pointer (some ⟨pb,0,none⟩)] 99)).alloc (.cells #[.slice none 0 0] 50):=⟨_,rfl⟩
 have hsz:(W.alloc (.cells #[.pointer (some ⟨pb,0,none⟩)] 99)).heap.size=W.heap.size+1:=by simp
 have hb2:Below W.heap.size W w2:=by
  rw[hw2]
  exact(bnew W _).trans ((bnew _ _).mono (by rw[hsz];omega))
 have rb:w2.heap[bx]?=some (.cells #[.pointer (some ⟨pb,0,none⟩)] 99 (0,0)):=by
  rw[hw2,hbx]
  exact((bnew (W.alloc _) _).block _ (by rw[hsz];omega)).trans (heap_alloc_new W _)
 have rn:w2.heap[nb]?=some (.cells #[.slice none 0 0] 50 (0,0)):=by
  have:=heap_alloc_new (W.alloc (.cells #[.pointer (some ⟨pb,0,none⟩)] 99)) (.cells #[.slice none 0 0] 50)
  rw[hsz] at this
  rw[hw2,hnb]
  exact this
 have hX:W.heap.size≤w2.heap.size:=hb2.size
 have hp2:PS W0 w2 pb s sb:=h.call hb2
 have pf:PF pb nb bx W.heap.size 0 [] w2:=⟨rfl,fun _ q=>(by cases q),⟨_,rn,⟨rfl,.inl ⟨rfl,rfl⟩⟩⟩,rb,by omega,by omega⟩
 obtain⟨R,hR⟩:∃R,R=zaG [125] (fieldP F) s []:=⟨_,rfl⟩
 have CT:Hid (Calls Tryz.prog 203 #[.pointer (some ⟨pb,0,none⟩),.string ⟨#[125]⟩,.func (.func 204) #[] #[.pointer (some ⟨nb,0,none⟩),.pointer (some ⟨bx,0,none⟩)]] w2 fun en W'=>en=.returned (.int .i64 (R.2.2:Int))∧Hid (PG W0 pb W sb R.1 W'∧PF pb nb bx W.heap.size R.2.2 R.2.1 W'∧R.2.2≤20001)):=by
  rw[hR]
  refine(till_fields [125] (zdE hF) (fieldsA_c (Nat.le_trans h.base_le (Nat.le_refl _)) HC) PF.kept hp2 pf hX hm).mono ?_
  rintro en W' ⟨rfl,⟨sb',k1,k2⟩,k3,k4⟩
  exact⟨rfl,⟨sb',k1,(PChX.trans (PChX.of (PCh.of_below hb2) (Nat.le_refl _)) k2).to (Nat.le_refl _)⟩,k3,by have:=h.lim;omega⟩
 have CA:Hid (∀W',PG W0 pb W sb R.1 W'→Calls Tryz.prog 162 #[.pointer (some ⟨pb,0,none⟩),.agg #[.int .u8 8,.string (Lx.bs (join [44] R.2.1)),.int .i64 (R.2.2:Int)]] W' fun e W''=>e=.returned (.tuple #[])∧Hid (PG W0 pb W sb (fields F s) W'')):=fun W' hg=>by
  obtain⟨sb1,k1,k2⟩:=hg
  refine(add_c k1 ⟨8,join [44] R.2.1,(R.2.2:Int)⟩ (by have:=till_few [125] (zdE hF) s [];rw[←hR] at this;show R.1.steps.length+1+R.1.rest.length≤20000;omega)).mono ?_
  rintro e W'' ⟨rfl,q⟩
  have e1:fields F s=add ⟨8,join [44] R.2.1,(R.2.2:Int)⟩ R.1:=by rw[fields,←hR]
  exact⟨rfl,by rw[e1];exact PG.trans k2 q⟩
 have n1:¬bx=nb:=by omega
 have n2:¬nb=bx:=by omega
 have y0:w2.cell? ⟨bx,0,none⟩=some (.pointer (some ⟨pb,0,none⟩)):=by rw[cell_of_row _ _ _ _ _ _ rb];rfl
 clear h hl hm HC hF hR hX hp2 pf rb rn hb2 hsz
 go_enter Tryz.func202,Tryz.ntmps202
 go_upto_region 2 with fail
 rw[←hw2,←hnb,←hbx]
 clear hw2 hbx hnb
 go_wp2_with fail
 refine(CT.out).mono ?_
 rintro en w3 ⟨rfl,G3⟩
 clear CT y0
 obtain⟨sv,n0,own⟩:=G3.out.2.1.cl
 have HX:Hid (W.heap.size≤w3.heap.size∧w3.heap[bx]?=some (.cells #[.pointer (some ⟨pb,0,none⟩)] 99 (0,0))):=⟨G3.out.1.size,G3.out.2.1.bo⟩
 have y3:w3.cell? ⟨bx,0,none⟩=some (.pointer (some ⟨pb,0,none⟩)):=by rw[cell_of_row _ _ _ _ _ _ G3.out.2.1.bo];rfl
 obtain⟨a,c,rfl⟩:=own.form
 have z3:w3.cell? ⟨nb,0,none⟩=some (.slice a R.2.1.length c):=by rw[cell_of_row _ _ _ _ _ _ n0];rfl
 have lt1:=block_lt_of_cell y3
 have lt2:=block_lt_of_cell z3
 have CJ:Hid (∀W',Below w3.heap.size w3 W'→Calls Tryz.prog 23 #[.slice a R.2.1.length c,.string ⟨#[44]⟩] W' fun e W''=>e=.returned (.string (Lx.bs (join [44] R.2.1)))∧Hid (Below w3.heap.size w3 W''∧PG W0 pb W sb R.1 W'')∧W''.cell? ⟨bx,0,none⟩=some (.pointer (some ⟨pb,0,none⟩))):=fun W' hb=>by
  obtain⟨q1,q2,q3,q4⟩:=own.sr
  refine(join_c [44] R.2.1 a R.2.1.length c W' rfl (by rw[G3.out.2.1.len];exact G3.out.2.2) q2 (by unfold maxLen at q4;omega) (q3.call hb) (by decide) (fun x hx=>Nat.le_trans (G3.out.2.1.txt x hx) (by decide))).mono ?_
  rintro e W'' ⟨rfl,hb2⟩
  have hb3:Below w3.heap.size w3 W'':=hb.trans (hb2.mono hb.size)
  exact⟨rfl,⟨hb3,G3.out.1.call hb3⟩,(World.cell?_of_block (a:=⟨bx,0,none⟩) (hb3.block bx lt1)).trans y3⟩
 clear own n0
 go_upto_region 3 with fail
 go_region_law (first
  |(go_simp;go_at_call 23;refine(CJ.out _ ?_).mono ?_;(first | exact Below.refl _ _ | exact(Below.refl _ _).drew);rintro e w4 ⟨rfl,G4,y4⟩)
  |(go_simp;go_at_call 162;refine(CA.out _ ?_).mono ?_;(first | exact G4.out.2 | exact G4.out.2.call (Below.refl _ _).drew);rintro e w5 ⟨rfl,G5⟩)
  | fail "no arm")
 all_goals
  first | exact bodyPost_end (results_none (by rfl) _ _ _) rfl ⟨rfl,G5.out⟩ | (go_wp2;exact bodyPost_end (results_none (by rfl) _ _ _) rfl ⟨rfl,G5.out⟩)
end
attribute [local go_sem] zaR
theorem field_tok2 (x0 x1 x2 x3:Value) (wx:World):(Instr.field 92 (.agg #[x0,x1,x2,x3]) 2).run Tryz.prog wx=.ok x2 wx:=by kernel_rfl
section
variable {W0:World} {pb bx:Nat} {W W1:World} {s:S} {sb:Option Nat} {F:S→S} {m n:Nat} {ts:List Bs} {C:Array Value}
theorem may_pg (hg:PG W0 pb W sb s W1) (hC:C=txs ts) (hn:n=ts.length) (hl:ts.length≤1000):Calls Tryz.prog 109 #[.pointer (some ⟨pb,0,none⟩),.slice (some ⟨W1.heap.size,0,none⟩) n n] (W1.alloc (.cells C 9)) fun e W'=>e=.returned (.bool (is ts s))∧Hid (PG W0 pb W sb (may ts s) W'):=by
 obtain⟨sb1,k1,k2⟩:=hg
 refine(zbN k1 hC hn hl).mono ?_
 rintro e W' ⟨rfl,q⟩
 exact⟨rfl,PG.trans k2 q.out⟩
theorem is_pg (hg:PG W0 pb W sb s W1) (hC:C=txs ts) (hn:n=ts.length) (hl:ts.length≤1000):Calls Tryz.prog 102 #[.pointer (some ⟨pb,0,none⟩),.slice (some ⟨W1.heap.size,0,none⟩) n n] (W1.alloc (.cells C 9)) fun e W'=>e=.returned (.bool (is ts s))∧Hid (PG W0 pb W sb s W'):=by
 obtain⟨sb1,k1,k2⟩:=hg
 refine(is_made k1 hC hn hl).mono ?_
 rintro e W' ⟨rfl,q⟩
 exact⟨rfl,PG.trans k2 q.out⟩
theorem add_pg (hg:PG W0 pb W sb s W1) (p:Sp) (hl:s.steps.length+1+s.rest.length≤20000):Calls Tryz.prog 162 #[.pointer (some ⟨pb,0,none⟩),.agg #[.int .u8 (p.kind:Int),.string (Lx.bs p.text),.int .i64 p.n]] W1 fun e W'=>e=.returned (.tuple #[])∧Hid (PG W0 pb W sb (add p s) W'):=by
 obtain⟨sb1,k1,k2⟩:=hg
 refine(add_c k1 p hl).mono ?_
 rintro e W' ⟨rfl,q⟩
 exact⟨rfl,PG.trans k2 q⟩
theorem next_pg (hg:PG W0 pb W sb s W1) (hne:s.rest≠[]):Calls Tryz.prog 103 #[.pointer (some ⟨pb,0,none⟩)] W1 fun e W'=>e=.returned (.agg #[.int .u8 ((nextT s).kind:Int),.string (Lx.bs (nextT s).text),.int .i64 (nextT s).n,.int .i64 ((nextT s).at':Int)])∧Hid (PG W0 pb W sb (next s) W'):=by
 obtain⟨sb1,k1,k2⟩:=hg
 refine(next_c k1 fun _=>hne).mono ?_
 rintro e W' ⟨rfl,q⟩
 exact⟨rfl,PG.trans k2 q⟩
theorem fail_pg (hg:PG W0 pb W sb s W1) (k:Nat):Calls Tryz.prog 77 #[.pointer (some ⟨pb,0,none⟩),.int .i64 (k:Int)] W1 fun e W'=>e=.returned (.tuple #[])∧Hid (PG W0 pb W sb (fail k s) W'):=by
 obtain⟨sb1,k1,k2⟩:=hg
 refine(fail_c k1 k).mono ?_
 rintro e W' ⟨rfl,q⟩
 exact⟨rfl,PG.trans k2 q⟩
theorem box_pg (hr:W.heap[bx]?=some (.cells #[.pointer (some ⟨pb,0,none⟩)] 99 (0,0))) (hn:bx≠pb∧sb≠some bx) (hg:PG W0 pb W sb s W1):W1.heap[bx]?=some (.cells #[.pointer (some ⟨pb,0,none⟩)] 99 (0,0))∧W1.cell? ⟨bx,0,none⟩=some (.pointer (some ⟨pb,0,none⟩)):=by
 have:=(hg.block (row_lt hr) hn.1 hn.2).trans hr
 exact⟨this,by rw[cell_of_row _ _ _ _ _ _ this];rfl⟩
structure PU (W0:World) (pb bx m:Nat) (W:World) (s:S) (sb:Option Nat) (F:S→S):Prop where
 hp:PS W0 W pb s sb
 row:W.heap[bx]?=some (.cells #[.pointer (some ⟨pb,0,none⟩)] 99 (0,0))
 ne:bx≠pb∧sb≠some bx
 few:s.rest.length≤m
 less:∀s,Less s (F s)
 inner:∀m1,m=m1+1→DoesP W0 pb 106 F m1
 hasL:HasL W0
theorem PU.nest1 (h:PU W0 pb bx m W s sb F) (hg:PG W0 pb W sb s W1) (hne:s.rest≠[]):Calls Tryz.prog 185 #[.pointer (some ⟨pb,0,none⟩),.func (.func 200) #[] #[.pointer (some ⟨bx,0,none⟩)]] W1 fun e W'=>e=.returned (.tuple #[])∧Hid (PG W0 pb W sb (nest (closed F) s) W'):=by
 obtain⟨m1,rfl⟩:∃m1,m=m1+1:=⟨m - 1,by have:=h.few;have:=List.length_pos_iff.2 hne;omega⟩
 have hr:=(box_pg h.row h.ne hg).1
 obtain⟨sb1,k1,k2⟩:=hg
 refine(nest_closed ⟨hr,k1.other hr (by decide) (by decide)⟩ (closed_c (h.inner m1 rfl)) (fun s=>((h.less s).trans (zbA _ _)).around) k1 hne h.few).mono ?_
 rintro e W' ⟨rfl,q⟩
 exact⟨rfl,PG.trans k2 q⟩
theorem PU.nest2 (h:PU W0 pb bx m W s sb F) (hg:PG W0 pb W sb s W1) (hne:s.rest≠[]):Calls Tryz.prog 185 #[.pointer (some ⟨pb,0,none⟩),.func (.func 201) #[.pointer (some ⟨pb,0,none⟩)] #[]] W1 fun e W'=>e=.returned (.tuple #[])∧Hid (PG W0 pb W sb (nest (list F) s) W'):=by
 obtain⟨m1,rfl⟩:∃m1,m=m1+1:=⟨m - 1,by have:=h.few;have:=List.length_pos_iff.2 hne;omega⟩
 obtain⟨sb1,k1,k2⟩:=hg
 refine(nest_list (list_c h.less (h.inner m1 rfl)) (fun s=>(zcR (part:=listP F) [93] (fun s _=>h.less s) s ()).around) k1 hne h.few).mono ?_
 rintro e W' ⟨rfl,q⟩
 exact⟨rfl,PG.trans k2 q⟩
theorem PU.nest3 (h:PU W0 pb bx m W s sb F) (hg:PG W0 pb W sb s W1) (hne:s.rest≠[]):Calls Tryz.prog 185 #[.pointer (some ⟨pb,0,none⟩),.func (.func 202) #[.pointer (some ⟨pb,0,none⟩)] #[]] W1 fun e W'=>e=.returned (.tuple #[])∧Hid (PG W0 pb W sb (nest (fields F) s) W'):=by
 obtain⟨m1,rfl⟩:∃m1,m=m1+1:=⟨m - 1,by have:=h.few;have:=List.length_pos_iff.2 hne;omega⟩
 obtain⟨sb1,k1,k2⟩:=hg
 refine(nest_fields (fields_c h.less (h.inner m1 rfl)) (fun s=>(zcR (part:=fieldP F) [125] (zdE h.less) s []).around) k1 hne h.few).mono ?_
 rintro e W' ⟨rfl,q⟩
 exact⟨rfl,PG.trans k2 q⟩
theorem PU.add (h:PU W0 pb bx m W s sb F) {s':S} (p:Sp) (hl:s'.steps.length+s'.rest.length+1≤s.steps.length+s.rest.length) (hg:PG W0 pb W sb s' W1):Calls Tryz.prog 162 #[.pointer (some ⟨pb,0,none⟩),.agg #[.int .u8 (p.kind:Int),.string (Lx.bs p.text),.int .i64 p.n]] W1 fun e W'=>e=.returned (.tuple #[])∧Hid (PG W0 pb W sb (Ps.add p s') W') :=
 add_pg hg p (by have:=h.hp.lim;omega)
end
end Ps
end Go.Proofs.YtfhkaffakniioaaGreatDoor
