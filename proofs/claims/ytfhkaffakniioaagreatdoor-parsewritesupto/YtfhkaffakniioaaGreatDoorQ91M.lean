/- Several texts, joined. -/
import Derived.Test.YtfhkaffakniioaaGreatDoorWrGM
import Derived.Deep.CutRange
import Derived.Test.YtfhkaffakniioaaGreatDoorQ90M
import Derived.Test.YtfhkaffakniioaaGreatDoorQ11M
set_option maxHeartbeats 8000000
set_option maxRecDepth 100000
namespace Go.Proofs.YtfhkaffakniioaaGreatDoor
open Go.RowKit
namespace Ps
structure SmallE (l:List Sp):Prop where
 len:l.length≤1048576
 text:∀p∈l,p.text.length≤1048576
structure SmallX (x:St):Prop where
 table:x.table.length≤1048576
 field:x.field.length≤1048576
 items:x.items.length≤1048576∧∀i∈x.items,i.name.length≤1048576∧SmallE i.expr
 expr:SmallE x.expr
theorem nm_nil:isNm []=false:=by
 cases h:isNm [] with
 | false=>rfl
 | true =>
  obtain⟨x,r,e,_⟩:=nm_word h
  cases e
theorem rcheckX_c (x:St) (n m:Nat) (hn:n=x.items.length) (hm:m=x.expr.length) (ia ea:Option Addr) (ic ec:Nat) (w:World) (hS:SmallX x) (hM:StM w ia ea x):Calls Tryz.prog 15 #[.agg #[.int .u8 (x.kind:Int),.string (Lx.bs x.table),.string (Lx.bs x.field),.slice ia n ic,.slice ea m ec,.bool x.history,.bool x.desc]] w fun e w'=>e=.returned (.int .i64 (if rightX x=true then 0 else 13))∧Below w.heap.size w w':=by
 obtain⟨k,t,f,its,e,h,d⟩:=x
 dsimp only at hn hm ⊢
 have hN:∀W,Calls Tryz.prog 35 #[.string (Lx.bs t)] W fun e w'=>e=.returned (.bool (isNm t))∧Below W.heap.size W w':=fun W=>rname_c t hS.table W
 have hF:∀W,Calls Tryz.prog 35 #[.string (Lx.bs f)] W fun e w'=>e=.returned (.bool (isNm f))∧Below W.heap.size W w':=fun W=>rname_c f hS.field W
 have hR:∀W,Below w.heap.size w W→Calls Tryz.prog 17 #[.slice ea m ec] W fun e' w'=>e'=.returned (.bool (rightE e))∧Below W.heap.size W w':=fun W hW=>zdJ e ea m ec W hm (by rw[hm];exact hS.expr.len) (hM.exp.call hW) hS.expr.text
 have hC:∀W,Below w.heap.size w W→Calls Tryz.prog 19 #[.slice ea m ec] W fun e' w'=>e'=.returned (.bool (zaM e))∧Below W.heap.size W w':=fun W hW=>rclosed_c e ea m ec W hm (by rw[hm];exact hS.expr.len) (hM.exp.call hW)
 have hI:∀(least:Nat) W,Below w.heap.size w W→Calls Tryz.prog 36 #[.slice ia n ic,.int .i64 (least:Int)] W fun e' w'=>e'=.returned (.bool (ritR its least))∧Below W.heap.size W w':=fun least W hW=>ritems_c its ia n ic least W hn (by rw[hn];exact hS.items.1) (hM.its.call hW) (fun i hi=>⟨(hS.items.2 i hi).1,(hS.items.2 i hi).2.len,(hS.items.2 i hi).2.text⟩)
 have qe:((m:Int)==0)=decide (e=[]):=by
  rw[hm]
  cases e with
  | nil=>rfl
  | cons p r=>rw[decide_eq_false (by simp),beq_eq_false_iff_ne,List.length_cons];omega
 have qi:((n:Int)==0)=decide (its=[]):=by
  rw[hn]
  cases its with
  | nil=>rfl
  | cons p r=>rw[decide_eq_false (by simp),beq_eq_false_iff_ne,List.length_cons];omega
 have qf:((Lx.bs f).toList==[])=decide (f=[]):=by
  rw[Lx.bs_toList]
  cases f with
  | nil=>rfl
  | cons p r=>rw[decide_eq_false (by simp)];rfl
 have r0:ritR its 0=zaK its:=by rw[ritR_its,decide_eq_true (Nat.zero_le _),Bool.true_and]
 have r1:ritR its 1=(!decide (its=[]) && zaK its):=by
  rw[ritR_its]
  cases its with
  | nil=>rfl
  | cons p r=>rw[decide_eq_true (by rw[List.length_cons];omega),decide_eq_false (by simp)];rfl
 have fn:decide (f=[])=true→isNm f=false:=fun h=>by rw[of_decide_eq_true h];exact nm_nil
 by_cases h1:k=1
 ·subst h1
  have e1:rightX ⟨1,t,f,its,e,h,d⟩=(isNm t && decide (its=[]) && (!h && !d) && decide (f=[]) && decide (e=[])):=by
   unfold rightX
   dsimp only
   rw[if_pos rfl,decide_eq_false (by decide:¬1=6)]
   cases isNm t<;>cases h<;>cases d<;>cases decide (f=[])<;>cases decide (its=[])<;>cases decide (e=[])<;>rfl
  rw[e1]
  exact rck1 _ _ n m ia ea ic ec h d _ _ _ _ _ _ _ _ w qe qi qf hN hF hR hC (hI 1)
 by_cases h2:k=2
 ·subst h2
  have e1:rightX ⟨2,t,f,its,e,h,d⟩=(isNm t && decide (its=[]) && (!h && !d) && decide (e=[]) && isNm f):=by
   unfold rightX
   dsimp only
   rw[if_neg (by decide:¬2=1),if_pos rfl,decide_eq_false (by decide:¬2=6)]
   cases isNm t<;>cases h<;>cases d<;>cases isNm f<;>cases decide (its=[])<;>cases decide (e=[])<;>rfl
  rw[e1]
  exact rck2 _ _ n m ia ea ic ec h d _ _ _ _ _ _ _ _ w qe qi qf hN hF hR hC (hI 1)
 by_cases h3:k=3
 ·subst h3
  have e1:rightX ⟨3,t,f,its,e,h,d⟩=(isNm t && decide (its=[]) && (!h && !d) && decide (f=[]) && rightE e && zaM e):=by
   unfold rightX
   dsimp only
   rw[if_neg (by decide:¬3=1),if_neg (by decide:¬3=2),if_pos rfl,decide_eq_false (by decide:¬3=6)]
   cases isNm t<;>cases h<;>cases d<;>cases decide (f=[])<;>cases decide (its=[])<;>cases rightE e<;>cases zaM e<;>rfl
  rw[e1]
  exact rck3 _ _ n m ia ea ic ec h d _ _ _ _ _ _ _ _ w qe qi qf hN hF hR hC (hI 1)
 by_cases h4:k=4
 ·subst h4
  have e1:rightX ⟨4,t,f,its,e,h,d⟩=(isNm t && (!h && !d) && decide (f=[]) && (decide (e=[]) || rightE e) && ritR its 1):=by
   rw[r1]
   unfold rightX
   dsimp only
   rw[if_neg (by decide:¬4=1),if_neg (by decide:¬4=2),if_neg (by decide:¬4=3),if_pos rfl,decide_eq_false (by decide:¬4=6),rightC]
   cases isNm t<;>cases h<;>cases d<;>cases decide (f=[])<;>cases decide (its=[])<;>cases rightE e<;>cases decide (e=[])<;>cases zaK its<;>rfl
  rw[e1]
  exact rck4 _ _ n m ia ea ic ec h d _ _ _ _ _ _ _ _ w qe qi qf hN hF hR hC (hI 1)
 by_cases h5:k=5
 ·subst h5
  have e1:rightX ⟨5,t,f,its,e,h,d⟩=(isNm t && decide (its=[]) && (!h && !d) && decide (f=[]) && (decide (e=[]) || rightE e)):=by
   unfold rightX
   dsimp only
   rw[if_neg (by decide:¬5=1),if_neg (by decide:¬5=2),if_neg (by decide:¬5=3),if_neg (by decide:¬5=4),if_pos rfl,decide_eq_false (by decide:¬5=6),rightC]
   cases isNm t<;>cases h<;>cases d<;>cases decide (f=[])<;>cases decide (its=[])<;>cases rightE e<;>cases decide (e=[])<;>rfl
  rw[e1]
  exact rck5 _ _ n m ia ea ic ec h d _ _ _ _ _ _ _ _ w qe qi qf hN hF hR hC (hI 1)
 by_cases h6:k=6
 ·subst h6
  have e1:rightX ⟨6,t,f,its,e,h,d⟩=(isNm t && (decide (e=[]) || rightE e) && ritR its 0 && ((decide (f=[]) && !d) || (!decide (f=[]) && isNm f))):=by
   rw[r0]
   unfold rightX
   dsimp only
   rw[if_neg (by decide:¬6=1),if_neg (by decide:¬6=2),if_neg (by decide:¬6=3),if_neg (by decide:¬6=4),if_neg (by decide:¬6=5),if_pos rfl,decide_eq_true (rfl:6=6),rightC]
   revert fn
   cases isNm t<;>cases h<;>cases d<;>cases decide (f=[])<;>cases isNm f<;>cases rightE e<;>cases decide (e=[])<;>cases zaK its<;>first | (intro _;rfl) | (intro fn;exact absurd (fn rfl) (by decide))
  rw[e1]
  exact rck6 _ _ n m ia ea ic ec h d _ _ _ _ _ _ _ _ w qe qi qf hN hF hR hC (hI 0)
 have e1:rightX ⟨k,t,f,its,e,h,d⟩=false:=by
  unfold rightX
  dsimp only
  rw[if_neg h1,if_neg h2,if_neg h3,if_neg h4,if_neg h5,if_neg h6,Bool.and_false]
 have z:∀c:Nat,k≠c→(((k:Nat):Int)==((c:Nat):Int))=false:=fun c h=>by rw[beq_eq_false_iff_ne];omega
 rw[e1]
 exact rcko (k:Int) _ _ n m ia ea ic ec h d _ _ _ _ _ _ _ _ w (z 1 h1) (z 2 h2) (z 3 h3) (z 4 h4) (z 5 h5) (z 6 h6) qe qi qf hN hF hR hC (hI 1)
theorem roper_c (k:Nat) (hk:12≤k∧k≤22) (w:World):Calls Tryz.prog 56 #[.int .u8 (k:Int)] w fun e w'=>e=.returned (.string (Lx.bs (opTx k)))∧Below w.heap.size w w':=by
 obtain⟨h1,h2⟩:=hk
 obtain rfl | rfl | rfl | rfl | rfl | rfl | rfl | rfl | rfl | rfl | rfl:k=12∨k=13∨k=14∨k=15∨k=16∨k=17∨k=18∨k=19∨k=20∨k=21∨k=22:=by omega
 all_goals
  have X1:Hid (Below w.heap.size w (w.alloc (.cells #[.string ⟨#[43]⟩,.string ⟨#[45]⟩,.string ⟨#[42]⟩,.string ⟨#[61]⟩,.string ⟨#[60,62]⟩,.string ⟨#[60]⟩,.string ⟨#[60,61]⟩,.string ⟨#[62]⟩,.string ⟨#[62,61]⟩,.string ⟨#[65,78,68]⟩,.string ⟨#[79,82]⟩] 9))):=bnew _ _
  clear h1 h2
  go_enter Tryz.func56,Tryz.ntmps56
  go_wp2
  go_ret
  exact⟨rfl,X1.out⟩
theorem zdO (sep:Bs):∀(l:List Bs) (j:Nat) (x:Bs),l[j]?=some x→join sep (l.take (j+1))=(if j=0 then [] else join sep (l.take j)++sep)++x
 | [],_,_,h=>by simp at h
 | y :: r,0,x,h=>by
  have e:y=x:=by simpa using h
  rw[if_pos rfl,e]
  rfl
 | y :: r,j+1,x,h=>by
  have hx:r[j]?=some x:=by simpa using h
  have hj:=(List.getElem?_eq_some_iff.1 hx).1
  have ih:=zdO sep r j x hx
  rw[if_neg (by omega),List.take_succ_cons,List.take_succ_cons]
  cases hr:r.take (j+1) with
  | nil =>
   have h3:min (j+1) r.length=0:=by rw[←List.length_take,hr];rfl
   omega
  | cons a b =>
   rw[hr] at ih
   have e1:join sep (y :: a :: b)=y++sep++join sep (a :: b):=by
    rw[join]
    simp
   rw[e1,ih]
   by_cases h0:j=0
   ·subst h0
    rw[if_pos rfl,List.take_zero]
    show y++sep++([]++x)=join sep [y]++sep++x
    simp[join]
   ·rw[if_neg h0]
    cases hr2:r.take j with
    | nil =>
     have h3:min j r.length=0:=by rw[←List.length_take,hr2];rfl
     omega
    | cons a' b' =>
     have e2:join sep (y :: a' :: b')=y++sep++join sep (a' :: b'):=by
      rw[join]
      simp
     rw[e2]
     simp
end Ps
end Go.Proofs.YtfhkaffakniioaaGreatDoor
namespace Go.Proofs.YtfhkaffakniioaaGreatDoor
open Go.ChangeShapes Go.WideShapes Go.ChangeAt Go.RowKit
namespace Ps
def SE (B:Nat) (l:List Sp):Prop:=l.length≤B∧∀p∈l,p.text.length≤B
def SI (B:Nat) (i:It):Prop:=i.name.length≤B∧SE B i.expr
theorem SE.le {A B:Nat} {l:List Sp} (h:SE A l) (hb:A≤B):SE B l:=⟨Nat.le_trans h.1 hb,fun p hp=>Nat.le_trans (h.2 p hp) hb⟩
theorem SI.le {A B:Nat} {i:It} (h:SI A i) (hb:A≤B):SI B i:=⟨Nat.le_trans h.1 hb,h.2.le hb⟩
theorem SE.nil (B:Nat):SE B []:=⟨Nat.zero_le _,fun p hp=>(by cases hp)⟩
theorem bulk_pos {H:Type} (d:DataW H):1≤Rows.uptoBulk d:=by
 cases d with
 | lit l=>cases l<;>simp[Rows.uptoBulk]
 | _=>rw[Rows.uptoBulk]<;>omega
theorem bulk_in {H:Type}:∀(l:List (DataW H)) (d:DataW H),d∈l→Rows.uptoBulk d≤Rows.uptoBulkAll l
 | [],d,h=>by cases h
 | x :: r,d,h=>by
  rw[Rows.uptoBulkAll]
  rcases List.mem_cons.1 h with rfl | h
  ·omega
  ·have:=bulk_in r d h
   omega
theorem bulk_many {H:Type}:∀(l:List (DataW H)),l.length≤Rows.uptoBulkAll l
 | []=>Nat.zero_le _
 | x :: r=>by
  rw[Rows.uptoBulkAll,List.length_cons]
  have:=bulk_many r
  have:=bulk_pos x
  omega
theorem zcB {H:Type} {x:DataW H × List MemPlace} {xs:List (DataW H × List MemPlace)} {ps:List MemPlace} {i:Nat} {y:DataW H × List MemPlace} (h:x=(.agg (xs.map (·.1)),ps)) (hy:xs[i]?=some y):Rows.uptoBulk y.1≤Rows.uptoBulk x.1:=by
 rw[h]
 show _≤Rows.uptoBulk (DataW.agg (xs.map (·.1)))
 rw[Rows.uptoBulk]
 have:=bulk_in (xs.map (·.1)) y.1 (List.mem_map_of_mem (List.mem_of_getElem? hy))
 omega
theorem bulk_elem {H:Type} {x:DataW H × List MemPlace} {es rs:List (DataW H × List MemPlace)} {ps:List MemPlace} {i:Nat} {y:DataW H × List MemPlace} (h:x=(.slice (es.map (·.1)) (rs.map (·.1)),ps)) (hy:es[i]?=some y):Rows.uptoBulk y.1≤Rows.uptoBulk x.1:=by
 rw[h]
 show _≤Rows.uptoBulk (DataW.slice (es.map (·.1)) (rs.map (·.1)))
 rw[Rows.uptoBulk]
 have:=bulk_in (es.map (·.1)) y.1 (List.mem_map_of_mem (List.mem_of_getElem? hy))
 omega
theorem bulk_len {H:Type} {x:DataW H × List MemPlace} {es rs:List (DataW H × List MemPlace)} {ps:List MemPlace} (h:x=(.slice (es.map (·.1)) (rs.map (·.1)),ps)):es.length≤Rows.uptoBulk x.1:=by
 rw[h]
 show _≤Rows.uptoBulk (DataW.slice (es.map (·.1)) (rs.map (·.1)))
 rw[Rows.uptoBulk]
 have:=bulk_many (es.map (·.1))
 rw[List.length_map] at this
 omega
theorem zdU {H:Type} (l:List UInt8):l.length≤Rows.uptoBulk (DataW.lit (H:=H) (.string l)):=by
 rw[Rows.uptoBulk]
 omega
theorem open_stepU {H:Type} {enc:TypeId × Value→H} {W:World} {base:Nat} {sp:Nat→Bool} {held:Bool} {F:Nat} {cs:List Value} {x:DataW H × List MemPlace} (h:DataW.trod enc Tryz.prog W base sp held F 29 cs=some x) :
  ∃p:Sp,cs=[.int .u8 (p.kind:Int),.string (Lx.bs p.text),.int .i64 p.n]∧(Zp 29 x.1→fitS p)∧p.text.length≤Rows.uptoBulk x.1:=by
 obtain⟨xs,n,hn,hx1,hl,hxl,hf⟩:=DataW.trod_struct Tryz.underlying29 h
 rw[cellsStep] at hl
 obtain⟨c0,c1,c2,rfl⟩:=list3P hl
 have f0:DataW.trod enc Tryz.prog W base sp held n 27 (([c0,c1,c2].drop 0).take (Tryz.prog.cellsOf 27))=xs[0]?:=hf 0 _ rfl
 have f1:DataW.trod enc Tryz.prog W base sp held n 9 (([c0,c1,c2].drop 1).take (Tryz.prog.cellsOf 9))=xs[1]?:=hf 1 _ rfl
 have f2:DataW.trod enc Tryz.prog W base sp held n 2 (([c0,c1,c2].drop 2).take (Tryz.prog.cellsOf 2))=xs[2]?:=hf 2 _ rfl
 have get:∀i,i<3→∃y,xs[i]?=some y:=fun i hi=>⟨_,List.getElem?_eq_getElem (by rw[hxl];exact hi)⟩
 obtain⟨y0,e0⟩:=get 0 (by omega)
 obtain⟨y1,e1⟩:=get 1 (by omega)
 obtain⟨y2,e2⟩:=get 2 (by omega)
 rw[e0,cellsStepk] at f0
 rw[e1,zdT] at f1
 rw[e2,cellsI64] at f2
 simp only[List.drop_zero,List.drop_succ_cons,List.take_succ_cons,List.take_zero] at f0 f1 f2
 obtain⟨k,hk,_,wk⟩:=DataW.trod_int Tryz.underlying27 f0
 obtain⟨s,hs,hy1,_⟩:=DataW.trod_string Tryz.underlying9 f1
 obtain⟨d,hd,_,wd⟩:=DataW.trod_int Tryz.underlying2 f2
 simp only[List.cons.injEq,and_true] at hk hs hd
 obtain⟨kn,rfl,_⟩:=nat_u8P wk
 subst hk hs hd
 refine⟨⟨kn,s.data.toList,d⟩,by rw[Lx.bs_of],fun hz=>⟨?_,int_i64P wd⟩,?_⟩
 ·have h2:=zp_part (i:=1) (t:=9) Tryz.underlying29 rfl hx1 e1 hz
  rw[hy1] at h2
  exact Nat.le_trans (zp_text _ h2) (by decide)
 ·have h2:=zcB hx1 e1
  rw[hy1] at h2
  exact Nat.le_trans (zdU _) h2
theorem zdD {H:Type} {enc:TypeId × Value→H} {W:World} {base fuel:Nat} {sp:Nat→Bool} {held:Bool} {v:Value} {x:DataW H × List MemPlace} (hf:DataW.trod enc Tryz.prog W base sp held fuel 24 [v]=some x) :
  ∃(l:List Sp) (a:Option Addr) (c:Nat),v=.slice a l.length c∧l.length≤c∧c≤9223372036854775807∧Sts W a l∧(Zp 24 x.1→fitE l∧l.length*32≤140737488351232)∧SE (Rows.uptoBulk x.1) l:=by
 rcases DataW.trod_slice Tryz.underlying24 hf with ⟨hc,_⟩ | ⟨a,len,cap,elems,rest,q,hq,hc,hy,_,hlc,hcm,hel,he,_,_⟩
 ·simp at hc
  subst hc
  exact⟨[],none,0,rfl,Nat.le_refl _,by decide,Sts.nil _ _,fun _=>⟨⟨by decide,fun p hp=>(by cases hp)⟩,by decide⟩,SE.nil _⟩
 ·simp at hc
  subst hc
  rw[cellsStep] at he
  have hcm2:cap≤9223372036854775807:=by unfold maxLen at hcm;omega
  have key:∀i,i<len→∃cs',W.cells? base (a.add (i*3)) 3=some cs'∧∃y,elems[i]?=some y∧DataW.trod enc Tryz.prog W base sp held q 29 cs'=some y:=fun i hi=>by
   have h1:=he i hi
   have h4:elems[i]?=some elems[i]:=List.getElem?_eq_getElem (by omega)
   rw[h4] at h1
   obtain⟨cs',h2,h3⟩:=Option.bind_eq_some_iff.1 h1
   exact⟨cs',h2,_,h4,h3⟩
  by_cases hlen:0<len
  ·obtain⟨cs0,hc0,_⟩:=key 0 hlen
   rw[Nat.zero_mul] at hc0
   obtain⟨g,o,rfl⟩:=spot_noneP hc0 (by omega)
   have part:∀i,i<len→∃p:Sp,(W.cell? ⟨g,o+i*3,none⟩=some (.int .u8 (p.kind:Int))∧W.cell? ⟨g,o+i*3+1,none⟩=some (.string (Lx.bs p.text))∧W.cell? ⟨g,o+i*3+2,none⟩=some (.int .i64 p.n))∧(Zp 24 x.1→fitS p)∧p.text.length≤Rows.uptoBulk x.1:=fun i hi=>by
    obtain⟨cs',h2,y,hey,h3⟩:=key i hi
    obtain⟨p,rfl,hz,hk⟩:=open_stepU h3
    obtain⟨_,_,hcell⟩:=World.cells?_some h2
    rw[Addr.add_mid] at hcell
    have hc:=fun j (hj:j<3)=>by
     have:=hcell j hj
     rwa [Addr.add_mid] at this
    exact⟨p,⟨hc 0 (by omega),hc 1 (by omega),hc 2 (by omega)⟩,fun z=>hz (zp_elem Tryz.underlying24 hy hey z),Nat.le_trans hk (bulk_elem hy hey)⟩
   obtain⟨l,hll,hp⟩:=gatherP len part
   subst hll
   refine⟨l,some ⟨g,o,none⟩,cap,rfl,hlc,hcm2,fun j p hj=>⟨g,o,rfl,(hp j p hj).1⟩,fun z=>⟨⟨by omega,fun p hm=>?_⟩,by have:=zp_len Tryz.underlying24 bytesStep hy z;rw[hel] at this;exact this⟩,⟨by have:=bulk_len hy;rw[hel] at this;exact this,fun p hm=>?_⟩⟩
   ·obtain⟨i,hi⟩:=List.getElem?_of_mem hm
    exact(hp i p hi).2.1 z
   ·obtain⟨i,hi⟩:=List.getElem?_of_mem hm
    exact(hp i p hi).2.2
  ·have h0:len=0:=by omega
   subst h0
   exact⟨[],some a,cap,rfl,Nat.zero_le _,hcm2,Sts.nil _ _,fun _=>⟨⟨by decide,fun p hp=>(by cases hp)⟩,by decide⟩,SE.nil _⟩
theorem open_itemU {H:Type} {enc:TypeId × Value→H} {W:World} {base:Nat} {sp:Nat→Bool} {held:Bool} {F:Nat} {cs:List Value} {x:DataW H × List MemPlace} (h:DataW.trod enc Tryz.prog W base sp held F 43 cs=some x) :
  ∃(i:It) (a:Option Addr) (c:Nat),cs=[.string (Lx.bs i.name),.slice a i.expr.length c]∧Sts W a i.expr∧(Zp 43 x.1→fitE i.expr∧i.name.length≤140737488351232)∧SI (Rows.uptoBulk x.1) i:=by
 obtain⟨xs,n,hn,hx1,hl,hxl,hf⟩:=DataW.trod_struct Tryz.underlying43 h
 rw[cellsItem] at hl
 obtain⟨c0,c1,rfl⟩:=list2P hl
 have f0:DataW.trod enc Tryz.prog W base sp held n 9 (([c0,c1].drop 0).take (Tryz.prog.cellsOf 9))=xs[0]?:=hf 0 _ rfl
 have f1:DataW.trod enc Tryz.prog W base sp held n 24 (([c0,c1].drop 1).take (Tryz.prog.cellsOf 24))=xs[1]?:=hf 1 _ rfl
 have get:∀i,i<2→∃y,xs[i]?=some y:=fun i hi=>⟨_,List.getElem?_eq_getElem (by rw[hxl];exact hi)⟩
 obtain⟨y0,e0⟩:=get 0 (by omega)
 obtain⟨y1,e1⟩:=get 1 (by omega)
 rw[e0,zdT] at f0
 rw[e1,cellsSteps] at f1
 simp only[List.drop_zero,List.drop_succ_cons,List.take_succ_cons,List.take_zero] at f0 f1
 obtain⟨s,hs,hy0,_⟩:=DataW.trod_string Tryz.underlying9 f0
 obtain⟨l,a,c,rfl,_,_,hS,hz,hB⟩:=zdD f1
 simp only[List.cons.injEq,and_true] at hs
 subst hs
 refine⟨⟨s.data.toList,l⟩,a,c,by rw[Lx.bs_of],hS,fun z=>⟨(hz (zp_part (i:=1) (t:=24) Tryz.underlying43 rfl hx1 e1 z)).1,?_⟩,?_,hB.le (zcB hx1 e1)⟩
 ·have h2:=zp_part (i:=0) (t:=9) Tryz.underlying43 rfl hx1 e0 z
  rw[hy0] at h2
  exact zp_text _ h2
 ·have h2:=zcB hx1 e0
  rw[hy0] at h2
  exact Nat.le_trans (zdU _) h2
theorem open_itemsU {H:Type} {enc:TypeId × Value→H} {W:World} {base fuel:Nat} {sp:Nat→Bool} {held:Bool} {v:Value} {x:DataW H × List MemPlace} (hf:DataW.trod enc Tryz.prog W base sp held fuel 23 [v]=some x) :
  ∃(l:List It) (a:Option Addr) (c:Nat),v=.slice a l.length c∧l.length≤c∧Itm W a l∧(Zp 23 x.1→(∀i∈l,fitE i.expr∧i.name.length≤140737488351232)∧l.length*40≤140737488351232)∧l.length≤Rows.uptoBulk x.1∧∀i∈l,SI (Rows.uptoBulk x.1) i:=by
 rcases DataW.trod_slice Tryz.underlying23 hf with ⟨hc,_⟩ | ⟨a,len,cap,elems,rest,q,hq,hc,hy,_,hlc,hcm,hel,he,_,_⟩
 ·simp at hc
  subst hc
  exact⟨[],none,0,rfl,Nat.le_refl _,Itm.nil _ _,fun _=>⟨fun p hp=>(by cases hp),by decide⟩,Nat.zero_le _,fun p hp=>(by cases hp)⟩
 ·simp at hc
  subst hc
  rw[cellsItem] at he
  have key:∀i,i<len→∃cs',W.cells? base (a.add (i*2)) 2=some cs'∧∃y,elems[i]?=some y∧DataW.trod enc Tryz.prog W base sp held q 43 cs'=some y:=fun i hi=>by
   have h1:=he i hi
   have h4:elems[i]?=some elems[i]:=List.getElem?_eq_getElem (by omega)
   rw[h4] at h1
   obtain⟨cs',h2,h3⟩:=Option.bind_eq_some_iff.1 h1
   exact⟨cs',h2,_,h4,h3⟩
  by_cases hlen:0<len
  ·obtain⟨cs0,hc0,_⟩:=key 0 hlen
   rw[Nat.zero_mul] at hc0
   obtain⟨g,o,rfl⟩:=spot_noneP hc0 (by omega)
   have part:∀i,i<len→∃p:It,(∃ea ec,W.cell? ⟨g,o+i*2,none⟩=some (.string (Lx.bs p.name))∧W.cell? ⟨g,o+i*2+1,none⟩=some (.slice ea p.expr.length ec)∧Sts W ea p.expr)∧(Zp 23 x.1→fitE p.expr∧p.name.length≤140737488351232)∧SI (Rows.uptoBulk x.1) p:=fun i hi=>by
    obtain⟨cs',h2,y,hey,h3⟩:=key i hi
    obtain⟨p,ea,ec,rfl,hS,hz,hk⟩:=open_itemU h3
    obtain⟨_,_,hcell⟩:=World.cells?_some h2
    rw[Addr.add_mid] at hcell
    have hc:=fun j (hj:j<2)=>by
     have:=hcell j hj
     rwa [Addr.add_mid] at this
    exact⟨p,⟨ea,ec,hc 0 (by omega),hc 1 (by omega),hS⟩,fun z=>hz (zp_elem Tryz.underlying23 hy hey z),hk.le (bulk_elem hy hey)⟩
   obtain⟨l,hll,hp⟩:=gatherP len part
   subst hll
   refine⟨l,some ⟨g,o,none⟩,cap,rfl,hlc,fun j p hj=>?_,fun z=>⟨fun p hm=>?_,by have:=zp_len Tryz.underlying23 bytesItem hy z;rw[hel] at this;exact this⟩,by have:=bulk_len hy;rw[hel] at this;exact this,fun p hm=>?_⟩
   ·obtain⟨⟨ea,ec,q⟩,_⟩:=hp j p hj
    exact⟨g,o,ea,ec,rfl,q⟩
   ·obtain⟨i,hi⟩:=List.getElem?_of_mem hm
    exact(hp i p hi).2.1 z
   ·obtain⟨i,hi⟩:=List.getElem?_of_mem hm
    exact(hp i p hi).2.2
  ·have h0:len=0:=by omega
   subst h0
   exact⟨[],some a,cap,rfl,Nat.zero_le _,Itm.nil _ _,fun _=>⟨fun p hp=>(by cases hp),by decide⟩,Nat.zero_le _,fun p hp=>(by cases hp)⟩
theorem open_stmtU {H:Type} {enc:TypeId × Value→H} {W:World} {r:Reach} {b0 base:Nat} {sp:Nat→Bool} {held:Bool} {v:Value} {d:DataW H} {p:List MemPlace}
  (hv:Value.okWide Tryz.prog W r b0 26 v) (h:DataW.Trod enc Tryz.prog W base sp held 26 v d p) (hz:Zp 26 d) (hB:Rows.uptoBulk d≤1048576):∃(x:St) (ia ea:Option Addr) (ic ec:Nat),v=.agg (stv x ia ic ea ec)∧StM W ia ea x∧FitX x∧SmallX x:=by
 obtain⟨cs,rfl,hsz⟩:=okWide_struct Tryz.underlying26 hv
 obtain⟨fuel,hf⟩:=h
 obtain⟨xs,n,hn,hx1,hl,hxl,hf⟩:=DataW.trod_struct Tryz.underlying26 hf
 have hcl:cs.toList.length=7:=hsz.trans cellsStmt
 obtain⟨c0,c1,c2,c3,c4,c5,c6,hcs⟩:=list7P hcl
 have e:cs=#[c0,c1,c2,c3,c4,c5,c6]:=by rw[←Array.toArray_toList (xs:=cs),hcs]
 subst e
 have f0:DataW.trod enc Tryz.prog W base sp held n 22 (([c0,c1,c2,c3,c4,c5,c6].drop 0).take (Tryz.prog.cellsOf 22))=xs[0]?:=hf 0 _ rfl
 have f1:DataW.trod enc Tryz.prog W base sp held n 9 (([c0,c1,c2,c3,c4,c5,c6].drop 1).take (Tryz.prog.cellsOf 9))=xs[1]?:=hf 1 _ rfl
 have f2:DataW.trod enc Tryz.prog W base sp held n 9 (([c0,c1,c2,c3,c4,c5,c6].drop 2).take (Tryz.prog.cellsOf 9))=xs[2]?:=hf 2 _ rfl
 have f3:DataW.trod enc Tryz.prog W base sp held n 23 (([c0,c1,c2,c3,c4,c5,c6].drop 3).take (Tryz.prog.cellsOf 23))=xs[3]?:=hf 3 _ rfl
 have f4:DataW.trod enc Tryz.prog W base sp held n 24 (([c0,c1,c2,c3,c4,c5,c6].drop 4).take (Tryz.prog.cellsOf 24))=xs[4]?:=hf 4 _ rfl
 have f5:DataW.trod enc Tryz.prog W base sp held n 4 (([c0,c1,c2,c3,c4,c5,c6].drop 5).take (Tryz.prog.cellsOf 4))=xs[5]?:=hf 5 _ rfl
 have f6:DataW.trod enc Tryz.prog W base sp held n 4 (([c0,c1,c2,c3,c4,c5,c6].drop 6).take (Tryz.prog.cellsOf 4))=xs[6]?:=hf 6 _ rfl
 have get:∀i,i<7→∃y,xs[i]?=some y:=fun i hi=>⟨_,List.getElem?_eq_getElem (by rw[hxl];exact hi)⟩
 obtain⟨y0,e0⟩:=get 0 (by omega)
 obtain⟨y1,e1⟩:=get 1 (by omega)
 obtain⟨y2,e2⟩:=get 2 (by omega)
 obtain⟨y3,e3⟩:=get 3 (by omega)
 obtain⟨y4,e4⟩:=get 4 (by omega)
 obtain⟨y5,e5⟩:=get 5 (by omega)
 obtain⟨y6,e6⟩:=get 6 (by omega)
 rw[e0,cellsStmtk] at f0
 rw[e1,zdT] at f1
 rw[e2,zdT] at f2
 rw[e3,cellsItems] at f3
 rw[e4,cellsSteps] at f4
 rw[e5,cellsBool] at f5
 rw[e6,cellsBool] at f6
 simp only[List.drop_zero,List.drop_succ_cons,List.take_succ_cons,List.take_zero] at f0 f1 f2 f3 f4 f5 f6
 obtain⟨k,hk,_,wk⟩:=DataW.trod_int Tryz.underlying22 f0
 obtain⟨s1,hs1,q1,_⟩:=DataW.trod_string Tryz.underlying9 f1
 obtain⟨s2,hs2,q2,_⟩:=DataW.trod_string Tryz.underlying9 f2
 obtain⟨il,ia,ic,hv3,_,hI,hzI,n3,b3⟩:=open_itemsU f3
 obtain⟨el,ea,ec,hv4,_,_,hE,hzE,b4⟩:=zdD f4
 obtain⟨b5,hb5,_⟩:=DataW.trod_bool Tryz.underlying4 f5
 obtain⟨b6,hb6,_⟩:=DataW.trod_bool Tryz.underlying4 f6
 simp only[List.cons.injEq,and_true] at hk hs1 hs2 hb5 hb6
 obtain⟨kn,rfl,_⟩:=nat_u8P wk
 subst hk hs1 hs2 hv3 hv4 hb5 hb6
 obtain⟨z1,z2⟩:=hzI (zp_part (i:=3) (t:=23) Tryz.underlying26 rfl hx1 e3 hz)
 obtain⟨z3,_⟩:=hzE (zp_part (i:=4) (t:=24) Tryz.underlying26 rfl hx1 e4 hz)
 have p1:=zcB hx1 e1
 have p2:=zcB hx1 e2
 have p3:=Nat.le_trans (zcB hx1 e3) hB
 have p4:=Nat.le_trans (zcB hx1 e4) hB
 rw[q1] at p1
 rw[q2] at p2
 refine⟨⟨kn,s1.data.toList,s2.data.toList,il,el,b5,b6⟩,ia,ea,ic,ec,by rw[stv,Lx.bs_of,Lx.bs_of],⟨hI,hE⟩,⟨⟨?_,fun i hi=>(z1 i hi).1⟩,z3⟩,⟨Nat.le_trans (zdU _) (Nat.le_trans p1 hB),Nat.le_trans (zdU _) (Nat.le_trans p2 hB),⟨Nat.le_trans n3 p3,fun i hi=>?_⟩,?_⟩⟩
 ·show il.length≤_
  omega
 ·have h:=(b3 i hi).le p3
  exact⟨h.1,⟨h.2.1,h.2.2⟩⟩
 ·have h:=b4.le p4
  exact⟨h.1,h.2⟩
theorem open_stepsvU {H:Type} {enc:TypeId × Value→H} {W:World} {r:Reach} {b0 base:Nat} {sp:Nat→Bool} {held:Bool} {v:Value} {d:DataW H} {p:List MemPlace}
  (hv:Value.okWide Tryz.prog W r b0 24 v) (h:DataW.Trod enc Tryz.prog W base sp held 24 v d p) (hz:Zp 24 d) (hB:Rows.uptoBulk d≤1048576):∃(l:List Sp) (a:Option Addr) (c:Nat),v=.slice a l.length c∧Sts W a l∧fitE l∧SmallE l:=by
 obtain⟨a0,len0,cap0,rfl⟩:=okWide_slice Tryz.underlying24 hv
 obtain⟨fuel,hf⟩:=h
 obtain⟨l,a,c,e,_,_,h3,h4,h5⟩:=zdD (v:=.slice a0 len0 cap0) hf
 have h6:=h5.le hB
 exact⟨l,a,c,e,h3,(h4 hz).1,⟨h6.1,h6.2⟩⟩
theorem open_stepvU {H:Type} {enc:TypeId × Value→H} {W:World} {r:Reach} {b0 base:Nat} {sp:Nat→Bool} {held:Bool} {v:Value} {d:DataW H} {p:List MemPlace}
  (hv:Value.okWide Tryz.prog W r b0 29 v) (h:DataW.Trod enc Tryz.prog W base sp held 29 v d p) (hB:Rows.uptoBulk d≤1048576):∃i:Sp,v=.agg #[.int .u8 (i.kind:Int),.string (Lx.bs i.text),.int .i64 i.n]∧i.text.length≤1048576:=by
 obtain⟨cs,rfl,hsz⟩:=okWide_struct Tryz.underlying29 hv
 obtain⟨fuel,hf⟩:=h
 obtain⟨i,e,_,h2⟩:=open_stepU hf
 have e2:cs=#[.int .u8 (i.kind:Int),.string (Lx.bs i.text),.int .i64 i.n]:=by rw[←Array.toArray_toList (xs:=cs)];exact congrArg List.toArray e
 exact⟨i,by rw[e2],Nat.le_trans h2 hB⟩
end Ps
end Go.Proofs.YtfhkaffakniioaaGreatDoor
namespace Go.Proofs.YtfhkaffakniioaaGreatDoor
open Go.RowKit
namespace Ps
theorem rsh7_c (ps:List Bs) (a:Option Addr) (n c:Nat) (pt:Bs) (pn:Int) (w:World) (hn:n=ps.length) (h64:n≤64) (hnc:n≤c) (hp:∀x∈ps,x.length≤1000000) (ht:pt.length≤1048576) (hs:SR w a ps):Calls Tryz.prog 28 #[.agg #[.int .u8 7,.string (Lx.bs pt),.int .i64 pn],.slice a n c] w fun e w'=>e=.returned (.string (Lx.bs ([91]++join [44,32] (ps)++[93])))∧Below w.heap.size w w':=by
 obtain⟨its,hits⟩:∃l,l=ps:=⟨_,rfl⟩
 have hil:n≤its.length:=by rw[hits,hn];exact Nat.le_refl _
 have hal:its.length≤n:=by rw[hits,hn];exact Nat.le_refl _
 have hib:∀x∈its,x.length≤1100000:=fun x hx=>by rw[hits] at hx;have:=hp x hx;omega
 obtain⟨w1,hw1⟩:∃w1,w1=w.alloc (.cells #[.int .u8 7,.string (Lx.bs pt),.int .i64 pn] 29):=⟨_,rfl⟩
 obtain⟨T,hT⟩:∃T,T=w.heap.size:=⟨_,rfl⟩
 have X1:Hid (w1.heap[T]?=some (.cells #[.int .u8 7,.string (Lx.bs pt),.int .i64 pn] 29 (0,0))∧Below w.heap.size w w1):=⟨by rw[hw1,hT];exact heap_alloc_new w _,by rw[hw1];exact bnew _ _⟩
 have y0:w1.cell? ⟨T,0,none⟩=some (.int .u8 7):=by rw[cell_of_row _ _ _ _ _ _ X1.out.1];rfl
 have y1:w1.cell? ⟨T,1,none⟩=some (.string (Lx.bs pt)):=by rw[cell_of_row _ _ _ _ _ _ X1.out.1];rfl
 have CC:Hid (Calls Tryz.prog 55 #[.string (Lx.bs pt),.int .u8 44] w1 fun e w'=>∃v,e=.returned v∧Hid (Below w1.heap.size w1 w'∧OwnT w' w1.heap.size v (cut 44 pt))):=rcut_c pt 44 ht w1
 have HS:Hid (n=ps.length∧n≤64∧n≤c∧SR w a ps∧n≤its.length∧∀x∈its,x.length≤1100000):=⟨hn,h64,hnc,hs,hil,hib⟩
 have HJL:Hid (∀j,j≤n→(join [44,32] (its.take j)).length≤80000000):=fun j hj=>by
  have h1:=zbK [44,32] (its.take j)
  have h2:=zbL (its.take j) 1100000 (fun x hx=>hib x (List.mem_of_mem_take hx))
  have h3:(its.take j).length≤64:=by rw[List.length_take];omega
  have h4:(its.take j).length*1100000≤64*1100000:=Nat.mul_le_mul_right _ h3
  have h5:[(44:UInt8),32].length*(its.take j).length=2*(its.take j).length:=rfl
  omega
 have HALL:Hid (its.take n=its):=List.take_of_length_le hal
 rw[←hits]
 have HIT:=hidp hits
 clear hn h64 hnc hp ht hs hits hil hib hal
 go_enter Tryz.func28,Tryz.ntmps28
 go_upto_region 1 with fail
 rw[←hw1,←hT]
 clear hw1 hT
 go_wp2_with fail
 refine(CC.out).mono ?_
 rintro e w2 ⟨v,rfl,G2⟩
 have X2:Hid (Below w.heap.size w w2):=X1.out.2.trans (G2.out.1.mono X1.out.2.size)
 have R2:Hid (w2.heap[T]?=some (.cells #[.int .u8 7,.string (Lx.bs pt),.int .i64 pn] 29 (0,0))):=(G2.out.1.block T (row_lt X1.out.1)).trans X1.out.1
 clear CC y0 y1 G2
 go_wp2
 go_loopw [5,60] (fun v i wr=>∃j:Nat,j≤n∧i=.int .i64 j∧v=.string (Lx.bs (join [44,32] (its.take j)))∧wr=w2) (fun _ i _=>n - (intOf i).toNat)
 case atStart=>exact⟨0,Nat.zero_le _,rfl,rfl,rfl⟩
 case round =>
  obtain⟨j,hj,rfl,rfl,hwr⟩:=hrel
  subst hwr
  have z0:wr.cell? ⟨T,0,none⟩=some (.int .u8 7):=by rw[cell_of_row _ _ _ _ _ _ R2.out];rfl
  by_cases hlt:j<n
  ·have q0:(j:Int)<(n:Int):=by omega
   have q1:(0:Int)≤(j:Int):=by omega
   obtain⟨x,hx⟩:∃x,ps[j]?=some x:=⟨_,List.getElem?_eq_getElem (by have:=HS.out.1;omega)⟩
   obtain⟨g,o,rfl,c0⟩:=(HS.out.2.2.2.1.call X2.out) j x hx
   have hix:its[j]?=some x:=by rw[HIT.out];exact hx
   obtain⟨j1,hj1⟩:∃j1,j1=j+1:=⟨_,rfl⟩
   have HJ1:Hid (j1=j+1∧j<n):=⟨hj1,hlt⟩
   have HV:Hid (IntKind.i64.wrap ((j:Int)+1)=(j1:Int)∧wrap64 ((j:Int)+1)=(j1:Int)):=wrp (by omega) (by have:=HS.out.2.1;omega)
   have JT:=zdO [44,32] its j _ hix
   have jl:=HJL.out j (by omega)
   have jl1:=HJL.out (j+1) (by omega)
   obtain⟨r,hr⟩:∃r,r=join [44,32] (its.take j):=⟨_,rfl⟩
   rw[←hr] at JT jl ⊢
   by_cases h0:j=0
   ·have q2:¬(0:Int)<(j:Int):=by omega
    rw[if_pos h0,List.nil_append] at JT
    have hr0:r=[]:=by rw[hr,h0];rfl
    subst hr0
    have a3:=add_s (a:=Lx.bs []) (b:=Lx.bs x) (x:=[]) (y:=x) rfl rfl (by show 0+_≤_;have:=HS.out.2.2.2.2.2 x (List.mem_of_getElem? hix);omega)
    have HU:Hid (Lx.bs ([]++x)=Lx.bs (join [44,32] (its.take j1))):=by show _=_;rw[hj1,JT];rfl
    obtain⟨u2,hu2⟩:∃z,z=Lx.bs ([]++x):=⟨_,rfl⟩
    rw[←hu2] at a3 HU
    obtain⟨sx,hsx⟩:∃z,z=Lx.bs x:=⟨_,rfl⟩
    rw[←hsx] at a3 c0
    clear hu2 hsx
    obtain⟨v1,v2⟩:=HV.out
    clear hx hix hr h0 hlt hj hj1 jl jl1 JT
    go_wp2
    clear v1 v2
    go_roundw
    all_goals first
     |(simp only[intOf];have:=HJ1.out;omega)
     | exact⟨j1,by have:=HJ1.out;omega,rfl,by rw[HU.out],trivial⟩
     | exact⟨j1,by have:=HJ1.out;omega,rfl,by rw[HU.out],rfl⟩
     |((repeat apply Exists.intro);exact⟨⟨j1,by have:=HJ1.out;omega,rfl,by rw[HU.out],trivial⟩,rfl⟩)
     |((repeat apply Exists.intro);exact⟨⟨j1,by have:=HJ1.out;omega,rfl,by rw[HU.out],rfl⟩,rfl⟩)
   ·have q2:(0:Int)<(j:Int):=by omega
    rw[if_neg h0] at JT
    have xl:=HS.out.2.2.2.2.2 x (List.mem_of_getElem? hix)
    have a2:=add_s (a:=Lx.bs r) (b:=⟨#[44,32]⟩) (x:=r) (y:=[44,32]) rfl rfl (by show _+2≤_;omega)
    obtain⟨u1,hu1⟩:∃z,z=Lx.bs (r++[44,32]):=⟨_,rfl⟩
    rw[←hu1] at a2
    have a3:=add_s (a:=u1) (b:=Lx.bs x) (x:=r++[44,32]) (y:=x) hu1 rfl (by rw[List.length_append];show _+2+_≤_;omega)
    have HU:Hid (Lx.bs (r++[44,32]++x)=Lx.bs (join [44,32] (its.take j1))):=by show _=_;rw[hj1,JT]
    obtain⟨u2,hu2⟩:∃z,z=Lx.bs (r++[44,32]++x):=⟨_,rfl⟩
    rw[←hu2] at a3 HU
    obtain⟨sx,hsx⟩:∃z,z=Lx.bs x:=⟨_,rfl⟩
    obtain⟨sr,hsr⟩:∃z,z=Lx.bs r:=⟨_,rfl⟩
    rw[←hsx] at a3 c0
    rw[←hsr] at a2 ⊢
    clear hu1 hu2 hsx hsr xl
    obtain⟨v1,v2⟩:=HV.out
    clear hx hix hr h0 hlt hj hj1 jl jl1 JT
    go_wp2
    clear v1 v2
    go_roundw
    all_goals first
     |(simp only[intOf];have:=HJ1.out;omega)
     | exact⟨j1,by have:=HJ1.out;omega,rfl,by rw[HU.out],trivial⟩
     | exact⟨j1,by have:=HJ1.out;omega,rfl,by rw[HU.out],rfl⟩
     |((repeat apply Exists.intro);exact⟨⟨j1,by have:=HJ1.out;omega,rfl,by rw[HU.out],trivial⟩,rfl⟩)
     |((repeat apply Exists.intro);exact⟨⟨j1,by have:=HJ1.out;omega,rfl,by rw[HU.out],rfl⟩,rfl⟩)
  ·have q0:¬(j:Int)<(n:Int):=by omega
   have hjn:j=n:=by omega
   have jl:=HJL.out n (Nat.le_refl _)
   rw[HALL.out] at jl
   rw[hjn,HALL.out]
   have a1:=add_s (a:=⟨#[91]⟩) (b:=Lx.bs (join [44,32] its)) (x:=[91]) (y:=join [44,32] its) rfl rfl (by show 1+_≤_;omega)
   obtain⟨u1,hu1⟩:∃z,z=Lx.bs ([91]++join [44,32] its):=⟨_,rfl⟩
   rw[←hu1] at a1
   have a2:=add_s (a:=u1) (b:=⟨#[93]⟩) (x:=[91]++join [44,32] its) (y:=[93]) hu1 rfl (by rw[List.length_append];show 1+_+1≤_;omega)
   obtain⟨u2,hu2⟩:∃z,z=Lx.bs ([91]++join [44,32] its++[93]):=⟨_,rfl⟩
   rw[←hu2] at a2
   have HU:=hidp hu2
   obtain⟨rr,hrr⟩:∃z,z=Lx.bs (join [44,32] its):=⟨_,rfl⟩
   rw[←hrr] at a1 ⊢
   clear hu1 hu2 hrr jl hj hlt hjn
   go_wp2
   go_ret
   exact⟨by show Ending.returned (Value.string u2)=_;rw[HU.out];rfl,X2.out⟩
theorem rsh8_c (ps:List Bs) (a:Option Addr) (n c:Nat) (pt:Bs) (pn:Int) (w:World) (hn:n=ps.length) (h64:n≤64) (hnc:n≤c) (hp:∀x∈ps,x.length≤1000000) (ht:pt.length≤1048576) (hns:n≤(cut 44 pt).length) (hnl:∀x∈cut 44 pt,x.length≤64) (hs:SR w a ps):Calls Tryz.prog 28 #[.agg #[.int .u8 8,.string (Lx.bs pt),.int .i64 pn],.slice a n c] w fun e w'=>e=.returned (.string (Lx.bs ([123]++join [44,32] (zaL (cut 44 pt) ps)++[125])))∧Below w.heap.size w w':=by
 obtain⟨its,hits⟩:∃l,l=zaL (cut 44 pt) ps:=⟨_,rfl⟩
 have hil:n≤its.length:=by rw[hits,zaL,List.length_zipWith];omega
 have hal:its.length≤n:=by rw[hits,zaL,List.length_zipWith];omega
 have hib:∀x∈its,x.length≤1100000:=fun x hx=>by
  rw[hits,zaL] at hx
  obtain⟨u,v,h1,h2,rfl⟩:=mem_zip hx
  have:=hnl u h1
  have:=hp v h2
  rw[List.length_append,List.length_append]
  show _+2+_≤_
  omega
 obtain⟨w1,hw1⟩:∃w1,w1=w.alloc (.cells #[.int .u8 8,.string (Lx.bs pt),.int .i64 pn] 29):=⟨_,rfl⟩
 obtain⟨T,hT⟩:∃T,T=w.heap.size:=⟨_,rfl⟩
 have X1:Hid (w1.heap[T]?=some (.cells #[.int .u8 8,.string (Lx.bs pt),.int .i64 pn] 29 (0,0))∧Below w.heap.size w w1):=⟨by rw[hw1,hT];exact heap_alloc_new w _,by rw[hw1];exact bnew _ _⟩
 have y0:w1.cell? ⟨T,0,none⟩=some (.int .u8 8):=by rw[cell_of_row _ _ _ _ _ _ X1.out.1];rfl
 have y1:w1.cell? ⟨T,1,none⟩=some (.string (Lx.bs pt)):=by rw[cell_of_row _ _ _ _ _ _ X1.out.1];rfl
 have CC:Hid (Calls Tryz.prog 55 #[.string (Lx.bs pt),.int .u8 44] w1 fun e w'=>∃v,e=.returned v∧Hid (Below w1.heap.size w1 w'∧OwnT w' w1.heap.size v (cut 44 pt))):=rcut_c pt 44 ht w1
 have HS:Hid (n=ps.length∧n≤64∧n≤c∧SR w a ps∧n≤its.length∧∀x∈its,x.length≤1100000):=⟨hn,h64,hnc,hs,hil,hib⟩
 have HJL:Hid (∀j,j≤n→(join [44,32] (its.take j)).length≤80000000):=fun j hj=>by
  have h1:=zbK [44,32] (its.take j)
  have h2:=zbL (its.take j) 1100000 (fun x hx=>hib x (List.mem_of_mem_take hx))
  have h3:(its.take j).length≤64:=by rw[List.length_take];omega
  have h4:(its.take j).length*1100000≤64*1100000:=Nat.mul_le_mul_right _ h3
  have h5:[(44:UInt8),32].length*(its.take j).length=2*(its.take j).length:=rfl
  omega
 have HALL:Hid (its.take n=its):=List.take_of_length_le hal
 rw[←hits]
 have HIT:=hidp hits
 have HNL:=hidp hnl
 have HPL:=hidp hp
 have HNN:=hidp hns
 clear hn h64 hnc hp ht hs hits hil hib hal hns hnl
 go_enter Tryz.func28,Tryz.ntmps28
 go_upto_region 1 with fail
 rw[←hw1,←hT]
 clear hw1 hT
 go_wp2_with fail
 refine(CC.out).mono ?_
 rintro e w2 ⟨v,rfl,G2⟩
 have X2:Hid (Below w.heap.size w w2):=X1.out.2.trans (G2.out.1.mono X1.out.2.size)
 have R2:Hid (w2.heap[T]?=some (.cells #[.int .u8 8,.string (Lx.bs pt),.int .i64 pn] 29 (0,0))):=(G2.out.1.block T (row_lt X1.out.1)).trans X1.out.1
 obtain⟨na,nc,hv⟩:=G2.out.2.form
 obtain⟨nk,hnk⟩:∃k,k=(cut 44 pt).length:=⟨_,rfl⟩
 rw[←hnk] at hv
 subst hv
 obtain⟨e1,e2,e3,e4⟩:=G2.out.2.sr
 have HR2:Hid (nk=(cut 44 pt).length∧SR w2 na (cut 44 pt)):=⟨hnk,e3⟩
 clear e1 e2 e3 e4 hnk
 clear CC y0 y1 G2
 go_wp2
 go_loopw [5,60] (fun v i wr=>∃j:Nat,j≤n∧i=.int .i64 j∧v=.string (Lx.bs (join [44,32] (its.take j)))∧wr=w2) (fun _ i _=>n - (intOf i).toNat)
 case atStart=>exact⟨0,Nat.zero_le _,rfl,rfl,rfl⟩
 case round =>
  obtain⟨j,hj,rfl,rfl,hwr⟩:=hrel
  subst hwr
  have z0:wr.cell? ⟨T,0,none⟩=some (.int .u8 8):=by rw[cell_of_row _ _ _ _ _ _ R2.out];rfl
  by_cases hlt:j<n
  ·have q0:(j:Int)<(n:Int):=by omega
   have q1:(0:Int)≤(j:Int):=by omega
   obtain⟨x,hx⟩:∃x,ps[j]?=some x:=⟨_,List.getElem?_eq_getElem (by have:=HS.out.1;omega)⟩
   obtain⟨g,o,rfl,c0⟩:=(HS.out.2.2.2.1.call X2.out) j x hx
   obtain⟨nm,hnm⟩:∃x,(cut 44 pt)[j]?=some x:=⟨_,List.getElem?_eq_getElem (by have:=HNN.out;omega)⟩
   obtain⟨g2,o2,rfl,d0⟩:=HR2.out.2 j nm hnm
   have q3:(j:Int)<(nk:Int):=by have:=HR2.out.1;have:=HNN.out;omega
   have hix:its[j]?=some (nm++[58,32]++x):=by
    rw[HIT.out,zaL,List.getElem?_zipWith,hnm,hx]
   obtain⟨j1,hj1⟩:∃j1,j1=j+1:=⟨_,rfl⟩
   have HJ1:Hid (j1=j+1∧j<n):=⟨hj1,hlt⟩
   have HV:Hid (IntKind.i64.wrap ((j:Int)+1)=(j1:Int)∧wrap64 ((j:Int)+1)=(j1:Int)):=wrp (by omega) (by have:=HS.out.2.1;omega)
   have JT:=zdO [44,32] its j _ hix
   have jl:=HJL.out j (by omega)
   have jl1:=HJL.out (j+1) (by omega)
   obtain⟨r,hr⟩:∃r,r=join [44,32] (its.take j):=⟨_,rfl⟩
   rw[←hr] at JT jl ⊢
   by_cases h0:j=0
   ·have q2:¬(0:Int)<(j:Int):=by omega
    rw[if_pos h0,List.nil_append] at JT
    have hr0:r=[]:=by rw[hr,h0];rfl
    subst hr0
    have xl:=HS.out.2.2.2.2.2 _ (List.mem_of_getElem? hix)
    have nl:=HNL.out nm (List.mem_of_getElem? hnm)
    have pl:=HPL.out x (List.mem_of_getElem? hx)
    have b1:=add_s (a:=Lx.bs nm) (b:=⟨#[58,32]⟩) (x:=nm) (y:=[58,32]) rfl rfl (by show _+2≤_;omega)
    obtain⟨u1,hu1⟩:∃z,z=Lx.bs (nm++[58,32]):=⟨_,rfl⟩
    rw[←hu1] at b1
    have b2:=add_s (a:=Lx.bs []) (b:=u1) (x:=[]) (y:=nm++[58,32]) rfl hu1 (by rw[List.length_append];show 0+(_+2)≤_;omega)
    obtain⟨u2,hu2⟩:∃z,z=Lx.bs ([]++(nm++[58,32])):=⟨_,rfl⟩
    rw[←hu2] at b2
    have b3:=add_s (a:=u2) (b:=Lx.bs x) (x:=[]++(nm++[58,32])) (y:=x) hu2 rfl (by rw[List.length_append,List.length_append];show 0+(_+2)+_≤_;omega)
    have HU:Hid (Lx.bs ([]++(nm++[58,32])++x)=Lx.bs (join [44,32] (its.take j1))):=by show _=_;rw[hj1,JT];rfl
    obtain⟨u3,hu3⟩:∃z,z=Lx.bs ([]++(nm++[58,32])++x):=⟨_,rfl⟩
    rw[←hu3] at b3 HU
    obtain⟨sx,hsx⟩:∃z,z=Lx.bs x:=⟨_,rfl⟩
    obtain⟨sn,hsn⟩:∃z,z=Lx.bs nm:=⟨_,rfl⟩
    rw[←hsx] at b3 c0
    rw[←hsn] at b1 d0
    clear hu1 hu2 hu3 hsx hsn xl nl pl
    obtain⟨v1,v2⟩:=HV.out
    clear hx hix hr h0 hlt hj hj1 jl jl1 JT hnm
    go_wp2
    clear v1 v2
    go_roundw
    all_goals first
     |(simp only[intOf];have:=HJ1.out;omega)
     | exact⟨j1,by have:=HJ1.out;omega,rfl,by rw[HU.out],trivial⟩
     | exact⟨j1,by have:=HJ1.out;omega,rfl,by rw[HU.out],rfl⟩
     |((repeat apply Exists.intro);exact⟨⟨j1,by have:=HJ1.out;omega,rfl,by rw[HU.out],trivial⟩,rfl⟩)
     |((repeat apply Exists.intro);exact⟨⟨j1,by have:=HJ1.out;omega,rfl,by rw[HU.out],rfl⟩,rfl⟩)
   ·have q2:(0:Int)<(j:Int):=by omega
    rw[if_neg h0] at JT
    have xl:=HS.out.2.2.2.2.2 _ (List.mem_of_getElem? hix)
    have nl:=HNL.out nm (List.mem_of_getElem? hnm)
    have pl:=HPL.out x (List.mem_of_getElem? hx)
    have a2:=add_s (a:=Lx.bs r) (b:=⟨#[44,32]⟩) (x:=r) (y:=[44,32]) rfl rfl (by show _+2≤_;omega)
    obtain⟨u0,hu0⟩:∃z,z=Lx.bs (r++[44,32]):=⟨_,rfl⟩
    rw[←hu0] at a2
    have b1:=add_s (a:=Lx.bs nm) (b:=⟨#[58,32]⟩) (x:=nm) (y:=[58,32]) rfl rfl (by show _+2≤_;omega)
    obtain⟨u1,hu1⟩:∃z,z=Lx.bs (nm++[58,32]):=⟨_,rfl⟩
    rw[←hu1] at b1
    have b2:=add_s (a:=u0) (b:=u1) (x:=r++[44,32]) (y:=nm++[58,32]) hu0 hu1 (by rw[List.length_append,List.length_append];show _+2+(_+2)≤_;omega)
    obtain⟨u2,hu2⟩:∃z,z=Lx.bs (r++[44,32]++(nm++[58,32])):=⟨_,rfl⟩
    rw[←hu2] at b2
    have b3:=add_s (a:=u2) (b:=Lx.bs x) (x:=r++[44,32]++(nm++[58,32])) (y:=x) hu2 rfl (by rw[List.length_append,List.length_append,List.length_append];show _+2+(_+2)+_≤_;omega)
    have HU:Hid (Lx.bs (r++[44,32]++(nm++[58,32])++x)=Lx.bs (join [44,32] (its.take j1))):=by show _=_;rw[hj1,JT,List.append_assoc (r++[44,32])]
    obtain⟨u3,hu3⟩:∃z,z=Lx.bs (r++[44,32]++(nm++[58,32])++x):=⟨_,rfl⟩
    rw[←hu3] at b3 HU
    obtain⟨sx,hsx⟩:∃z,z=Lx.bs x:=⟨_,rfl⟩
    obtain⟨sn,hsn⟩:∃z,z=Lx.bs nm:=⟨_,rfl⟩
    obtain⟨sr,hsr⟩:∃z,z=Lx.bs r:=⟨_,rfl⟩
    rw[←hsx] at b3 c0
    rw[←hsn] at b1 d0
    rw[←hsr] at a2 ⊢
    clear hu0 hu1 hu2 hu3 hsx hsn hsr xl nl pl
    obtain⟨v1,v2⟩:=HV.out
    clear hx hix hr h0 hlt hj hj1 jl jl1 JT hnm
    go_wp2
    clear v1 v2
    go_roundw
    all_goals first
     |(simp only[intOf];have:=HJ1.out;omega)
     | exact⟨j1,by have:=HJ1.out;omega,rfl,by rw[HU.out],trivial⟩
     | exact⟨j1,by have:=HJ1.out;omega,rfl,by rw[HU.out],rfl⟩
     |((repeat apply Exists.intro);exact⟨⟨j1,by have:=HJ1.out;omega,rfl,by rw[HU.out],trivial⟩,rfl⟩)
     |((repeat apply Exists.intro);exact⟨⟨j1,by have:=HJ1.out;omega,rfl,by rw[HU.out],rfl⟩,rfl⟩)
  ·have q0:¬(j:Int)<(n:Int):=by omega
   have hjn:j=n:=by omega
   have jl:=HJL.out n (Nat.le_refl _)
   rw[HALL.out] at jl
   rw[hjn,HALL.out]
   have a1:=add_s (a:=⟨#[123]⟩) (b:=Lx.bs (join [44,32] its)) (x:=[123]) (y:=join [44,32] its) rfl rfl (by show 1+_≤_;omega)
   obtain⟨u1,hu1⟩:∃z,z=Lx.bs ([123]++join [44,32] its):=⟨_,rfl⟩
   rw[←hu1] at a1
   have a2:=add_s (a:=u1) (b:=⟨#[125]⟩) (x:=[123]++join [44,32] its) (y:=[125]) hu1 rfl (by rw[List.length_append];show 1+_+1≤_;omega)
   obtain⟨u2,hu2⟩:∃z,z=Lx.bs ([123]++join [44,32] its++[125]):=⟨_,rfl⟩
   rw[←hu2] at a2
   have HU:=hidp hu2
   obtain⟨rr,hrr⟩:∃z,z=Lx.bs (join [44,32] its):=⟨_,rfl⟩
   rw[←hrr] at a1 ⊢
   clear hu1 hu2 hrr jl hj hlt hjn
   go_wp2
   go_ret
   exact⟨by show Ending.returned (Value.string u2)=_;rw[HU.out];rfl,X2.out⟩
theorem rshown_c (p:Sp) (ps:List Bs) (a:Option Addr) (n c:Nat) (w:World) (hr:zaE p=true) (hnum:-9223372036854775808≤p.n∧p.n≤9223372036854775807) (htx:p.text.length≤1048576) (hn:n=ps.length) (htk:n=zaI p) (hc:n≤c∧c≤9223372036854775807) (hp:∀x∈ps,x.length≤1000000) (hs:SR w a ps) (hL:HasL w) (hO:HasO w):Calls Tryz.prog 28 #[.agg #[.int .u8 (p.kind:Int),.string (Lx.bs p.text),.int .i64 p.n],.slice a n c] w fun e w'=>e=.returned (.string (Lx.bs (stepTx p ps)))∧Below w.heap.size w w':=by
 obtain⟨pk,pt,pn⟩:=p
 have h64:n≤64:=by rw[htk];exact zbX hr
 obtain⟨s,hss⟩:∃s,s=Lx.bs pt:=⟨_,rfl⟩
 obtain⟨w1,hw1⟩:∃w1,w1=w.alloc (.cells #[.int .u8 (pk:Int),.string s,.int .i64 pn] 29):=⟨_,rfl⟩
 obtain⟨T,hT⟩:∃T,T=w.heap.size:=⟨_,rfl⟩
 have X1:Hid (w1.heap[T]?=some (.cells #[.int .u8 (pk:Int),.string s,.int .i64 pn] 29 (0,0))∧Below w.heap.size w w1∧HasL w1∧HasO w1∧SR w1 a ps):=by
  have hb:Below w.heap.size w w1:=by rw[hw1];exact bnew _ _
  exact⟨by rw[hw1,hT];exact heap_alloc_new w _,hb,hL.stays hb,hO.stays hb,hs.call hb⟩
 have y0:w1.cell? ⟨T,0,none⟩=some (.int .u8 (pk:Int)):=by rw[cell_of_row _ _ _ _ _ _ X1.out.1];rfl
 have y1:w1.cell? ⟨T,1,none⟩=some (.string s):=by rw[cell_of_row _ _ _ _ _ _ X1.out.1];rfl
 have y2:w1.cell? ⟨T,2,none⟩=some (.int .i64 pn):=by rw[cell_of_row _ _ _ _ _ _ X1.out.1];rfl
 have HS:Hid (n=ps.length∧n=zaI ⟨pk,pt,pn⟩∧n≤c∧c≤9223372036854775807∧n≤64∧(∀x∈ps,x.length≤1000000)∧zaE ⟨pk,pt,pn⟩=true∧s=Lx.bs pt∧pt.length≤1048576∧(-9223372036854775808≤pn∧pn≤9223372036854775807)):=⟨hn,htk,hc.1,hc.2,h64,hp,hr,hss,htx,hnum⟩
 show Calls Tryz.prog 28 #[.agg #[.int .u8 (pk:Int),.string (Lx.bs pt),.int .i64 pn],.slice a n c] w _
 rw[←hss]
 have HSR:=hidp hs
 clear hr hnum htx hn htk hc hp hs hL hO h64 hss
 by_cases h1:pk=1
 ·have q1:((pk:Int)==1)=true:=by rw[h1];rfl
  have HQ:Hid (stepTx ⟨pk,pt,pn⟩ ps=[78,85,76,76]):=by show _=_;rw[stepTx,if_pos h1]
  clear h1
  go_enter Tryz.func28,Tryz.ntmps28
  go_upto_region 1 with fail
  rw[←hw1,←hT]
  clear hw1 hT
  go_wp2
  go_ret
  exact⟨by rw[HQ.out];rfl,X1.out.2.1⟩
 have q1:((pk:Int)==1)=false:=by simp;omega
 by_cases h2:pk=2
 ·have q2:((pk:Int)==2)=true:=by rw[h2];rfl
  have HQ:Hid (stepTx ⟨pk,pt,pn⟩ ps=[84,82,85,69]):=by show _=_;rw[stepTx,if_neg h1,if_pos h2]
  clear h1 h2
  go_enter Tryz.func28,Tryz.ntmps28
  go_upto_region 1 with fail
  rw[←hw1,←hT]
  clear hw1 hT
  go_wp2
  go_ret
  exact⟨by rw[HQ.out];rfl,X1.out.2.1⟩
 have q2:((pk:Int)==2)=false:=by simp;omega
 by_cases h3:pk=3
 ·have q3:((pk:Int)==3)=true:=by rw[h3];rfl
  have HQ:Hid (stepTx ⟨pk,pt,pn⟩ ps=[70,65,76,83,69]):=by show _=_;rw[stepTx,if_neg h1,if_neg h2,if_pos h3]
  clear h1 h2 h3
  go_enter Tryz.func28,Tryz.ntmps28
  go_upto_region 1 with fail
  rw[←hw1,←hT]
  clear hw1 hT
  go_wp2
  go_ret
  exact⟨by rw[HQ.out];rfl,X1.out.2.1⟩
 have q3:((pk:Int)==3)=false:=by simp;omega
 by_cases h4:pk=4
 ·have q4:((pk:Int)==4)=true:=by rw[h4];rfl
  have HQ:Hid (stepTx ⟨pk,pt,pn⟩ ps=Lib.itoa pn):=by show _=_;rw[stepTx,if_neg h1,if_neg h2,if_neg h3,if_pos h4]
  have hn0:0≤pn:=by
   have:=HS.out.2.2.2.2.2.2.1
   rw[zaE,if_pos h4,Bool.and_eq_true,decide_eq_true_iff] at this
   exact this.1
  obtain⟨m,hm⟩:=Int.eq_ofNat_of_zero_le hn0
  have CF:Hid (Calls Tryz.prog 53 #[.int .i64 pn] w1 fun e w'=>e=.returned (.string (Lx.bs (Lib.itoa pn)))∧Below w1.heap.size w1 w'):=by
   have h:=rnumber2_c m (by have:=HS.out.2.2.2.2.2.2.2.2.2.2;omega) w1
   rw[hm,Lib.itoa_nonneg]
   refine h.mono ?_
   rintro e w' ⟨rfl,rfl⟩
   exact⟨rfl,Below.refl _ _⟩
  clear hn0 hm m
  clear h1 h2 h3 h4
  go_enter Tryz.func28,Tryz.ntmps28
  go_upto_region 1 with fail
  rw[←hw1,←hT]
  clear hw1 hT
  go_wp2_with fail
  refine(CF.out).mono ?_
  rintro e w2 ⟨rfl,hb2⟩
  have B2:Hid (Below w.heap.size w w2):=X1.out.2.1.trans (hb2.mono X1.out.2.1.size)
  clear hb2 CF y0 y1 y2
  go_wp2
  go_ret
  exact⟨by rw[HQ.out];rfl,B2.out⟩
 have q4:((pk:Int)==4)=false:=by simp;omega
 by_cases h5:pk=5
 ·have q5:((pk:Int)==5)=true:=by rw[h5];rfl
  have HQ:Hid (stepTx ⟨pk,pt,pn⟩ ps=(Lx.shw 4 pt 0).getD []):=by show _=_;rw[stepTx,if_neg h1,if_neg h2,if_neg h3,if_neg h4,if_pos h5]
  have h5r:=HS.out.2.2.2.2.2.2.1
  rw[zaE,if_neg h4,if_pos h5,Bool.and_eq_true,Bool.and_eq_true,decide_eq_true_iff,decide_eq_true_iff] at h5r
  have CF:Hid (Calls Tryz.prog 54 #[.string s] w1 fun e w'=>e=.returned (.string (Lx.bs ((Lx.shw 4 pt 0).getD [])))∧Below w1.heap.size w1 w'):=by
   rw[HS.out.2.2.2.2.2.2.2.1,shw_text h5r.1.2 h5r.2]
   exact rquoted_c pt HS.out.2.2.2.2.2.2.2.2.1 w1
  clear h5r
  clear h1 h2 h3 h4 h5
  go_enter Tryz.func28,Tryz.ntmps28
  go_upto_region 1 with fail
  rw[←hw1,←hT]
  clear hw1 hT
  go_wp2_with fail
  refine(CF.out).mono ?_
  rintro e w2 ⟨rfl,hb2⟩
  have B2:Hid (Below w.heap.size w w2):=X1.out.2.1.trans (hb2.mono X1.out.2.1.size)
  clear hb2 CF y0 y1 y2
  go_wp2
  go_ret
  exact⟨by rw[HQ.out];rfl,B2.out⟩
 have q5:((pk:Int)==5)=false:=by simp;omega
 by_cases h6:pk=6
 ·have q6:((pk:Int)==6)=true:=by rw[h6];rfl
  have HQ:Hid (stepTx ⟨pk,pt,pn⟩ ps=pt):=by show _=_;rw[stepTx,if_neg h1,if_neg h2,if_neg h3,if_neg h4,if_neg h5,if_pos h6]
  clear h1 h2 h3 h4 h5 h6
  go_enter Tryz.func28,Tryz.ntmps28
  go_upto_region 1 with fail
  rw[←hw1,←hT]
  clear hw1 hT
  go_wp2
  go_ret
  exact⟨by rw[HQ.out,←HS.out.2.2.2.2.2.2.2.1];rfl,X1.out.2.1⟩
 have q6:((pk:Int)==6)=false:=by simp;omega
 by_cases h7:pk=7
 ·subst h7
  have HQ:stepTx ⟨7,pt,pn⟩ ps=[91]++join [44,32] ps++[93]:=rfl
  rw[HQ,HS.out.2.2.2.2.2.2.2.1]
  exact rsh7_c ps a n c pt pn w HS.out.1 HS.out.2.2.2.2.1 HS.out.2.2.1 HS.out.2.2.2.2.2.1 HS.out.2.2.2.2.2.2.2.2.1 HSR.out
 by_cases h8:pk=8
 ·subst h8
  have HQ:stepTx ⟨8,pt,pn⟩ ps=[123]++join [44,32] (zaL (cut 44 pt) ps)++[125]:=rfl
  have hc8:=struct_cut HS.out.2.2.2.2.2.2.1 rfl
  rw[HQ,HS.out.2.2.2.2.2.2.2.1]
  exact rsh8_c ps a n c pt pn w HS.out.1 HS.out.2.2.2.2.1 HS.out.2.2.1 HS.out.2.2.2.2.2.1 HS.out.2.2.2.2.2.2.2.2.1 (by rw[HS.out.2.1];exact hc8.1) hc8.2.1 HSR.out
 have q7:((pk:Int)==7)=false:=by simp;omega
 have q8:((pk:Int)==8)=false:=by simp;omega
 by_cases h9:pk=9
 ·have q9:((pk:Int)==9)=true:=by rw[h9];rfl
  have HQ:Hid (stepTx ⟨pk,pt,pn⟩ ps=[40,45]++ps.getD 0 []++[41]):=by show _=_;rw[stepTx,if_neg h1,if_neg h2,if_neg h3,if_neg h4,if_neg h5,if_neg h6,if_neg h7,if_neg h8,if_pos h9]
  have hk1:n=1:=by
   rw[HS.out.2.1,zaI,if_neg (by show ¬(pk=7∨pk=8);omega),if_neg (by show ¬12≤pk;omega),if_pos (by show 9≤pk;omega)]
  obtain⟨x,hx⟩:∃x,ps[0]?=some x:=⟨_,List.getElem?_eq_getElem (by have:=HS.out;omega)⟩
  obtain⟨g,o,rfl,c0⟩:=X1.out.2.2.2.2 0 x hx
  rw[Nat.add_zero] at c0
  have hxl:=HS.out.2.2.2.2.2.1 x (List.mem_of_getElem? hx)
  have HX:Hid (stepTx ⟨pk,pt,pn⟩ ps=[40,45]++x++[41]):=by show _=_;rw[HQ.out,List.getD_eq_getElem?_getD,hx];rfl
  have a1:=add_s (a:=⟨#[40,45]⟩) (b:=Lx.bs x) (x:=[40,45]) (y:=x) rfl rfl (by show 2+x.length≤_;omega)
  have a2:=add_s (a:=Lx.bs ([40,45]++x)) (b:=⟨#[41]⟩) (x:=[40,45]++x) (y:=[41]) rfl rfl (by rw[List.length_append];show 2+x.length+1≤_;omega)
  obtain⟨z1,hz1⟩:∃z1,z1=Lx.bs ([40,45]++x):=⟨_,rfl⟩
  rw[←hz1] at a1 a2
  have q0:(0:Int)<(n:Int):=by omega
  clear hz1 hx hxl HQ
  clear h1 h2 h3 h4 h5 h6 h7 h8 h9 hk1
  go_enter Tryz.func28,Tryz.ntmps28
  go_upto_region 1 with fail
  rw[←hw1,←hT]
  clear hw1 hT
  go_wp2
  go_ret
  exact⟨by rw[HX.out];rfl,X1.out.2.1⟩
 have q9:((pk:Int)==9)=false:=by simp;omega
 by_cases h10:pk=10
 ·have q10:((pk:Int)==10)=true:=by rw[h10];rfl
  have HQ:Hid (stepTx ⟨pk,pt,pn⟩ ps=[40,78,79,84,32]++ps.getD 0 []++[41]):=by show _=_;rw[stepTx,if_neg h1,if_neg h2,if_neg h3,if_neg h4,if_neg h5,if_neg h6,if_neg h7,if_neg h8,if_neg h9,if_pos h10]
  have hk1:n=1:=by
   rw[HS.out.2.1,zaI,if_neg (by show ¬(pk=7∨pk=8);omega),if_neg (by show ¬12≤pk;omega),if_pos (by show 9≤pk;omega)]
  obtain⟨x,hx⟩:∃x,ps[0]?=some x:=⟨_,List.getElem?_eq_getElem (by have:=HS.out;omega)⟩
  obtain⟨g,o,rfl,c0⟩:=X1.out.2.2.2.2 0 x hx
  rw[Nat.add_zero] at c0
  have hxl:=HS.out.2.2.2.2.2.1 x (List.mem_of_getElem? hx)
  have HX:Hid (stepTx ⟨pk,pt,pn⟩ ps=[40,78,79,84,32]++x++[41]):=by show _=_;rw[HQ.out,List.getD_eq_getElem?_getD,hx];rfl
  have a1:=add_s (a:=⟨#[40,78,79,84,32]⟩) (b:=Lx.bs x) (x:=[40,78,79,84,32]) (y:=x) rfl rfl (by show 5+x.length≤_;omega)
  have a2:=add_s (a:=Lx.bs ([40,78,79,84,32]++x)) (b:=⟨#[41]⟩) (x:=[40,78,79,84,32]++x) (y:=[41]) rfl rfl (by rw[List.length_append];show 5+x.length+1≤_;omega)
  obtain⟨z1,hz1⟩:∃z1,z1=Lx.bs ([40,78,79,84,32]++x):=⟨_,rfl⟩
  rw[←hz1] at a1 a2
  have q0:(0:Int)<(n:Int):=by omega
  clear hz1 hx hxl HQ
  clear h1 h2 h3 h4 h5 h6 h7 h8 h9 h10 hk1
  go_enter Tryz.func28,Tryz.ntmps28
  go_upto_region 1 with fail
  rw[←hw1,←hT]
  clear hw1 hT
  go_wp2
  go_ret
  exact⟨by rw[HX.out];rfl,X1.out.2.1⟩
 have q10:((pk:Int)==10)=false:=by simp;omega
 by_cases h11:pk=11
 ·have q11:((pk:Int)==11)=true:=by rw[h11];rfl
  have HQ:Hid (stepTx ⟨pk,pt,pn⟩ ps=[40]++ps.getD 0 []++[32,73,83,32,78,85,76,76,41]):=by show _=_;rw[stepTx,if_neg h1,if_neg h2,if_neg h3,if_neg h4,if_neg h5,if_neg h6,if_neg h7,if_neg h8,if_neg h9,if_neg h10,if_pos h11]
  have hk1:n=1:=by
   rw[HS.out.2.1,zaI,if_neg (by show ¬(pk=7∨pk=8);omega),if_neg (by show ¬12≤pk;omega),if_pos (by show 9≤pk;omega)]
  obtain⟨x,hx⟩:∃x,ps[0]?=some x:=⟨_,List.getElem?_eq_getElem (by have:=HS.out;omega)⟩
  obtain⟨g,o,rfl,c0⟩:=X1.out.2.2.2.2 0 x hx
  rw[Nat.add_zero] at c0
  have hxl:=HS.out.2.2.2.2.2.1 x (List.mem_of_getElem? hx)
  have HX:Hid (stepTx ⟨pk,pt,pn⟩ ps=[40]++x++[32,73,83,32,78,85,76,76,41]):=by show _=_;rw[HQ.out,List.getD_eq_getElem?_getD,hx];rfl
  have a1:=add_s (a:=⟨#[40]⟩) (b:=Lx.bs x) (x:=[40]) (y:=x) rfl rfl (by show 1+x.length≤_;omega)
  have a2:=add_s (a:=Lx.bs ([40]++x)) (b:=⟨#[32,73,83,32,78,85,76,76,41]⟩) (x:=[40]++x) (y:=[32,73,83,32,78,85,76,76,41]) rfl rfl (by rw[List.length_append];show 1+x.length+9≤_;omega)
  obtain⟨z1,hz1⟩:∃z1,z1=Lx.bs ([40]++x):=⟨_,rfl⟩
  rw[←hz1] at a1 a2
  have q0:(0:Int)<(n:Int):=by omega
  clear hz1 hx hxl HQ
  clear h1 h2 h3 h4 h5 h6 h7 h8 h9 h10 h11 hk1
  go_enter Tryz.func28,Tryz.ntmps28
  go_upto_region 1 with fail
  rw[←hw1,←hT]
  clear hw1 hT
  go_wp2
  go_ret
  exact⟨by rw[HX.out];rfl,X1.out.2.1⟩
 have q11:((pk:Int)==11)=false:=by simp;omega
 have HQ:Hid (stepTx ⟨pk,pt,pn⟩ ps=[40]++ps.getD 0 []++[32]++opTx pk++[32]++ps.getD 1 []++[41]):=by show _=_;rw[stepTx,if_neg h1,if_neg h2,if_neg h3,if_neg h4,if_neg h5,if_neg h6,if_neg h7,if_neg h8,if_neg h9,if_neg h10,if_neg h11]
 have hk12:12≤pk:=by
  have:=HS.out.2.2.2.2.2.2.1
  rw[zaE,if_neg h4,if_neg h5,if_neg h6,if_neg h7,if_neg h8,Bool.and_eq_true,Bool.and_eq_true,Bool.and_eq_true,decide_eq_true_iff] at this
  have h0:0<pk:=this.1.1.1
  omega
 have hk1222:12≤pk∧pk≤22:=by
  have:=HS.out.2.2.2.2.2.2.1
  rw[zaE,if_neg h4,if_neg h5,if_neg h6,if_neg h7,if_neg h8,Bool.and_eq_true,Bool.and_eq_true,Bool.and_eq_true,decide_eq_true_iff,decide_eq_true_iff] at this
  have h0:pk<23:=this.1.1.2
  omega
 have hk2:n=2:=by
  rw[HS.out.2.1,zaI,if_neg (by show ¬(pk=7∨pk=8);omega),if_pos hk12]
 obtain⟨x,hx⟩:∃x,ps[0]?=some x:=⟨_,List.getElem?_eq_getElem (by have:=HS.out;omega)⟩
 obtain⟨y,hy⟩:∃y,ps[1]?=some y:=⟨_,List.getElem?_eq_getElem (by have:=HS.out;omega)⟩
 obtain⟨g,o,rfl,c0⟩:=X1.out.2.2.2.2 0 x hx
 obtain⟨g',o',e',c1⟩:=X1.out.2.2.2.2 1 y hy
 cases e'
 rw[Nat.add_zero] at c0
 have hxl:=HS.out.2.2.2.2.2.1 x (List.mem_of_getElem? hx)
 have hyl:=HS.out.2.2.2.2.2.1 y (List.mem_of_getElem? hy)
 obtain⟨op,hop⟩:∃op,op=opTx pk:=⟨_,rfl⟩
 have hol:op.length≤3:=by rw[hop];exact opTx_len pk
 have CO:Hid (∀q:BelowOf w1.heap.size w1,Calls Tryz.prog 56 #[.int .u8 (pk:Int)] q.W fun e W'=>e=.returned (.string (Lx.bs (opTx pk)))∧Below q.W.heap.size q.W W'):=fun q=>roper_c pk hk1222 q.W
 rw[←hop] at CO HQ
 have HX:Hid (stepTx ⟨pk,pt,pn⟩ ps=[40]++x++[32]++op++[32]++y++[41]):=by show _=_;rw[HQ.out,List.getD_eq_getElem?_getD,List.getD_eq_getElem?_getD,hx,hy];rfl
 have a1:=add_s (a:=⟨#[40]⟩) (b:=Lx.bs x) (x:=[40]) (y:=x) rfl rfl (by show 1+x.length≤_;omega)
 obtain⟨z1,hz1⟩:∃z,z=Lx.bs ([40]++x):=⟨_,rfl⟩
 rw[←hz1] at a1
 have a2:=add_s (a:=z1) (b:=⟨#[32]⟩) (x:=[40]++x) (y:=[32]) hz1 rfl (by rw[List.length_append];show 1+x.length+1≤_;omega)
 obtain⟨z2,hz2⟩:∃z,z=Lx.bs ([40]++x++[32]):=⟨_,rfl⟩
 rw[←hz2] at a2
 have a3:=add_s (a:=z2) (b:=Lx.bs op) (x:=[40]++x++[32]) (y:=op) hz2 rfl (by rw[List.length_append,List.length_append];show 1+x.length+1+op.length≤_;omega)
 obtain⟨z3,hz3⟩:∃z,z=Lx.bs ([40]++x++[32]++op):=⟨_,rfl⟩
 rw[←hz3] at a3
 have a4:=add_s (a:=z3) (b:=⟨#[32]⟩) (x:=[40]++x++[32]++op) (y:=[32]) hz3 rfl (by rw[List.length_append,List.length_append,List.length_append];show 1+x.length+1+op.length+1≤_;omega)
 obtain⟨z4,hz4⟩:∃z,z=Lx.bs ([40]++x++[32]++op++[32]):=⟨_,rfl⟩
 rw[←hz4] at a4
 have a5:=add_s (a:=z4) (b:=Lx.bs y) (x:=[40]++x++[32]++op++[32]) (y:=y) hz4 rfl (by rw[List.length_append,List.length_append,List.length_append,List.length_append];show 1+x.length+1+op.length+1+y.length≤_;omega)
 obtain⟨z5,hz5⟩:∃z,z=Lx.bs ([40]++x++[32]++op++[32]++y):=⟨_,rfl⟩
 rw[←hz5] at a5
 have a6:=add_s (a:=z5) (b:=⟨#[41]⟩) (x:=[40]++x++[32]++op++[32]++y) (y:=[41]) hz5 rfl (by rw[List.length_append,List.length_append,List.length_append,List.length_append,List.length_append];show 1+x.length+1+op.length+1+y.length+1≤_;omega)
 obtain⟨z6,hz6⟩:∃z,z=Lx.bs ([40]++x++[32]++op++[32]++y++[41]):=⟨_,rfl⟩
 rw[←hz6] at a6
 have q0:(0:Int)<(n:Int):=by omega
 have q1':(1:Int)<(n:Int):=by omega
 have hgl:=block_lt_of_cell c0
 have htl:=row_lt X1.out.1
 have HZ:Hid (Lx.bs (stepTx ⟨pk,pt,pn⟩ ps)=z6):=by show _=_;rw[HX.out,hz6]
 clear hz6 hz1 hz2 hz3 hz4 hz5 hx hy hxl hyl hol hop HQ hk12 hk1222 hk2 h1 h2 h3 h4 h5 h6 h7 h8 h9 h10 h11
 go_enter Tryz.func28,Tryz.ntmps28
 go_upto_region 1 with fail
 rw[←hw1,←hT]
 clear hw1 hT
 go_upto_region 36 with fail
 have yc0:∀q:BelowOf w1.heap.size w1,q.W.cell? ⟨g,o,none⟩=some (.string (Lx.bs x)):=fun q=>(q.h.cell (p:=⟨g,o,none⟩) hgl).trans c0
 have yc1:∀q:BelowOf w1.heap.size w1,q.W.cell? ⟨g,o+1,none⟩=some (.string (Lx.bs y)):=fun q=>(q.h.cell (p:=⟨g,o+1,none⟩) hgl).trans c1
 have yk:∀q:BelowOf w1.heap.size w1,q.W.cell? ⟨T,0,none⟩=some (.int .u8 (pk:Int)):=fun q=>(q.h.cell (p:=⟨T,0,none⟩) htl).trans y0
 clear y0 y1 y2 c0 c1 hgl htl
 refine zaC w1.heap.size w1 (Below.refl _ _) (by kernel_rfl) (by kernel_rfl) ?_
 repeat (go_big_quiet_step (first | (go_at_call 56;exact below_call _ (Nat.le_refl _) (CO.out _))))
 refine wpQuiet_nil ?_
 intro _ hw'
 obtain⟨pq,hw''⟩:=hw'
 subst hw''
 have B9:Hid (Below w.heap.size w pq.W):=X1.out.2.1.trans (pq.h.mono X1.out.2.1.size)
 go_wp2
 go_ret
 exact⟨by rw[HZ.out];rfl,B9.out⟩
end Ps
end Go.Proofs.YtfhkaffakniioaaGreatDoor
namespace Go.Proofs.YtfhkaffakniioaaGreatDoor
open Go.RowKit
namespace Ps
theorem rshowT_c (l:List Sp) (a:Option Addr) (n c:Nat) (w:World) (hr:rightE l=true) (hn:n=l.length) (hs:Sts w a l) (hf:∀p∈l,fitS p) (ht8:∀p∈l,p.text.length≤1048576) (hL:HasL w) (hO:HasO w):Calls Tryz.prog 10 #[.slice a n c] w fun e w'=>e=.returned (.tuple #[.string (Lx.bs (shownE l)),.int .i64 0])∧Below w.heap.size w w':=by
 obtain⟨i0,hi,hz0,hz1,hz2⟩:=zaJ zbE
 have hrr:l.length≤128∧rightL l 0=true:=by
  rw[rightE,Bool.and_eq_true,decide_eq_true_iff] at hr
  exact hr
 have HT8:=hidp ht8
 have CRR:Hid (Calls Tryz.prog 17 #[.slice a n c] w fun e w'=>e=.returned (.bool true)∧Below w.heap.size w w'):=by
  have h:=zdJ l a n c w hn (by omega) hs ht8
  rw[hr] at h
  exact h
 have HS:Hid (Sts w a l∧n=l.length∧n≤128∧(∀p∈l,fitS p)∧HasL w∧HasO w∧rightL l 0=true):=⟨hs,hn,by omega,hf,hL,hO,hrr.2⟩
 clear hr hn hs hf hL hO hrr ht8
 go_enter Tryz.func10,Tryz.ntmps10
 go_wp2_with fail
 refine(CRR.out).mono ?_
 rintro e w0 ⟨rfl,hb0⟩
 have X0:=hidp hb0
 clear hb0 CRR
 go_wp2
 go_loopw [4,16] (fun v i wr=>∃(j:Nat) (st:List Bs),j≤n∧i=.int .i64 j∧Hid (SH l w j st v wr)) (fun _ i _=>n - (intOf i).toNat)
 case atStart=>exact⟨0,[],Nat.zero_le _,rfl,rfl,HS.out.2.2.2.2.2.2,Nat.zero_le _,X0.out,⟨rfl,.inl ⟨rfl,rfl⟩⟩,Nat.le_refl _⟩
 case round =>
  obtain⟨j,st,hj,rfl,HI⟩:=hrel
  obtain⟨m,hm⟩:∃m,m=st.length:=⟨_,rfl⟩
  have HM:Hid (m=st.length∧m≤128):=⟨hm,by have:=HI.out.few;have:=HS.out;omega⟩
  by_cases hlt:j<n
  ·have q0:(j:Int)<(n:Int):=by omega
   have q1:(0:Int)≤(j:Int):=by omega
   obtain⟨p,hp⟩:∃p,l[j]?=some p:=⟨_,List.getElem?_eq_getElem (by have:=HS.out;omega)⟩
   obtain⟨g0,o0,rfl,c0,c1,c2⟩:=(HS.out.1.call HI.out.below) j p hp
   have hrl:=HI.out.right
   rw[zcK hp,Bool.and_eq_true,Bool.and_eq_true,decide_eq_true_iff] at hrl
   obtain⟨tk,htk⟩:∃tk,tk=zaI p:=⟨_,rfl⟩
   obtain⟨f,hfm⟩:∃f,f=m - tk:=⟨_,rfl⟩
   have HP:Hid (zaE p=true∧tk=zaI p∧tk≤m∧f=m - tk∧f+tk=m∧rightL (l.drop (j+1)) (m+1 - tk)=true∧fitS p∧j<n∧stackL (l.drop j) st=stackL (l.drop (j+1)) (st.take f++[stepTx p (st.drop f)])):=by
    refine⟨hrl.1.1,htk,by rw[htk,hm];exact hrl.1.2,hfm,by have:=hrl.1.2;omega,by rw[hm,htk];exact hrl.2,HS.out.2.2.2.1 p (List.mem_of_getElem? hp),hlt,?_⟩
    rw[stack_step hp,hfm,hm,htk]
   have HPT:=hidp (HT8.out p (List.mem_of_getElem? hp))
   obtain⟨w1,hw1⟩:∃w1,w1=wr.alloc (.cells #[.int .u8 (p.kind:Int),.string (Lx.bs p.text),.int .i64 p.n] 29):=⟨_,rfl⟩
   obtain⟨T,hT⟩:∃T,T=wr.heap.size:=⟨_,rfl⟩
   have X1:Hid (w1.heap[T]?=some (.cells #[.int .u8 (p.kind:Int),.string (Lx.bs p.text),.int .i64 p.n] 29 (0,0))∧Below w.heap.size w w1∧Below wr.heap.size wr w1):=⟨by rw[hw1,hT];exact heap_alloc_new wr _,by rw[hw1];exact HI.out.below.alloc HI.out.below.size _,by rw[hw1];exact bnew _ _⟩
   have y0:w1.cell? ⟨T,0,none⟩=some (.int .u8 (p.kind:Int)):=by rw[cell_of_row _ _ _ _ _ _ X1.out.1];rfl
   have y1:w1.cell? ⟨T,1,none⟩=some (.string (Lx.bs p.text)):=by rw[cell_of_row _ _ _ _ _ _ X1.out.1];rfl
   have y2:w1.cell? ⟨T,2,none⟩=some (.int .i64 p.n):=by rw[cell_of_row _ _ _ _ _ _ X1.out.1];rfl
   have CT:Hid (Calls Tryz.prog 12 #[.agg #[.int .u8 (p.kind:Int),.string (Lx.bs p.text),.int .i64 p.n]] w1 fun e w'=>e=.returned (.tuple #[.int .i64 (tk:Int),.bool true])∧Below w1.heap.size w1 w'):=by
    have h:=rtakes_c p (HT8.out p (List.mem_of_getElem? hp)) w1
    rw[HP.out.1,if_pos rfl,←htk] at h
    exact h
   obtain⟨x,hx⟩:∃x,x=stepTx p (st.drop f):=⟨_,rfl⟩
   have HX:Hid (x=stepTx p (st.drop f)∧x.length≤tot (st.drop f)+4500∧∀y∈st.drop f,y.length≤1000000):=by
    have ht64:=zbX HP.out.1
    have hl2:(st.drop f).length=tk:=by rw[List.length_drop];have:=HP.out;have:=HM.out.1;omega
    refine⟨hx,by rw[hx];exact step_cost HP.out.1 (by rw[hl2,htk];exact ht64) HP.out.2.2.2.2.2.2.1.2,fun y hy=>?_⟩
    have e1:=tot_mem (List.mem_of_mem_drop hy)
    have e2:=HI.out.tot
    have e3:j*4500≤128*4500:=Nat.mul_le_mul_right _ (by have:=HS.out;omega)
    omega
   have CS:Hid (∀W pa pc,Below w.heap.size w W→tk≤pc→pc≤9223372036854775807→SR W pa (st.drop f)→Calls Tryz.prog 28 #[.agg #[.int .u8 (p.kind:Int),.string (Lx.bs p.text),.int .i64 p.n],.slice pa tk pc] W fun e w'=>e=.returned (.string (Lx.bs x))∧Below W.heap.size W w'):=fun W pa pc hW h1 h2 h3=>by
    rw[hx]
    exact rshown_c p (st.drop f) pa tk pc W HP.out.1 HP.out.2.2.2.2.2.2.1.2 HPT.out (by rw[List.length_drop];have:=HP.out;have:=HM.out.1;omega) HP.out.2.1 ⟨h1,h2⟩ HX.out.2.2 h3 (HS.out.2.2.2.2.1.stays hW) (HS.out.2.2.2.2.2.1.stays hW)
   obtain⟨j1,hj1⟩:∃j1,j1=j+1:=⟨_,rfl⟩
   have HJ1:Hid (j1=j+1):=hj1
   have HV:Hid (IntKind.i64.wrap ((j:Int)+1)=(j1:Int)∧wrap64 ((j:Int)+1)=(j1:Int)):=wrp (by omega) (by have:=HS.out;omega)
   have HVF:Hid (IntKind.i64.wrap ((m:Int) - (tk:Int))=(f:Int)∧wrap64 ((m:Int) - (tk:Int))=(f:Int)):=by rw[hfm];exact wsubN HP.out.2.2.1 (by have:=HM.out;omega)
   have FIN:Hid (∀(W5:World) (v':Value) (W4:World) (sv:Value),OwnT W4 w.heap.size sv (st.take f)→Below w.heap.size w W4→(W4.alloc (.cells #[.string (Lx.bs x)] 9)).grownBy W5 sv.ownBlock→W5.ownsRow w.heap.size 9 1 v' (f+1) (((st.take f).map fun x=>Value.string (Lx.bs x))++[.string (Lx.bs x)])→SH l w j1 (st.take f++[x]) v' W5):=fun W5 v' W4 sv ho hb hg hn=>by
    have hfl:(st.take f).length=f:=by rw[List.length_take,Nat.min_eq_left (by have:=HP.out;have:=HM.out.1;omega)]
    obtain⟨r1,r2⟩:=ho.push hb (bnew W4 _) hg (by rw[hfl];exact hn)
    refine⟨?_,?_,?_,r1,r2,?_⟩
    ·rw[HI.out.stack,HP.out.2.2.2.2.2.2.2.2,HX.out.1,HJ1.out]
    ·rw[List.length_append,hfl,List.length_singleton,HJ1.out,show f+1=m+1 - tk by have:=HP.out;omega]
     exact HP.out.2.2.2.2.2.1
    ·rw[tot_app]
     have e1:=tot_take st f
     have e2:=HI.out.tot
     have e3:=HX.out.2.1
     have e4:(j+1)*4500=j*4500+4500:=Nat.succ_mul _ _
     rw[HJ1.out,e4]
     show tot (st.take f)+(x.length+0)≤_
     omega
    ·rw[List.length_append,hfl,List.length_singleton]
     have:=HI.out.few
     have:=HP.out
     have:=HM.out.1
     have:=HJ1.out
     omega
   have fit63:Hid (f+1≤maxLen):=by show _≤_;have:=HM.out;have:=HP.out;unfold maxLen;omega
   have fit47:Hid ((f+1)*16≤140737488355328):=by show _≤_;have:=HM.out;have:=HP.out;omega
   clear hrl hp hlt hj hm htk hx hj1 hfm
   rcases HI.out.own.2 with ⟨hnv,hnl⟩ | ⟨gg,cap,cur,hnv,hgB,hgrow,hg1,hg2,hg3,hg4⟩
   ·obtain rfl:=hnv
    have hm0:m=0:=by rw[HM.out.1];exact hnl
    subst hm0
    have hf0:f=0:=by have:=HP.out;omega
    have ht0:tk=0:=by have:=HP.out;omega
    subst hf0 ht0
    have HST:Hid (st.take 0=[]∧st.drop 0=[]):=by
     have:st=[]:=List.length_eq_zero_iff.1 hnl
     rw[this]
     exact⟨rfl,rfl⟩
    obtain⟨vf1,vf2⟩:=HVF.out
    clear hnl
    go_upto_region 7 with fail
    rw[←hw1,←hT]
    clear hw1 hT c0 c1 c2
    go_wp2_with fail
    refine(CT.out).mono ?_
    rintro e w2 ⟨rfl,hb2⟩
    have X2:Hid (w2.heap[T]?=some (.cells #[.int .u8 (p.kind:Int),.string (Lx.bs p.text),.int .i64 p.n] 29 (0,0))∧Below w.heap.size w w2∧Below wr.heap.size wr w2):=⟨(hb2.block T (row_lt X1.out.1)).trans X1.out.1,X1.out.2.1.trans (hb2.mono X1.out.2.1.size),X1.out.2.2.trans (hb2.mono X1.out.2.2.size)⟩
    clear hb2 CT y0 y1 y2
    have y0:w2.cell? ⟨T,0,none⟩=some (.int .u8 (p.kind:Int)):=by rw[cell_of_row _ _ _ _ _ _ X2.out.1];rfl
    have y1:w2.cell? ⟨T,1,none⟩=some (.string (Lx.bs p.text)):=by rw[cell_of_row _ _ _ _ _ _ X2.out.1];rfl
    have y2:w2.cell? ⟨T,2,none⟩=some (.int .i64 p.n):=by rw[cell_of_row _ _ _ _ _ _ X2.out.1];rfl
    have tl:=row_lt X2.out.1
    have HD:Hid (Below w2.heap.size w2 w2.drew):=(Below.refl _ _).drew
    have CSX:Hid (∀W,Below w2.heap.size w2 W→Calls Tryz.prog 28 #[.agg #[.int .u8 (p.kind:Int),.string (Lx.bs p.text),.int .i64 p.n],.slice none 0 0] W fun e w'=>e=.returned (.string (Lx.bs x))∧Below W.heap.size W w'):=fun W hW=>CS.out W none 0 (X2.out.2.1.trans (hW.mono X2.out.2.1.size)) (Nat.le_refl _) (by decide) (by rw[HST.out.2];exact SR.nil _ _)
    go_upto_region 9 with fail
    clear vf1 vf2
    go_region_held3 (fun W'=>W'.cell? ⟨T,0,none⟩=some (.int .u8 (p.kind:Int))∧W'.cell? ⟨T,1,none⟩=some (.string (Lx.bs p.text))∧W'.cell? ⟨T,2,none⟩=some (.int .i64 p.n)) (go_keep) (first
     |(go_at_call 28;refine(CSX.out _ HD.out).mono ?_;rintro e w3 ⟨rfl,hb3⟩
       have X3:Hid (Below w.heap.size w w3∧Below wr.heap.size wr w3):=⟨X2.out.2.1.trans ((HD.out.trans (hb3.mono HD.out.size)).mono X2.out.2.1.size),X2.out.2.2.trans ((HD.out.trans (hb3.mono HD.out.size)).mono X2.out.2.2.size)⟩
       have y0:=((HD.out.trans (hb3.mono HD.out.size)).cell (p:=⟨T,0,none⟩) tl).trans y0
       have y1:=((HD.out.trans (hb3.mono HD.out.size)).cell (p:=⟨T,1,none⟩) tl).trans y1
       have y2:=((HD.out.trans (hb3.mono HD.out.size)).cell (p:=⟨T,2,none⟩) tl).trans y2
       clear hb3))
    have SRT:Hid (SrcC w3 none ((st.take 0).map fun x=>Value.string (Lx.bs x))∧(st.take 0).length=0):=⟨fun q u hu=>(by rw[HST.out.1] at hu;cases hu),by rw[HST.out.1];rfl⟩
    clear y0 y1 y2 tl HD CSX
    go_wp2_with (at_builtin;refine zbF rfl _ _ 50 rfl w.heap.size 9 i0 (.string ⟨#[]⟩) 1 16 Tryz.underlying50 hi hz0 hz1 hz2 rfl (by decide) _ 0 [] rfl (own_none w3 w.heap.size ?b1 9 1) none 0 _ ((st.take 0).map fun x=>Value.string (Lx.bs x)) rfl ?b2 ?b3 ?b4 ?b5 ?b6 ?b7 ?_)
    case b1=>exact X3.out.1.size
    case b2=>rw[List.length_map,SRT.out.2,Nat.mul_one]
    case b3=>exact SRT.out.1.call (bnew _ _)
    case b4=>intro u hu;obtain⟨y,_,rfl⟩:=List.mem_map.1 hu;rfl
    case b5=>rw[Nat.zero_add];exact Nat.le_of_succ_le fit63.out
    case b6=>rw[Nat.zero_add];have:=fit47.out;omega
    case b7=>have h1:=X3.out.1.size;simp;omega
    intro b cap5 w5 hown5 hb5 _
    have X5:Hid (OwnT w5 w.heap.size (.slice b 0 cap5) (st.take 0)∧w5.ownsRow w.heap.size 9 1 (.slice b 0 cap5) 0 ((st.take 0).map fun x=>Value.string (Lx.bs x))∧Below w.heap.size w w5):=by
     have hown6:w5.ownsRow w.heap.size 9 1 (.slice b 0 cap5) 0 ((st.take 0).map fun x=>Value.string (Lx.bs x)):=by
      first
       | exact hown5
       |(rw[List.map_take];exact hown5)
       |(rw[Nat.zero_add,List.nil_append] at hown5;exact hown5)
       |(rw[HST.out.1];exact hown5)
     refine⟨?_,hown6,(X3.out.1.alloc X3.out.1.size _).trans hb5⟩
     unfold OwnT
     rw[SRT.out.2]
     exact hown6
    clear hown5 hb5
    try rw[Nat.zero_add]
    go_wp2_with (at_builtin;refine wpList_append_own _ rfl _ _ 50 rfl w.heap.size 9 i0 (.string ⟨#[]⟩) 1 16 Tryz.underlying50 hi hz0 hz1 hz2 rfl (by decide) _ _ _ rfl (X5.out.2.1.alloc _) ⟨w5.heap.size,0,none⟩ 1 1 [.string (Lx.bs x)] rfl rfl ?c1 ?c2 fit63.out fit47.out ?c5 ?_)
    case c1 =>
     intro j u hj
     match j,hj with
     | 0,hj=>simp at hj;subst hj;simp[Addr.add]
    case c2=>intro u hu;simp at hu;subst hu;rfl
    case c5=>have h1:=X5.out.2.2.size;simp;omega
    intro v' w7 hown7 hgrow7 _
    have I7:Hid (SH l w j1 (st.take 0++[x]) v' w7):=FIN.out w7 v' w5 _ X5.out.1 X5.out.2.2 hgrow7 (by first | exact hown7 | (rw[List.map_take];exact hown7))
    clear hown7 hgrow7
    obtain⟨v1,v2⟩:=HV.out
    go_wp2
    clear v1 v2
    go_roundw
    all_goals first
     |(simp only[intOf];have:=HJ1.out;have:=HP.out;omega)
     | exact⟨j1,_,by have:=HJ1.out;have:=HP.out;omega,rfl,I7.out⟩
     |((repeat apply Exists.intro);exact⟨⟨j1,_,by have:=HJ1.out;have:=HP.out;omega,rfl,I7.out⟩,rfl⟩)
   ·obtain rfl:=hnv
    rw[←HM.out.1]
    have hm1:m≤cap:=by rw[HM.out.1];exact hg1
    have e9:maxLen=9223372036854775807:=by decide
    have OC:=HI.out.own
    rw[←HM.out.1] at OC
    obtain⟨oc1,oc2,oc3⟩:=own_cut OC f (by have:=HP.out;omega)
    have HOC:Hid (OwnT wr w.heap.size (.slice (some ⟨gg,0,none⟩) f cap) (st.take f)∧SR wr (some ⟨gg,f,none⟩) (st.drop f)∧f≤m∧m≤cap∧cap≤9223372036854775807∧tk=m - f∧(st.take f).length=f):=⟨oc1,oc2,by have:=HP.out;omega,hm1,by omega,by have:=HP.out;omega,by rw[List.length_take,Nat.min_eq_left (by have:=HP.out;have:=HM.out.1;omega)]⟩
    have s0:(0:Int)≤(f:Int):=by omega
    have s1:(f:Int)≤(cap:Int):=by have:=HOC.out;omega
    have s2:(f:Int)≤(m:Int):=by have:=HOC.out;omega
    have s3:(m:Int)≤(cap:Int):=by omega
    have s4:m - f=tk:=by have:=HOC.out;omega
    obtain⟨vf1,vf2⟩:=HVF.out
    clear hgB hgrow hg1 hg2 hg3 hg4 OC oc1 oc2 oc3 hm1 e9
    by_cases hcf:cap=f
    ·have HCF:=hidp hcf
     subst hcf
     go_upto_region 7 with fail
     rw[←hw1,←hT]
     clear hw1 hT c0 c1 c2
     go_wp2_with fail
     refine(CT.out).mono ?_
     rintro e w2 ⟨rfl,hb2⟩
     have X2:Hid (w2.heap[T]?=some (.cells #[.int .u8 (p.kind:Int),.string (Lx.bs p.text),.int .i64 p.n] 29 (0,0))∧Below w.heap.size w w2∧Below wr.heap.size wr w2):=⟨(hb2.block T (row_lt X1.out.1)).trans X1.out.1,X1.out.2.1.trans (hb2.mono X1.out.2.1.size),X1.out.2.2.trans (hb2.mono X1.out.2.2.size)⟩
     clear hb2 CT y0 y1 y2
     have y0:w2.cell? ⟨T,0,none⟩=some (.int .u8 (p.kind:Int)):=by rw[cell_of_row _ _ _ _ _ _ X2.out.1];rfl
     have y1:w2.cell? ⟨T,1,none⟩=some (.string (Lx.bs p.text)):=by rw[cell_of_row _ _ _ _ _ _ X2.out.1];rfl
     have y2:w2.cell? ⟨T,2,none⟩=some (.int .i64 p.n):=by rw[cell_of_row _ _ _ _ _ _ X2.out.1];rfl
     have tl:=row_lt X2.out.1
     have HD:Hid (Below w2.heap.size w2 w2.drew):=(Below.refl _ _).drew
     have CSX:Hid (∀W,Below w2.heap.size w2 W→Calls Tryz.prog 28 #[.agg #[.int .u8 (p.kind:Int),.string (Lx.bs p.text),.int .i64 p.n],.slice (some ⟨gg,0,none⟩) tk 0] W fun e w'=>e=.returned (.string (Lx.bs x))∧Below W.heap.size W w'):=fun W hW=>CS.out W _ _ (X2.out.2.1.trans (hW.mono X2.out.2.1.size)) (by have:=HOC.out;omega) (by decide) (by
      have:st.drop cap=[]:=List.drop_eq_nil_of_le (by have:=HOC.out;have:=HM.out.1;omega)
      rw[this]
      exact SR.nil _ _)
     go_upto_region 9 with fail
     clear vf1 vf2
     go_region_held3 (fun W'=>W'.cell? ⟨T,0,none⟩=some (.int .u8 (p.kind:Int))∧W'.cell? ⟨T,1,none⟩=some (.string (Lx.bs p.text))∧W'.cell? ⟨T,2,none⟩=some (.int .i64 p.n)) (go_keep) (first
      |(go_at_call 28;refine(CSX.out _ HD.out).mono ?_;rintro e w3 ⟨rfl,hb3⟩
        have X3:Hid (Below w.heap.size w w3∧Below wr.heap.size wr w3):=⟨X2.out.2.1.trans ((HD.out.trans (hb3.mono HD.out.size)).mono X2.out.2.1.size),X2.out.2.2.trans ((HD.out.trans (hb3.mono HD.out.size)).mono X2.out.2.2.size)⟩
        have y0:=((HD.out.trans (hb3.mono HD.out.size)).cell (p:=⟨T,0,none⟩) tl).trans y0
        have y1:=((HD.out.trans (hb3.mono HD.out.size)).cell (p:=⟨T,1,none⟩) tl).trans y1
        have y2:=((HD.out.trans (hb3.mono HD.out.size)).cell (p:=⟨T,2,none⟩) tl).trans y2
        clear hb3))
     have SRT:Hid (SrcC w3 (some ⟨gg,0,none⟩) ((st.take cap).map fun x=>Value.string (Lx.bs x))∧(st.take cap).length=cap):=(by
      refine⟨?_,HOC.out.2.2.2.2.2.2⟩
      intro q u hu
      rw[List.getElem?_map] at hu
      cases hq:(st.take cap)[q]? with
      | none=>rw[hq] at hu;cases hu
      | some y =>
       rw[hq] at hu
       cases hu
       obtain⟨g9,o9,e9,c9⟩:=(HOC.out.1.sr.2.2.1.call X3.out.2) q y hq
       exact⟨g9,o9,e9,c9⟩)
     clear y0 y1 y2 tl HD CSX
     go_wp2_with (at_builtin;refine zbF rfl _ _ 50 rfl w.heap.size 9 i0 (.string ⟨#[]⟩) 1 16 Tryz.underlying50 hi hz0 hz1 hz2 rfl (by decide) _ 0 [] rfl (own_none w3 w.heap.size ?b1 9 1) (some ⟨gg,0,none⟩) cap _ ((st.take cap).map fun x=>Value.string (Lx.bs x)) rfl ?b2 ?b3 ?b4 ?b5 ?b6 ?b7 ?_)
     case b1=>exact X3.out.1.size
     case b2=>rw[List.length_map,SRT.out.2,Nat.mul_one]
     case b3=>exact SRT.out.1.call (bnew _ _)
     case b4=>intro u hu;obtain⟨y,_,rfl⟩:=List.mem_map.1 hu;rfl
     case b5=>rw[Nat.zero_add];exact Nat.le_of_succ_le fit63.out
     case b6=>rw[Nat.zero_add];have:=fit47.out;omega
     case b7=>have h1:=X3.out.1.size;simp;omega
     intro b cap5 w5 hown5 hb5 _
     have X5:Hid (OwnT w5 w.heap.size (.slice b cap cap5) (st.take cap)∧w5.ownsRow w.heap.size 9 1 (.slice b cap cap5) cap ((st.take cap).map fun x=>Value.string (Lx.bs x))∧Below w.heap.size w w5):=by
      have hown6:w5.ownsRow w.heap.size 9 1 (.slice b cap cap5) cap ((st.take cap).map fun x=>Value.string (Lx.bs x)):=by
       first
        | exact hown5
        |(rw[List.map_take];exact hown5)
        |(rw[Nat.zero_add,List.nil_append] at hown5;exact hown5)
        |(rw[HST.out.1];exact hown5)
      refine⟨?_,hown6,(X3.out.1.alloc X3.out.1.size _).trans hb5⟩
      unfold OwnT
      rw[SRT.out.2]
      exact hown6
     clear hown5 hb5
     try rw[Nat.zero_add]
     go_wp2_with (at_builtin;refine wpList_append_own _ rfl _ _ 50 rfl w.heap.size 9 i0 (.string ⟨#[]⟩) 1 16 Tryz.underlying50 hi hz0 hz1 hz2 rfl (by decide) _ _ _ rfl (X5.out.2.1.alloc _) ⟨w5.heap.size,0,none⟩ 1 1 [.string (Lx.bs x)] rfl rfl ?c1 ?c2 fit63.out fit47.out ?c5 ?_)
     case c1 =>
      intro j u hj
      match j,hj with
      | 0,hj=>simp at hj;subst hj;simp[Addr.add]
     case c2=>intro u hu;simp at hu;subst hu;rfl
     case c5=>have h1:=X5.out.2.2.size;simp;omega
     intro v' w7 hown7 hgrow7 _
     have I7:Hid (SH l w j1 (st.take cap++[x]) v' w7):=FIN.out w7 v' w5 _ X5.out.1 X5.out.2.2 hgrow7 (by first | exact hown7 | (rw[List.map_take];exact hown7))
     clear hown7 hgrow7
     obtain⟨v1,v2⟩:=HV.out
     go_wp2
     clear v1 v2
     go_roundw
     all_goals first
      |(simp only[intOf];have:=HJ1.out;have:=HP.out;omega)
      | exact⟨j1,_,by have:=HJ1.out;have:=HP.out;omega,rfl,I7.out⟩
      |((repeat apply Exists.intro);exact⟨⟨j1,_,by have:=HJ1.out;have:=HP.out;omega,rfl,I7.out⟩,rfl⟩)
    ·have z0:¬cap=f:=hcf
     go_upto_region 7 with fail
     rw[←hw1,←hT]
     clear hw1 hT c0 c1 c2
     go_wp2_with fail
     refine(CT.out).mono ?_
     rintro e w2 ⟨rfl,hb2⟩
     have X2:Hid (w2.heap[T]?=some (.cells #[.int .u8 (p.kind:Int),.string (Lx.bs p.text),.int .i64 p.n] 29 (0,0))∧Below w.heap.size w w2∧Below wr.heap.size wr w2):=⟨(hb2.block T (row_lt X1.out.1)).trans X1.out.1,X1.out.2.1.trans (hb2.mono X1.out.2.1.size),X1.out.2.2.trans (hb2.mono X1.out.2.2.size)⟩
     clear hb2 CT y0 y1 y2
     have y0:w2.cell? ⟨T,0,none⟩=some (.int .u8 (p.kind:Int)):=by rw[cell_of_row _ _ _ _ _ _ X2.out.1];rfl
     have y1:w2.cell? ⟨T,1,none⟩=some (.string (Lx.bs p.text)):=by rw[cell_of_row _ _ _ _ _ _ X2.out.1];rfl
     have y2:w2.cell? ⟨T,2,none⟩=some (.int .i64 p.n):=by rw[cell_of_row _ _ _ _ _ _ X2.out.1];rfl
     have tl:=row_lt X2.out.1
     have HD:Hid (Below w2.heap.size w2 w2.drew):=(Below.refl _ _).drew
     have CSX:Hid (∀W,Below w2.heap.size w2 W→Calls Tryz.prog 28 #[.agg #[.int .u8 (p.kind:Int),.string (Lx.bs p.text),.int .i64 p.n],.slice (some ⟨gg,f,none⟩) tk (cap - f)] W fun e w'=>e=.returned (.string (Lx.bs x))∧Below W.heap.size W w'):=fun W hW=>CS.out W _ _ (X2.out.2.1.trans (hW.mono X2.out.2.1.size)) (by have:=HOC.out;omega) (by have:=HOC.out;omega) ((HOC.out.2.1.call X2.out.2.2).call hW)
     go_upto_region 9 with fail
     clear vf1 vf2
     go_region_held3 (fun W'=>W'.cell? ⟨T,0,none⟩=some (.int .u8 (p.kind:Int))∧W'.cell? ⟨T,1,none⟩=some (.string (Lx.bs p.text))∧W'.cell? ⟨T,2,none⟩=some (.int .i64 p.n)) (go_keep) (first
      |(go_at_call 28;refine(CSX.out _ HD.out).mono ?_;rintro e w3 ⟨rfl,hb3⟩
        have X3:Hid (Below w.heap.size w w3∧Below wr.heap.size wr w3):=⟨X2.out.2.1.trans ((HD.out.trans (hb3.mono HD.out.size)).mono X2.out.2.1.size),X2.out.2.2.trans ((HD.out.trans (hb3.mono HD.out.size)).mono X2.out.2.2.size)⟩
        have y0:=((HD.out.trans (hb3.mono HD.out.size)).cell (p:=⟨T,0,none⟩) tl).trans y0
        have y1:=((HD.out.trans (hb3.mono HD.out.size)).cell (p:=⟨T,1,none⟩) tl).trans y1
        have y2:=((HD.out.trans (hb3.mono HD.out.size)).cell (p:=⟨T,2,none⟩) tl).trans y2
        clear hb3))
     have SRT:Hid (SrcC w3 (some ⟨gg,0,none⟩) ((st.take f).map fun x=>Value.string (Lx.bs x))∧(st.take f).length=f):=(by
      refine⟨?_,HOC.out.2.2.2.2.2.2⟩
      intro q u hu
      rw[List.getElem?_map] at hu
      cases hq:(st.take f)[q]? with
      | none=>rw[hq] at hu;cases hu
      | some y =>
       rw[hq] at hu
       cases hu
       obtain⟨g9,o9,e9,c9⟩:=(HOC.out.1.sr.2.2.1.call X3.out.2) q y hq
       exact⟨g9,o9,e9,c9⟩)
     clear y0 y1 y2 tl HD CSX
     go_wp2_with (at_builtin;refine zbF rfl _ _ 50 rfl w.heap.size 9 i0 (.string ⟨#[]⟩) 1 16 Tryz.underlying50 hi hz0 hz1 hz2 rfl (by decide) _ 0 [] rfl (own_none w3 w.heap.size ?b1 9 1) (some ⟨gg,0,none⟩) f _ ((st.take f).map fun x=>Value.string (Lx.bs x)) rfl ?b2 ?b3 ?b4 ?b5 ?b6 ?b7 ?_)
     case b1=>exact X3.out.1.size
     case b2=>rw[List.length_map,SRT.out.2,Nat.mul_one]
     case b3=>exact SRT.out.1.call (bnew _ _)
     case b4=>intro u hu;obtain⟨y,_,rfl⟩:=List.mem_map.1 hu;rfl
     case b5=>rw[Nat.zero_add];exact Nat.le_of_succ_le fit63.out
     case b6=>rw[Nat.zero_add];have:=fit47.out;omega
     case b7=>have h1:=X3.out.1.size;simp;omega
     intro b cap5 w5 hown5 hb5 _
     have X5:Hid (OwnT w5 w.heap.size (.slice b f cap5) (st.take f)∧w5.ownsRow w.heap.size 9 1 (.slice b f cap5) f ((st.take f).map fun x=>Value.string (Lx.bs x))∧Below w.heap.size w w5):=by
      have hown6:w5.ownsRow w.heap.size 9 1 (.slice b f cap5) f ((st.take f).map fun x=>Value.string (Lx.bs x)):=by
       first
        | exact hown5
        |(rw[List.map_take];exact hown5)
        |(rw[Nat.zero_add,List.nil_append] at hown5;exact hown5)
        |(rw[HST.out.1];exact hown5)
      refine⟨?_,hown6,(X3.out.1.alloc X3.out.1.size _).trans hb5⟩
      unfold OwnT
      rw[SRT.out.2]
      exact hown6
     clear hown5 hb5
     try rw[Nat.zero_add]
     go_wp2_with (at_builtin;refine wpList_append_own _ rfl _ _ 50 rfl w.heap.size 9 i0 (.string ⟨#[]⟩) 1 16 Tryz.underlying50 hi hz0 hz1 hz2 rfl (by decide) _ _ _ rfl (X5.out.2.1.alloc _) ⟨w5.heap.size,0,none⟩ 1 1 [.string (Lx.bs x)] rfl rfl ?c1 ?c2 fit63.out fit47.out ?c5 ?_)
     case c1 =>
      intro j u hj
      match j,hj with
      | 0,hj=>simp at hj;subst hj;simp[Addr.add]
     case c2=>intro u hu;simp at hu;subst hu;rfl
     case c5=>have h1:=X5.out.2.2.size;simp;omega
     intro v' w7 hown7 hgrow7 _
     have I7:Hid (SH l w j1 (st.take f++[x]) v' w7):=FIN.out w7 v' w5 _ X5.out.1 X5.out.2.2 hgrow7 (by first | exact hown7 | (rw[List.map_take];exact hown7))
     clear hown7 hgrow7
     obtain⟨v1,v2⟩:=HV.out
     go_wp2
     clear v1 v2
     go_roundw
     all_goals first
      |(simp only[intOf];have:=HJ1.out;have:=HP.out;omega)
      | exact⟨j1,_,by have:=HJ1.out;have:=HP.out;omega,rfl,I7.out⟩
      |((repeat apply Exists.intro);exact⟨⟨j1,_,by have:=HJ1.out;have:=HP.out;omega,rfl,I7.out⟩,rfl⟩)
  ·have q0:¬(j:Int)<(n:Int):=by omega
   have HE:Hid (∃x,st=[x]∧shownE l=x):=by
    have h1:=HI.out.right
    have h2:=HI.out.stack
    rw[List.drop_eq_nil_of_le (by have:=HS.out;omega)] at h1 h2
    rw[rightL,decide_eq_true_iff] at h1
    match st,h1,h2 with
    | [x],_,h2=>exact⟨x,rfl,by rw[shownE,h2,stackL];rfl⟩
   obtain⟨x,hst,hsh⟩:=HE.out
   obtain⟨ga,gc,hv⟩:=HI.out.own.form
   have ho:=HI.out.own
   rw[hv] at ho
   obtain⟨o1,o2,o3,o4⟩:=ho.sr
   subst hst
   obtain⟨g1,o1',e1,cx⟩:=o3 0 x rfl
   rw[Nat.add_zero] at cx
   subst hv e1
   have HF:Hid (shownE l=x∧Below w.heap.size w wr):=⟨hsh,HI.out.below⟩
   clear hsh ho o1 o2 o3 o4 hlt hj hm HM HI HE
   go_wp2
   go_ret2
   exact⟨by rw[HF.out.1];rfl,HF.out.2⟩
end Ps
end Go.Proofs.YtfhkaffakniioaaGreatDoor
namespace Go.Proofs.YtfhkaffakniioaaGreatDoor
open Go.RowKit
namespace Ps
theorem rshowE_c (l:List Sp) (a:Option Addr) (n c:Nat) (w:World) (hn:n=l.length) (hs:Sts w a l) (hf:∀p∈l,fitS p) (hS:SmallE l) (hL:HasL w) (hO:HasO w):Calls Tryz.prog 10 #[.slice a n c] w fun e w'=>e=.returned (.tuple #[.string (Lx.bs (if rightE l=true then shownE l else [])),.int .i64 (if rightE l=true then 0 else 13)])∧Below w.heap.size w w':=by
 by_cases hr:rightE l=true
 ·rw[if_pos hr,if_pos hr]
  exact rshowT_c l a n c w hr hn hs hf hS.text hL hO
 ·rw[if_neg hr,if_neg hr]
  have CRR:Hid (Calls Tryz.prog 17 #[.slice a n c] w fun e w'=>e=.returned (.bool false)∧Below w.heap.size w w'):=by
   have h:=zdJ l a n c w hn (by rw[hn];exact hS.len) hs hS.text
   rw[eq_false_of_ne_true hr] at h
   exact h
  clear hn hs hf hS hL hO hr
  go_enter Tryz.func10,Tryz.ntmps10
  go_wp2_with fail
  refine(CRR.out).mono ?_
  rintro e w0 ⟨rfl,hb0⟩
  have X0:=hidp hb0
  clear hb0 CRR
  go_wp2
  go_ret2
  exact⟨rfl,X0.out⟩
theorem itemsTx_at {set:Bool} {l:List It} {j:Nat} {i:It} (h:l[j]?=some i):(zaF set l)[j]?=some (if set then i.name++[32,61,32]++shownE i.expr else shownE i.expr++[32,65,83,32]++i.name):=by
 rw[zaF,List.getElem?_map,h]
 rfl
theorem rlisted_c (l:List It) (a:Option Addr) (n c:Nat) (set:Bool) (w:World) (hn:n=l.length) (hr:zaK l=true) (hI:Itm w a l) (hf:∀i∈l,fitE i.expr) (hS:∀i∈l,SmallE i.expr) (hL:HasL w) (hO:HasO w):Calls Tryz.prog 25 #[.slice a n c,.bool set] w fun e w'=>e=.returned (.string (Lx.bs (join [44,32] (zaF set l))))∧Below w.heap.size w w':=by
 have hr0:=hr
 rw[zaK,Bool.and_eq_true,Bool.and_eq_true,decide_eq_true_iff,List.all_eq_true] at hr
 obtain⟨⟨h64,hre⟩,hnn⟩:=hr
 obtain⟨its,hits⟩:∃x,x=zaF set l:=⟨_,rfl⟩
 have hib:∀x∈its,x.length≤600000:=fun x hx=>by
  rw[hits,zaF] at hx
  obtain⟨i,hi,rfl⟩:=List.mem_map.1 hx
  have h1:=zbC (hre i hi) (hf i hi).2
  have h2:=nm_len (zdB _ _ hnn _ (List.mem_map_of_mem hi))
  cases set with
  | true =>
   rw[if_pos rfl,List.length_append,List.length_append]
   show _+3+_≤_
   omega
  | false =>
   rw[if_neg (by decide),List.length_append,List.length_append]
   show _+4+_≤_
   omega
 have hil:its.length=n:=by rw[hits,zaF,List.length_map,hn]
 have HS:Hid (n=l.length∧n≤64∧Itm w a l∧its.length=n∧(∀x∈its,x.length≤600000)∧its=zaF set l):=⟨hn,by omega,hI,hil,hib,hits⟩
 have HB:Hid (∀i∈l,(shownE i.expr).length≤576000∧i.name.length≤64):=fun i hi=>⟨zbC (hre i hi) (hf i hi).2,nm_len (zdB _ _ hnn _ (List.mem_map_of_mem hi))⟩
 have HJL:Hid (∀j,j≤n→(join [44,32] (its.take j)).length≤80000000):=fun j hj=>by
  have h1:=zbK [44,32] (its.take j)
  have h2:=zbL (its.take j) 600000 (fun x hx=>hib x (List.mem_of_mem_take hx))
  have h3:(its.take j).length≤64:=by rw[List.length_take];omega
  have h4:(its.take j).length*600000≤64*600000:=Nat.mul_le_mul_right _ h3
  have h5:[(44:UInt8),32].length*(its.take j).length=2*(its.take j).length:=rfl
  omega
 have HALL:Hid (its.take n=its):=List.take_of_length_le (by omega)
 have CS:Hid (∀i∈l,∀W ea ec,Below w.heap.size w W→Sts W ea i.expr→Calls Tryz.prog 10 #[.slice ea i.expr.length ec] W fun e w'=>e=.returned (.tuple #[.string (Lx.bs (shownE i.expr)),.int .i64 0])∧Below W.heap.size W w'):=fun i hi W ea ec hW hs=>rshowT_c i.expr ea _ ec W (hre i hi) rfl hs (hf i hi).2 (hS i hi).text (hL.stays hW) (hO.stays hW)
 rw[←hits]
 clear hn hr0 h64 hre hnn hI hf hS hL hO hits hib hil
 go_enter Tryz.func25,Tryz.ntmps25
 go_wp2
 go_loopw [5,12] (fun v i wr=>∃j:Nat,j≤n∧i=.int .i64 j∧v=.string (Lx.bs (join [44,32] (its.take j)))∧Hid (Below w.heap.size w wr)) (fun _ i _=>n - (intOf i).toNat)
 case atStart=>exact⟨0,Nat.zero_le _,rfl,rfl,Below.refl _ _⟩
 case round =>
  obtain⟨j,hj,rfl,rfl,HI⟩:=hrel
  by_cases hlt:j<n
  ·have q0:(j:Int)<(n:Int):=by omega
   have q1:(0:Int)≤(j:Int):=by omega
   obtain⟨i,hi⟩:∃x,l[j]?=some x:=⟨_,List.getElem?_eq_getElem (by have:=HS.out.1;omega)⟩
   obtain⟨g,o,ea,ec,rfl,c0,c1,hsts⟩:=(HS.out.2.2.1.call HI.out) j i hi
   have hix:=itemsTx_at (set:=set) hi
   rw[←HS.out.2.2.2.2.2] at hix
   have JT:=zdO [44,32] its j _ hix
   have jl:=HJL.out j (by omega)
   obtain⟨bl1,bl2⟩:=HB.out i (List.mem_of_getElem? hi)
   obtain⟨j1,hj1⟩:∃j1,j1=j+1:=⟨_,rfl⟩
   have HJ1:Hid (j1=j+1∧j<n):=⟨hj1,hlt⟩
   have HV:Hid (IntKind.i64.wrap ((j:Int)+1)=(j1:Int)∧wrap64 ((j:Int)+1)=(j1:Int)):=wrp (by omega) (by have:=HS.out.2.1;omega)
   obtain⟨r,hr⟩:∃r,r=join [44,32] (its.take j):=⟨_,rfl⟩
   rw[←hr] at JT jl ⊢
   obtain⟨x,hx⟩:∃x,x=shownE i.expr:=⟨_,rfl⟩
   have CI:=hidp (CS.out i (List.mem_of_getElem? hi))
   rw[←hx] at JT CI bl1
   obtain⟨nm,hnm⟩:∃x,x=i.name:=⟨_,rfl⟩
   rw[←hnm] at JT c0 bl2
   obtain⟨m,hm⟩:∃x,x=i.expr.length:=⟨_,rfl⟩
   rw[←hm] at c1 CI
   obtain⟨w1,hw1⟩:∃w1,w1=wr.alloc (.cells #[.string (Lx.bs nm),.slice ea m ec] 43):=⟨_,rfl⟩
   obtain⟨T,hT⟩:∃T,T=wr.heap.size:=⟨_,rfl⟩
   have X1:Hid (w1.heap[T]?=some (.cells #[.string (Lx.bs nm),.slice ea m ec] 43 (0,0))∧Below w.heap.size w w1∧Below wr.heap.size wr w1):=⟨by rw[hw1,hT];exact heap_alloc_new wr _,by rw[hw1];exact HI.out.alloc HI.out.size _,by rw[hw1];exact bnew _ _⟩
   have y1:w1.cell? ⟨T,1,none⟩=some (.slice ea m ec):=by rw[cell_of_row _ _ _ _ _ _ X1.out.1];rfl
   have CI1:=hidp (CI.out w1 ea ec X1.out.2.1 (hsts.call X1.out.2.2))
   -- what stands ahead of the item
   obtain⟨p,hp⟩:∃p,p=(if j=0 then [] else r++[44,32]):=⟨_,rfl⟩
   rw[←hp] at JT
   have pl:p.length≤80000002:=by
    rw[hp]
    split
    ·exact Nat.zero_le _
    ·rw[List.length_append]
     show _+2≤_
     omega
   have ap:¬j=0→∀W,(Op.stringOp .add (Lx.bs r) ⟨#[44,32]⟩).run Tryz.prog W=.ok (.string (Lx.bs p)) W:=fun h0=>by
    rw[hp,if_neg h0]
    exact add_s (a:=Lx.bs r) (b:=⟨#[44,32]⟩) (x:=r) (y:=[44,32]) rfl rfl (by show _+2≤_;omega)
   have rp:j=0→r=p:=fun h0=>by rw[hp,if_pos h0,hr,h0];rfl
   have HSM:Hid (x=shownE i.expr):=hx
   clear hx hnm hm hi hsts hix hr hj
   cases set with
   | true =>
    rw[if_pos rfl] at JT
    have b1:=add_s (a:=Lx.bs nm) (b:=⟨#[32,61,32]⟩) (x:=nm) (y:=[32,61,32]) rfl rfl (by show _+3≤_;omega)
    obtain⟨u1,hu1⟩:∃z,z=Lx.bs (nm++[32,61,32]):=⟨_,rfl⟩
    rw[←hu1] at b1
    have b2:=add_s (a:=u1) (b:=Lx.bs x) (x:=nm++[32,61,32]) (y:=x) hu1 rfl (by rw[List.length_append];show _+3+_≤_;omega)
    obtain⟨u2,hu2⟩:∃z,z=Lx.bs (nm++[32,61,32]++x):=⟨_,rfl⟩
    rw[←hu2] at b2
    have b3:=add_s (a:=Lx.bs p) (b:=u2) (x:=p) (y:=nm++[32,61,32]++x) rfl hu2 (by rw[List.length_append,List.length_append];show _+(_+3+_)≤_;omega)
    have HU:Hid (Lx.bs (p++(nm++[32,61,32]++x))=Lx.bs (join [44,32] (its.take j1))):=by show _=_;rw[hj1,JT]
    obtain⟨u3,hu3⟩:∃z,z=Lx.bs (p++(nm++[32,61,32]++x)):=⟨_,rfl⟩
    rw[←hu3] at b3 HU
    obtain⟨sx,hsx⟩:∃z,z=Lx.bs x:=⟨_,rfl⟩
    obtain⟨sn,hsn⟩:∃z,z=Lx.bs nm:=⟨_,rfl⟩
    obtain⟨sp,hsp⟩:∃z,z=Lx.bs p:=⟨_,rfl⟩
    rw[←hsx] at b2 CI1
    rw[←hsn] at b1 c0 X1 hw1
    rw[←hsp] at b3 ap
    by_cases h0:j=0
    ·have q2:¬(0:Int)<(j:Int):=by omega
     have hrp:=rp h0
     rw[hrp,←hsp]
     clear hu1 hu2 hu3 hsx hsn hsp bl1 bl2 pl jl JT hp hj1 hrp ap rp h0 hlt
     go_upto_region 7 with fail
     rw[←hw1,←hT]
     clear hw1 hT c0 c1
     go_wp2_with fail
     refine(CI1.out).mono ?_
     rintro e w2 ⟨rfl,hb2⟩
     have X2:Hid (Below w.heap.size w w2):=X1.out.2.1.trans (hb2.mono X1.out.2.1.size)
     have y0:w2.cell? ⟨T,0,none⟩=some (.string sn):=by rw[cell_of_row _ _ _ _ _ _ ((hb2.block T (row_lt X1.out.1)).trans X1.out.1)];rfl
     clear hb2 CI1 y1
     obtain⟨v1,v2⟩:=HV.out
     go_wp2
     clear v1 v2
     go_roundw
     all_goals first
      |(simp only[intOf];have:=HJ1.out;omega)
      | exact⟨j1,by have:=HJ1.out;omega,rfl,by rw[HU.out],X2.out⟩
      |((repeat apply Exists.intro);exact⟨⟨j1,by have:=HJ1.out;omega,rfl,by rw[HU.out],X2.out⟩,rfl⟩)
    ·have q2:(0:Int)<(j:Int):=by omega
     have hap:=ap h0
     obtain⟨sr,hsr⟩:∃z,z=Lx.bs r:=⟨_,rfl⟩
     rw[←hsr] at hap ⊢
     clear hu1 hu2 hu3 hsx hsn hsp hsr bl1 bl2 pl jl JT hp hj1 ap rp h0 hlt
     go_upto_region 7 with fail
     rw[←hw1,←hT]
     clear hw1 hT c0 c1
     go_wp2_with fail
     refine(CI1.out).mono ?_
     rintro e w2 ⟨rfl,hb2⟩
     have X2:Hid (Below w.heap.size w w2):=X1.out.2.1.trans (hb2.mono X1.out.2.1.size)
     have y0:w2.cell? ⟨T,0,none⟩=some (.string sn):=by rw[cell_of_row _ _ _ _ _ _ ((hb2.block T (row_lt X1.out.1)).trans X1.out.1)];rfl
     clear hb2 CI1 y1
     obtain⟨v1,v2⟩:=HV.out
     go_wp2
     clear v1 v2
     go_roundw
     all_goals first
      |(simp only[intOf];have:=HJ1.out;omega)
      | exact⟨j1,by have:=HJ1.out;omega,rfl,by rw[HU.out],X2.out⟩
      |((repeat apply Exists.intro);exact⟨⟨j1,by have:=HJ1.out;omega,rfl,by rw[HU.out],X2.out⟩,rfl⟩)
   | false =>
    rw[if_neg (by decide)] at JT
    have b1:=add_s (a:=Lx.bs x) (b:=⟨#[32,65,83,32]⟩) (x:=x) (y:=[32,65,83,32]) rfl rfl (by show _+4≤_;omega)
    obtain⟨u1,hu1⟩:∃z,z=Lx.bs (x++[32,65,83,32]):=⟨_,rfl⟩
    rw[←hu1] at b1
    have b2:=add_s (a:=u1) (b:=Lx.bs nm) (x:=x++[32,65,83,32]) (y:=nm) hu1 rfl (by rw[List.length_append];show _+4+_≤_;omega)
    obtain⟨u2,hu2⟩:∃z,z=Lx.bs (x++[32,65,83,32]++nm):=⟨_,rfl⟩
    rw[←hu2] at b2
    have b3:=add_s (a:=Lx.bs p) (b:=u2) (x:=p) (y:=x++[32,65,83,32]++nm) rfl hu2 (by rw[List.length_append,List.length_append];show _+(_+4+_)≤_;omega)
    have HU:Hid (Lx.bs (p++(x++[32,65,83,32]++nm))=Lx.bs (join [44,32] (its.take j1))):=by show _=_;rw[hj1,JT]
    obtain⟨u3,hu3⟩:∃z,z=Lx.bs (p++(x++[32,65,83,32]++nm)):=⟨_,rfl⟩
    rw[←hu3] at b3 HU
    obtain⟨sx,hsx⟩:∃z,z=Lx.bs x:=⟨_,rfl⟩
    obtain⟨sn,hsn⟩:∃z,z=Lx.bs nm:=⟨_,rfl⟩
    obtain⟨sp,hsp⟩:∃z,z=Lx.bs p:=⟨_,rfl⟩
    rw[←hsx] at b1 CI1
    rw[←hsn] at b2 c0 X1 hw1
    rw[←hsp] at b3 ap
    by_cases h0:j=0
    ·have q2:¬(0:Int)<(j:Int):=by omega
     have hrp:=rp h0
     rw[hrp,←hsp]
     clear hu1 hu2 hu3 hsx hsn hsp bl1 bl2 pl jl JT hp hj1 hrp ap rp h0 hlt
     go_upto_region 7 with fail
     rw[←hw1,←hT]
     clear hw1 hT c0 c1
     go_wp2_with fail
     refine(CI1.out).mono ?_
     rintro e w2 ⟨rfl,hb2⟩
     have X2:Hid (Below w.heap.size w w2):=X1.out.2.1.trans (hb2.mono X1.out.2.1.size)
     have y0:w2.cell? ⟨T,0,none⟩=some (.string sn):=by rw[cell_of_row _ _ _ _ _ _ ((hb2.block T (row_lt X1.out.1)).trans X1.out.1)];rfl
     clear hb2 CI1 y1
     obtain⟨v1,v2⟩:=HV.out
     go_wp2
     clear v1 v2
     go_roundw
     all_goals first
      |(simp only[intOf];have:=HJ1.out;omega)
      | exact⟨j1,by have:=HJ1.out;omega,rfl,by rw[HU.out],X2.out⟩
      |((repeat apply Exists.intro);exact⟨⟨j1,by have:=HJ1.out;omega,rfl,by rw[HU.out],X2.out⟩,rfl⟩)
    ·have q2:(0:Int)<(j:Int):=by omega
     have hap:=ap h0
     obtain⟨sr,hsr⟩:∃z,z=Lx.bs r:=⟨_,rfl⟩
     rw[←hsr] at hap ⊢
     clear hu1 hu2 hu3 hsx hsn hsp hsr bl1 bl2 pl jl JT hp hj1 ap rp h0 hlt
     go_upto_region 7 with fail
     rw[←hw1,←hT]
     clear hw1 hT c0 c1
     go_wp2_with fail
     refine(CI1.out).mono ?_
     rintro e w2 ⟨rfl,hb2⟩
     have X2:Hid (Below w.heap.size w w2):=X1.out.2.1.trans (hb2.mono X1.out.2.1.size)
     have y0:w2.cell? ⟨T,0,none⟩=some (.string sn):=by rw[cell_of_row _ _ _ _ _ _ ((hb2.block T (row_lt X1.out.1)).trans X1.out.1)];rfl
     clear hb2 CI1 y1
     obtain⟨v1,v2⟩:=HV.out
     go_wp2
     clear v1 v2
     go_roundw
     all_goals first
      |(simp only[intOf];have:=HJ1.out;omega)
      | exact⟨j1,by have:=HJ1.out;omega,rfl,by rw[HU.out],X2.out⟩
      |((repeat apply Exists.intro);exact⟨⟨j1,by have:=HJ1.out;omega,rfl,by rw[HU.out],X2.out⟩,rfl⟩)
  ·have q0:¬(j:Int)<(n:Int):=by omega
   have hjn:j=n:=by omega
   rw[hjn,HALL.out]
   clear hjn hlt hj
   go_wp2
   go_ret
   exact⟨rfl,HI.out⟩
end Ps
end Go.Proofs.YtfhkaffakniioaaGreatDoor
namespace Go.Proofs.YtfhkaffakniioaaGreatDoor
open Go.RowKit
namespace Ps
theorem rpr1_c (t f et li:Bs) (n m:Nat) (ia ea:Option Addr) (ic ec:Nat) (h d:Bool) (tb fb:ByteArray) (r:Int) (w:World) (htb:tb=Lx.bs t) (hfb:fb=Lx.bs f) (bt:t.length≤1048576) (bf:f.length≤1048576) (be:et.length≤576000) (bli:li.length≤80000000)
  (hK:∀W,Below w.heap.size w W→Calls Tryz.prog 15 #[.agg #[.int .u8 1,.string tb,.string fb,.slice ia n ic,.slice ea m ec,.bool h,.bool d]] W fun e w'=>e=.returned (.int .i64 0)∧Below W.heap.size W w')
  (hE:∀W,Below w.heap.size w W→Calls Tryz.prog 10 #[.slice ea m ec] W fun e w'=>e=.returned (.tuple #[.string (Lx.bs et),.int .i64 r])∧Below W.heap.size W w')
  (hI:∀W,Below w.heap.size w W→Calls Tryz.prog 25 #[.slice ia n ic,.bool false] W fun e w'=>e=.returned (.string (Lx.bs li))∧Below W.heap.size W w') :
  Calls Tryz.prog 8 #[.agg #[.int .u8 1,.string tb,.string fb,.slice ia n ic,.slice ea m ec,.bool h,.bool d]] w fun e w'=>e=.returned (.tuple #[.string (Lx.bs ([67,82,69,65,84,69,32,84,65,66,76,69,32]++t)),.int .i64 0])∧Below w.heap.size w w':=by
 obtain⟨rb,hrb⟩:∃z,z=Lx.bs ([67,82,69,65,84,69,32,84,65,66,76,69,32]++t):=⟨_,rfl⟩
 rw[←hrb]
 have HR:=hidp hrb
 clear hrb
 obtain⟨w1,hw1⟩:∃w1,w1=w.alloc (.cells #[.int .u8 1,.string tb,.string fb,.slice ia n ic,.slice ea m ec,.bool h,.bool d] 26):=⟨_,rfl⟩
 obtain⟨T,hT⟩:∃T,T=w.heap.size:=⟨_,rfl⟩
 have X1:Hid (w1.heap[T]?=some (.cells #[.int .u8 1,.string tb,.string fb,.slice ia n ic,.slice ea m ec,.bool h,.bool d] 26 (0,0))∧Below w.heap.size w w1):=⟨by rw[hw1,hT];exact heap_alloc_new w _,by rw[hw1];exact bnew _ _⟩
 have YA:Hid (∀W,Below w1.heap.size w1 W→W.cell? ⟨T,0,none⟩=some (.int .u8 1)∧W.cell? ⟨T,1,none⟩=some (.string tb)∧W.cell? ⟨T,2,none⟩=some (.string fb)∧W.cell? ⟨T,3,none⟩=some (.slice ia n ic)∧W.cell? ⟨T,4,none⟩=some (.slice ea m ec)∧W.cell? ⟨T,5,none⟩=some (.bool h)∧W.cell? ⟨T,6,none⟩=some (.bool d)):=fun W hW=>by
  have q:=(hW.block T (row_lt X1.out.1)).trans X1.out.1
  exact⟨by rw[cell_of_row _ _ _ _ _ _ q];rfl,by rw[cell_of_row _ _ _ _ _ _ q];rfl,by rw[cell_of_row _ _ _ _ _ _ q];rfl,by rw[cell_of_row _ _ _ _ _ _ q];rfl,by rw[cell_of_row _ _ _ _ _ _ q];rfl,by rw[cell_of_row _ _ _ _ _ _ q];rfl,by rw[cell_of_row _ _ _ _ _ _ q];rfl⟩
 have HK:=hidp (fun W (hW:Below w1.heap.size w1 W)=>hK W (X1.out.2.trans (hW.mono X1.out.2.size)))
 have HE:=hidp (fun W (hW:Below w1.heap.size w1 W)=>hE W (X1.out.2.trans (hW.mono X1.out.2.size)))
 have HI:=hidp (fun W (hW:Below w1.heap.size w1 W)=>hI W (X1.out.2.trans (hW.mono X1.out.2.size)))
 obtain⟨eb,heb⟩:∃z,z=Lx.bs et:=⟨_,rfl⟩
 obtain⟨lb,hlb⟩:∃z,z=Lx.bs li:=⟨_,rfl⟩
 rw[←heb] at HE
 rw[←hlb] at HI
 have HBY:Hid (tb=Lx.bs t∧fb=Lx.bs f∧eb=Lx.bs et∧lb=Lx.bs li∧t.length≤1048576∧f.length≤1048576∧et.length≤576000∧li.length≤80000000):=⟨htb,hfb,heb,hlb,bt,bf,be,bli⟩
 obtain⟨wh,hwh⟩:∃z:Bs,z=(if m=0 then [] else [32,87,72,69,82,69,32]++et):=⟨_,rfl⟩
 obtain⟨wb,hwb⟩:∃z,z=Lx.bs wh:=⟨_,rfl⟩
 have HWH:Hid (wh=(if m=0 then [] else [32,87,72,69,82,69,32]++et)∧wb=Lx.bs wh∧wh.length≤600000):=⟨hwh,hwb,by
  rw[hwh]
  split
  ·exact Nat.zero_le _
  ·rw[List.length_append]
   show 7+_≤_
   omega⟩
 obtain⟨y0,y1,y2,y3,y4,y5,y6⟩:=YA.out w1 (Below.refl _ _)
 have CK:=hidp (HK.out w1 (Below.refl _ _))
 clear hK hE hI heb hlb htb hfb bt bf be bli hwh hwb HK
 go_enter Tryz.func8,Tryz.ntmps8
 go_upto_region 1 with fail
 rw[←hw1,←hT]
 clear hw1 hT
 go_wp2_with fail
 refine(CK.out).mono ?_
 rintro e w2 ⟨rfl,hb2⟩
 have X2:=hidp hb2
 clear hb2 CK y0 y1 y2 y3 y4 y5 y6
 obtain⟨y0,y1,y2,y3,y4,y5,y6⟩:=YA.out w2 X2.out
 have CE:=hidp (HE.out w2 X2.out)
 go_wp2_with fail
 refine(CE.out).mono ?_
 rintro e w3 ⟨rfl,hb3⟩
 have X3:Hid (Below w1.heap.size w1 w3):=X2.out.trans (hb3.mono X2.out.size)
 clear hb3 CE HE y0 y1 y2 y3 y4 y5 y6
 obtain⟨y0,y1,y2,y3,y4,y5,y6⟩:=YA.out w3 X3.out
 go_upto_if 23 with fail
 go_cut [7] from 9 to 109 (fun s7 wx=>s7=.string wb∧wx=w3)
 case first =>
  by_cases hm:m=0
  ·have q0:¬(0:Int)<(m:Int):=by omega
   have e1:wb=⟨#[]⟩:=by rw[HWH.out.2.1,HWH.out.1,if_pos hm];rfl
   clear hm
   go_wp2
   go_meet
   exact⟨by rw[e1],rfl⟩
  ·have q0:(0:Int)<(m:Int):=by omega
   have fw:∀W,(Op.stringOp .add ⟨#[32,87,72,69,82,69,32]⟩ eb).run Tryz.prog W=.ok (.string wb) W:=fun W=>by
    rw[HWH.out.2.1,HWH.out.1,if_neg hm]
    have:=HBY.out.2.2.2.2.2.2.1
    exact add_s (x:=[32,87,72,69,82,69,32]) (y:=et) rfl HBY.out.2.2.1 (by show 7+_≤_;omega) W
   clear hm
   go_wp2
   go_meet
   exact⟨rfl,rfl⟩
 case rest =>
 obtain⟨rfl,rfl⟩:=hcut
 obtain⟨gt,gf,ge,gl,bt,bf,be,bli⟩:=HBY.out
 obtain⟨_,gw,bw⟩:=HWH.out
 have fz1:=add_s (a:=⟨#[67,82,69,65,84,69,32,84,65,66,76,69,32]⟩) (b:=tb) (x:=[67,82,69,65,84,69,32,84,65,66,76,69,32]) (y:=t) rfl gt (by simp only[List.length_cons,List.length_nil];omega)
 obtain⟨z1,hz1⟩:∃z,z=Lx.bs ([67,82,69,65,84,69,32,84,65,66,76,69,32]++t):=⟨_,rfl⟩
 rw[←hz1] at fz1
 have HZ:=hidp hz1
 clear hz1 gt gf ge gl bt bf be bli gw bw
 go_wp2
 go_ret2
 exact⟨by show Ending.returned (Value.tuple #[.string z1,.int .i64 0])=_;rw[HZ.out,HR.out],X1.out.2.trans (X3.out.mono X1.out.2.size)⟩
theorem rpr2_c (t f et li:Bs) (n m:Nat) (ia ea:Option Addr) (ic ec:Nat) (h d:Bool) (tb fb:ByteArray) (r:Int) (w:World) (htb:tb=Lx.bs t) (hfb:fb=Lx.bs f) (bt:t.length≤1048576) (bf:f.length≤1048576) (be:et.length≤576000) (bli:li.length≤80000000)
  (hK:∀W,Below w.heap.size w W→Calls Tryz.prog 15 #[.agg #[.int .u8 2,.string tb,.string fb,.slice ia n ic,.slice ea m ec,.bool h,.bool d]] W fun e w'=>e=.returned (.int .i64 0)∧Below W.heap.size W w')
  (hE:∀W,Below w.heap.size w W→Calls Tryz.prog 10 #[.slice ea m ec] W fun e w'=>e=.returned (.tuple #[.string (Lx.bs et),.int .i64 r])∧Below W.heap.size W w')
  (hI:∀W,Below w.heap.size w W→Calls Tryz.prog 25 #[.slice ia n ic,.bool false] W fun e w'=>e=.returned (.string (Lx.bs li))∧Below W.heap.size W w') :
  Calls Tryz.prog 8 #[.agg #[.int .u8 2,.string tb,.string fb,.slice ia n ic,.slice ea m ec,.bool h,.bool d]] w fun e w'=>e=.returned (.tuple #[.string (Lx.bs ([67,82,69,65,84,69,32,73,78,68,69,88,32,79,78,32]++t++[32,40]++f++[41])),.int .i64 0])∧Below w.heap.size w w':=by
 obtain⟨rb,hrb⟩:∃z,z=Lx.bs ([67,82,69,65,84,69,32,73,78,68,69,88,32,79,78,32]++t++[32,40]++f++[41]):=⟨_,rfl⟩
 rw[←hrb]
 have HR:=hidp hrb
 clear hrb
 obtain⟨w1,hw1⟩:∃w1,w1=w.alloc (.cells #[.int .u8 2,.string tb,.string fb,.slice ia n ic,.slice ea m ec,.bool h,.bool d] 26):=⟨_,rfl⟩
 obtain⟨T,hT⟩:∃T,T=w.heap.size:=⟨_,rfl⟩
 have X1:Hid (w1.heap[T]?=some (.cells #[.int .u8 2,.string tb,.string fb,.slice ia n ic,.slice ea m ec,.bool h,.bool d] 26 (0,0))∧Below w.heap.size w w1):=⟨by rw[hw1,hT];exact heap_alloc_new w _,by rw[hw1];exact bnew _ _⟩
 have YA:Hid (∀W,Below w1.heap.size w1 W→W.cell? ⟨T,0,none⟩=some (.int .u8 2)∧W.cell? ⟨T,1,none⟩=some (.string tb)∧W.cell? ⟨T,2,none⟩=some (.string fb)∧W.cell? ⟨T,3,none⟩=some (.slice ia n ic)∧W.cell? ⟨T,4,none⟩=some (.slice ea m ec)∧W.cell? ⟨T,5,none⟩=some (.bool h)∧W.cell? ⟨T,6,none⟩=some (.bool d)):=fun W hW=>by
  have q:=(hW.block T (row_lt X1.out.1)).trans X1.out.1
  exact⟨by rw[cell_of_row _ _ _ _ _ _ q];rfl,by rw[cell_of_row _ _ _ _ _ _ q];rfl,by rw[cell_of_row _ _ _ _ _ _ q];rfl,by rw[cell_of_row _ _ _ _ _ _ q];rfl,by rw[cell_of_row _ _ _ _ _ _ q];rfl,by rw[cell_of_row _ _ _ _ _ _ q];rfl,by rw[cell_of_row _ _ _ _ _ _ q];rfl⟩
 have HK:=hidp (fun W (hW:Below w1.heap.size w1 W)=>hK W (X1.out.2.trans (hW.mono X1.out.2.size)))
 have HE:=hidp (fun W (hW:Below w1.heap.size w1 W)=>hE W (X1.out.2.trans (hW.mono X1.out.2.size)))
 have HI:=hidp (fun W (hW:Below w1.heap.size w1 W)=>hI W (X1.out.2.trans (hW.mono X1.out.2.size)))
 obtain⟨eb,heb⟩:∃z,z=Lx.bs et:=⟨_,rfl⟩
 obtain⟨lb,hlb⟩:∃z,z=Lx.bs li:=⟨_,rfl⟩
 rw[←heb] at HE
 rw[←hlb] at HI
 have HBY:Hid (tb=Lx.bs t∧fb=Lx.bs f∧eb=Lx.bs et∧lb=Lx.bs li∧t.length≤1048576∧f.length≤1048576∧et.length≤576000∧li.length≤80000000):=⟨htb,hfb,heb,hlb,bt,bf,be,bli⟩
 obtain⟨wh,hwh⟩:∃z:Bs,z=(if m=0 then [] else [32,87,72,69,82,69,32]++et):=⟨_,rfl⟩
 obtain⟨wb,hwb⟩:∃z,z=Lx.bs wh:=⟨_,rfl⟩
 have HWH:Hid (wh=(if m=0 then [] else [32,87,72,69,82,69,32]++et)∧wb=Lx.bs wh∧wh.length≤600000):=⟨hwh,hwb,by
  rw[hwh]
  split
  ·exact Nat.zero_le _
  ·rw[List.length_append]
   show 7+_≤_
   omega⟩
 obtain⟨y0,y1,y2,y3,y4,y5,y6⟩:=YA.out w1 (Below.refl _ _)
 have CK:=hidp (HK.out w1 (Below.refl _ _))
 clear hK hE hI heb hlb htb hfb bt bf be bli hwh hwb HK
 go_enter Tryz.func8,Tryz.ntmps8
 go_upto_region 1 with fail
 rw[←hw1,←hT]
 clear hw1 hT
 go_wp2_with fail
 refine(CK.out).mono ?_
 rintro e w2 ⟨rfl,hb2⟩
 have X2:=hidp hb2
 clear hb2 CK y0 y1 y2 y3 y4 y5 y6
 obtain⟨y0,y1,y2,y3,y4,y5,y6⟩:=YA.out w2 X2.out
 have CE:=hidp (HE.out w2 X2.out)
 go_wp2_with fail
 refine(CE.out).mono ?_
 rintro e w3 ⟨rfl,hb3⟩
 have X3:Hid (Below w1.heap.size w1 w3):=X2.out.trans (hb3.mono X2.out.size)
 clear hb3 CE HE y0 y1 y2 y3 y4 y5 y6
 obtain⟨y0,y1,y2,y3,y4,y5,y6⟩:=YA.out w3 X3.out
 go_upto_if 23 with fail
 go_cut [7] from 9 to 109 (fun s7 wx=>s7=.string wb∧wx=w3)
 case first =>
  by_cases hm:m=0
  ·have q0:¬(0:Int)<(m:Int):=by omega
   have e1:wb=⟨#[]⟩:=by rw[HWH.out.2.1,HWH.out.1,if_pos hm];rfl
   clear hm
   go_wp2
   go_meet
   exact⟨by rw[e1],rfl⟩
  ·have q0:(0:Int)<(m:Int):=by omega
   have fw:∀W,(Op.stringOp .add ⟨#[32,87,72,69,82,69,32]⟩ eb).run Tryz.prog W=.ok (.string wb) W:=fun W=>by
    rw[HWH.out.2.1,HWH.out.1,if_neg hm]
    have:=HBY.out.2.2.2.2.2.2.1
    exact add_s (x:=[32,87,72,69,82,69,32]) (y:=et) rfl HBY.out.2.2.1 (by show 7+_≤_;omega) W
   clear hm
   go_wp2
   go_meet
   exact⟨rfl,rfl⟩
 case rest =>
 obtain⟨rfl,rfl⟩:=hcut
 obtain⟨gt,gf,ge,gl,bt,bf,be,bli⟩:=HBY.out
 obtain⟨_,gw,bw⟩:=HWH.out
 have fz1:=add_s (a:=⟨#[67,82,69,65,84,69,32,73,78,68,69,88,32,79,78,32]⟩) (b:=tb) (x:=[67,82,69,65,84,69,32,73,78,68,69,88,32,79,78,32]) (y:=t) rfl gt (by simp only[List.length_cons,List.length_nil];omega)
 obtain⟨z1,hz1⟩:∃z,z=Lx.bs ([67,82,69,65,84,69,32,73,78,68,69,88,32,79,78,32]++t):=⟨_,rfl⟩
 rw[←hz1] at fz1
 have fz2:=add_s (a:=z1) (b:=⟨#[32,40]⟩) (x:=[67,82,69,65,84,69,32,73,78,68,69,88,32,79,78,32]++t) (y:=[32,40]) hz1 rfl (by simp only[List.length_append,List.length_cons,List.length_nil];omega)
 obtain⟨z2,hz2⟩:∃z,z=Lx.bs ([67,82,69,65,84,69,32,73,78,68,69,88,32,79,78,32]++t++[32,40]):=⟨_,rfl⟩
 rw[←hz2] at fz2
 have fz3:=add_s (a:=z2) (b:=fb) (x:=[67,82,69,65,84,69,32,73,78,68,69,88,32,79,78,32]++t++[32,40]) (y:=f) hz2 gf (by simp only[List.length_append,List.length_cons,List.length_nil];omega)
 obtain⟨z3,hz3⟩:∃z,z=Lx.bs ([67,82,69,65,84,69,32,73,78,68,69,88,32,79,78,32]++t++[32,40]++f):=⟨_,rfl⟩
 rw[←hz3] at fz3
 have fz4:=add_s (a:=z3) (b:=⟨#[41]⟩) (x:=[67,82,69,65,84,69,32,73,78,68,69,88,32,79,78,32]++t++[32,40]++f) (y:=[41]) hz3 rfl (by simp only[List.length_append,List.length_cons,List.length_nil];omega)
 obtain⟨z4,hz4⟩:∃z,z=Lx.bs ([67,82,69,65,84,69,32,73,78,68,69,88,32,79,78,32]++t++[32,40]++f++[41]):=⟨_,rfl⟩
 rw[←hz4] at fz4
 have HZ:=hidp hz4
 clear hz1 hz2 hz3 hz4 gt gf ge gl bt bf be bli gw bw
 go_wp2
 go_ret2
 exact⟨by show Ending.returned (Value.tuple #[.string z4,.int .i64 0])=_;rw[HZ.out,HR.out],X1.out.2.trans (X3.out.mono X1.out.2.size)⟩
theorem rpr3_c (t f et li:Bs) (n m:Nat) (ia ea:Option Addr) (ic ec:Nat) (h d:Bool) (tb fb:ByteArray) (r:Int) (w:World) (htb:tb=Lx.bs t) (hfb:fb=Lx.bs f) (bt:t.length≤1048576) (bf:f.length≤1048576) (be:et.length≤576000) (bli:li.length≤80000000)
  (hK:∀W,Below w.heap.size w W→Calls Tryz.prog 15 #[.agg #[.int .u8 3,.string tb,.string fb,.slice ia n ic,.slice ea m ec,.bool h,.bool d]] W fun e w'=>e=.returned (.int .i64 0)∧Below W.heap.size W w')
  (hE:∀W,Below w.heap.size w W→Calls Tryz.prog 10 #[.slice ea m ec] W fun e w'=>e=.returned (.tuple #[.string (Lx.bs et),.int .i64 r])∧Below W.heap.size W w')
  (hI:∀W,Below w.heap.size w W→Calls Tryz.prog 25 #[.slice ia n ic,.bool false] W fun e w'=>e=.returned (.string (Lx.bs li))∧Below W.heap.size W w') :
  Calls Tryz.prog 8 #[.agg #[.int .u8 3,.string tb,.string fb,.slice ia n ic,.slice ea m ec,.bool h,.bool d]] w fun e w'=>e=.returned (.tuple #[.string (Lx.bs ([73,78,83,69,82,84,32,73,78,84,79,32]++t++[32]++et)),.int .i64 0])∧Below w.heap.size w w':=by
 obtain⟨rb,hrb⟩:∃z,z=Lx.bs ([73,78,83,69,82,84,32,73,78,84,79,32]++t++[32]++et):=⟨_,rfl⟩
 rw[←hrb]
 have HR:=hidp hrb
 clear hrb
 obtain⟨w1,hw1⟩:∃w1,w1=w.alloc (.cells #[.int .u8 3,.string tb,.string fb,.slice ia n ic,.slice ea m ec,.bool h,.bool d] 26):=⟨_,rfl⟩
 obtain⟨T,hT⟩:∃T,T=w.heap.size:=⟨_,rfl⟩
 have X1:Hid (w1.heap[T]?=some (.cells #[.int .u8 3,.string tb,.string fb,.slice ia n ic,.slice ea m ec,.bool h,.bool d] 26 (0,0))∧Below w.heap.size w w1):=⟨by rw[hw1,hT];exact heap_alloc_new w _,by rw[hw1];exact bnew _ _⟩
 have YA:Hid (∀W,Below w1.heap.size w1 W→W.cell? ⟨T,0,none⟩=some (.int .u8 3)∧W.cell? ⟨T,1,none⟩=some (.string tb)∧W.cell? ⟨T,2,none⟩=some (.string fb)∧W.cell? ⟨T,3,none⟩=some (.slice ia n ic)∧W.cell? ⟨T,4,none⟩=some (.slice ea m ec)∧W.cell? ⟨T,5,none⟩=some (.bool h)∧W.cell? ⟨T,6,none⟩=some (.bool d)):=fun W hW=>by
  have q:=(hW.block T (row_lt X1.out.1)).trans X1.out.1
  exact⟨by rw[cell_of_row _ _ _ _ _ _ q];rfl,by rw[cell_of_row _ _ _ _ _ _ q];rfl,by rw[cell_of_row _ _ _ _ _ _ q];rfl,by rw[cell_of_row _ _ _ _ _ _ q];rfl,by rw[cell_of_row _ _ _ _ _ _ q];rfl,by rw[cell_of_row _ _ _ _ _ _ q];rfl,by rw[cell_of_row _ _ _ _ _ _ q];rfl⟩
 have HK:=hidp (fun W (hW:Below w1.heap.size w1 W)=>hK W (X1.out.2.trans (hW.mono X1.out.2.size)))
 have HE:=hidp (fun W (hW:Below w1.heap.size w1 W)=>hE W (X1.out.2.trans (hW.mono X1.out.2.size)))
 have HI:=hidp (fun W (hW:Below w1.heap.size w1 W)=>hI W (X1.out.2.trans (hW.mono X1.out.2.size)))
 obtain⟨eb,heb⟩:∃z,z=Lx.bs et:=⟨_,rfl⟩
 obtain⟨lb,hlb⟩:∃z,z=Lx.bs li:=⟨_,rfl⟩
 rw[←heb] at HE
 rw[←hlb] at HI
 have HBY:Hid (tb=Lx.bs t∧fb=Lx.bs f∧eb=Lx.bs et∧lb=Lx.bs li∧t.length≤1048576∧f.length≤1048576∧et.length≤576000∧li.length≤80000000):=⟨htb,hfb,heb,hlb,bt,bf,be,bli⟩
 obtain⟨wh,hwh⟩:∃z:Bs,z=(if m=0 then [] else [32,87,72,69,82,69,32]++et):=⟨_,rfl⟩
 obtain⟨wb,hwb⟩:∃z,z=Lx.bs wh:=⟨_,rfl⟩
 have HWH:Hid (wh=(if m=0 then [] else [32,87,72,69,82,69,32]++et)∧wb=Lx.bs wh∧wh.length≤600000):=⟨hwh,hwb,by
  rw[hwh]
  split
  ·exact Nat.zero_le _
  ·rw[List.length_append]
   show 7+_≤_
   omega⟩
 obtain⟨y0,y1,y2,y3,y4,y5,y6⟩:=YA.out w1 (Below.refl _ _)
 have CK:=hidp (HK.out w1 (Below.refl _ _))
 clear hK hE hI heb hlb htb hfb bt bf be bli hwh hwb HK
 go_enter Tryz.func8,Tryz.ntmps8
 go_upto_region 1 with fail
 rw[←hw1,←hT]
 clear hw1 hT
 go_wp2_with fail
 refine(CK.out).mono ?_
 rintro e w2 ⟨rfl,hb2⟩
 have X2:=hidp hb2
 clear hb2 CK y0 y1 y2 y3 y4 y5 y6
 obtain⟨y0,y1,y2,y3,y4,y5,y6⟩:=YA.out w2 X2.out
 have CE:=hidp (HE.out w2 X2.out)
 go_wp2_with fail
 refine(CE.out).mono ?_
 rintro e w3 ⟨rfl,hb3⟩
 have X3:Hid (Below w1.heap.size w1 w3):=X2.out.trans (hb3.mono X2.out.size)
 clear hb3 CE HE y0 y1 y2 y3 y4 y5 y6
 obtain⟨y0,y1,y2,y3,y4,y5,y6⟩:=YA.out w3 X3.out
 go_upto_if 23 with fail
 go_cut [7] from 9 to 109 (fun s7 wx=>s7=.string wb∧wx=w3)
 case first =>
  by_cases hm:m=0
  ·have q0:¬(0:Int)<(m:Int):=by omega
   have e1:wb=⟨#[]⟩:=by rw[HWH.out.2.1,HWH.out.1,if_pos hm];rfl
   clear hm
   go_wp2
   go_meet
   exact⟨by rw[e1],rfl⟩
  ·have q0:(0:Int)<(m:Int):=by omega
   have fw:∀W,(Op.stringOp .add ⟨#[32,87,72,69,82,69,32]⟩ eb).run Tryz.prog W=.ok (.string wb) W:=fun W=>by
    rw[HWH.out.2.1,HWH.out.1,if_neg hm]
    have:=HBY.out.2.2.2.2.2.2.1
    exact add_s (x:=[32,87,72,69,82,69,32]) (y:=et) rfl HBY.out.2.2.1 (by show 7+_≤_;omega) W
   clear hm
   go_wp2
   go_meet
   exact⟨rfl,rfl⟩
 case rest =>
 obtain⟨rfl,rfl⟩:=hcut
 obtain⟨gt,gf,ge,gl,bt,bf,be,bli⟩:=HBY.out
 obtain⟨_,gw,bw⟩:=HWH.out
 have fz1:=add_s (a:=⟨#[73,78,83,69,82,84,32,73,78,84,79,32]⟩) (b:=tb) (x:=[73,78,83,69,82,84,32,73,78,84,79,32]) (y:=t) rfl gt (by simp only[List.length_cons,List.length_nil];omega)
 obtain⟨z1,hz1⟩:∃z,z=Lx.bs ([73,78,83,69,82,84,32,73,78,84,79,32]++t):=⟨_,rfl⟩
 rw[←hz1] at fz1
 have fz2:=add_s (a:=z1) (b:=⟨#[32]⟩) (x:=[73,78,83,69,82,84,32,73,78,84,79,32]++t) (y:=[32]) hz1 rfl (by simp only[List.length_append,List.length_cons,List.length_nil];omega)
 obtain⟨z2,hz2⟩:∃z,z=Lx.bs ([73,78,83,69,82,84,32,73,78,84,79,32]++t++[32]):=⟨_,rfl⟩
 rw[←hz2] at fz2
 have fz3:=add_s (a:=z2) (b:=eb) (x:=[73,78,83,69,82,84,32,73,78,84,79,32]++t++[32]) (y:=et) hz2 ge (by simp only[List.length_append,List.length_cons,List.length_nil];omega)
 obtain⟨z3,hz3⟩:∃z,z=Lx.bs ([73,78,83,69,82,84,32,73,78,84,79,32]++t++[32]++et):=⟨_,rfl⟩
 rw[←hz3] at fz3
 have HZ:=hidp hz3
 clear hz1 hz2 hz3 gt gf ge gl bt bf be bli gw bw
 go_wp2
 go_ret2
 exact⟨by show Ending.returned (Value.tuple #[.string z3,.int .i64 0])=_;rw[HZ.out,HR.out],X1.out.2.trans (X3.out.mono X1.out.2.size)⟩
theorem rpr5_c (t f et li:Bs) (n m:Nat) (ia ea:Option Addr) (ic ec:Nat) (h d:Bool) (tb fb:ByteArray) (r:Int) (w:World) (htb:tb=Lx.bs t) (hfb:fb=Lx.bs f) (bt:t.length≤1048576) (bf:f.length≤1048576) (be:et.length≤576000) (bli:li.length≤80000000)
  (hK:∀W,Below w.heap.size w W→Calls Tryz.prog 15 #[.agg #[.int .u8 5,.string tb,.string fb,.slice ia n ic,.slice ea m ec,.bool h,.bool d]] W fun e w'=>e=.returned (.int .i64 0)∧Below W.heap.size W w')
  (hE:∀W,Below w.heap.size w W→Calls Tryz.prog 10 #[.slice ea m ec] W fun e w'=>e=.returned (.tuple #[.string (Lx.bs et),.int .i64 r])∧Below W.heap.size W w')
  (hI:∀W,Below w.heap.size w W→Calls Tryz.prog 25 #[.slice ia n ic,.bool false] W fun e w'=>e=.returned (.string (Lx.bs li))∧Below W.heap.size W w') :
  Calls Tryz.prog 8 #[.agg #[.int .u8 5,.string tb,.string fb,.slice ia n ic,.slice ea m ec,.bool h,.bool d]] w fun e w'=>e=.returned (.tuple #[.string (Lx.bs ([68,69,76,69,84,69,32,70,82,79,77,32]++t++(if m=0 then [] else [32,87,72,69,82,69,32]++et))),.int .i64 0])∧Below w.heap.size w w':=by
 obtain⟨rb,hrb⟩:∃z,z=Lx.bs ([68,69,76,69,84,69,32,70,82,79,77,32]++t++(if m=0 then [] else [32,87,72,69,82,69,32]++et)):=⟨_,rfl⟩
 rw[←hrb]
 have HR:=hidp hrb
 clear hrb
 obtain⟨w1,hw1⟩:∃w1,w1=w.alloc (.cells #[.int .u8 5,.string tb,.string fb,.slice ia n ic,.slice ea m ec,.bool h,.bool d] 26):=⟨_,rfl⟩
 obtain⟨T,hT⟩:∃T,T=w.heap.size:=⟨_,rfl⟩
 have X1:Hid (w1.heap[T]?=some (.cells #[.int .u8 5,.string tb,.string fb,.slice ia n ic,.slice ea m ec,.bool h,.bool d] 26 (0,0))∧Below w.heap.size w w1):=⟨by rw[hw1,hT];exact heap_alloc_new w _,by rw[hw1];exact bnew _ _⟩
 have YA:Hid (∀W,Below w1.heap.size w1 W→W.cell? ⟨T,0,none⟩=some (.int .u8 5)∧W.cell? ⟨T,1,none⟩=some (.string tb)∧W.cell? ⟨T,2,none⟩=some (.string fb)∧W.cell? ⟨T,3,none⟩=some (.slice ia n ic)∧W.cell? ⟨T,4,none⟩=some (.slice ea m ec)∧W.cell? ⟨T,5,none⟩=some (.bool h)∧W.cell? ⟨T,6,none⟩=some (.bool d)):=fun W hW=>by
  have q:=(hW.block T (row_lt X1.out.1)).trans X1.out.1
  exact⟨by rw[cell_of_row _ _ _ _ _ _ q];rfl,by rw[cell_of_row _ _ _ _ _ _ q];rfl,by rw[cell_of_row _ _ _ _ _ _ q];rfl,by rw[cell_of_row _ _ _ _ _ _ q];rfl,by rw[cell_of_row _ _ _ _ _ _ q];rfl,by rw[cell_of_row _ _ _ _ _ _ q];rfl,by rw[cell_of_row _ _ _ _ _ _ q];rfl⟩
 have HK:=hidp (fun W (hW:Below w1.heap.size w1 W)=>hK W (X1.out.2.trans (hW.mono X1.out.2.size)))
 have HE:=hidp (fun W (hW:Below w1.heap.size w1 W)=>hE W (X1.out.2.trans (hW.mono X1.out.2.size)))
 have HI:=hidp (fun W (hW:Below w1.heap.size w1 W)=>hI W (X1.out.2.trans (hW.mono X1.out.2.size)))
 obtain⟨eb,heb⟩:∃z,z=Lx.bs et:=⟨_,rfl⟩
 obtain⟨lb,hlb⟩:∃z,z=Lx.bs li:=⟨_,rfl⟩
 rw[←heb] at HE
 rw[←hlb] at HI
 have HBY:Hid (tb=Lx.bs t∧fb=Lx.bs f∧eb=Lx.bs et∧lb=Lx.bs li∧t.length≤1048576∧f.length≤1048576∧et.length≤576000∧li.length≤80000000):=⟨htb,hfb,heb,hlb,bt,bf,be,bli⟩
 obtain⟨wh,hwh⟩:∃z:Bs,z=(if m=0 then [] else [32,87,72,69,82,69,32]++et):=⟨_,rfl⟩
 obtain⟨wb,hwb⟩:∃z,z=Lx.bs wh:=⟨_,rfl⟩
 have HWH:Hid (wh=(if m=0 then [] else [32,87,72,69,82,69,32]++et)∧wb=Lx.bs wh∧wh.length≤600000):=⟨hwh,hwb,by
  rw[hwh]
  split
  ·exact Nat.zero_le _
  ·rw[List.length_append]
   show 7+_≤_
   omega⟩
 obtain⟨y0,y1,y2,y3,y4,y5,y6⟩:=YA.out w1 (Below.refl _ _)
 have CK:=hidp (HK.out w1 (Below.refl _ _))
 clear hK hE hI heb hlb htb hfb bt bf be bli hwh hwb HK
 go_enter Tryz.func8,Tryz.ntmps8
 go_upto_region 1 with fail
 rw[←hw1,←hT]
 clear hw1 hT
 go_wp2_with fail
 refine(CK.out).mono ?_
 rintro e w2 ⟨rfl,hb2⟩
 have X2:=hidp hb2
 clear hb2 CK y0 y1 y2 y3 y4 y5 y6
 obtain⟨y0,y1,y2,y3,y4,y5,y6⟩:=YA.out w2 X2.out
 have CE:=hidp (HE.out w2 X2.out)
 go_wp2_with fail
 refine(CE.out).mono ?_
 rintro e w3 ⟨rfl,hb3⟩
 have X3:Hid (Below w1.heap.size w1 w3):=X2.out.trans (hb3.mono X2.out.size)
 clear hb3 CE HE y0 y1 y2 y3 y4 y5 y6
 obtain⟨y0,y1,y2,y3,y4,y5,y6⟩:=YA.out w3 X3.out
 go_upto_if 23 with fail
 go_cut [7] from 9 to 109 (fun s7 wx=>s7=.string wb∧wx=w3)
 case first =>
  by_cases hm:m=0
  ·have q0:¬(0:Int)<(m:Int):=by omega
   have e1:wb=⟨#[]⟩:=by rw[HWH.out.2.1,HWH.out.1,if_pos hm];rfl
   clear hm
   go_wp2
   go_meet
   exact⟨by rw[e1],rfl⟩
  ·have q0:(0:Int)<(m:Int):=by omega
   have fw:∀W,(Op.stringOp .add ⟨#[32,87,72,69,82,69,32]⟩ eb).run Tryz.prog W=.ok (.string wb) W:=fun W=>by
    rw[HWH.out.2.1,HWH.out.1,if_neg hm]
    have:=HBY.out.2.2.2.2.2.2.1
    exact add_s (x:=[32,87,72,69,82,69,32]) (y:=et) rfl HBY.out.2.2.1 (by show 7+_≤_;omega) W
   clear hm
   go_wp2
   go_meet
   exact⟨rfl,rfl⟩
 case rest =>
 obtain⟨rfl,rfl⟩:=hcut
 obtain⟨gt,gf,ge,gl,bt,bf,be,bli⟩:=HBY.out
 obtain⟨_,gw,bw⟩:=HWH.out
 have fz1:=add_s (a:=⟨#[68,69,76,69,84,69,32,70,82,79,77,32]⟩) (b:=tb) (x:=[68,69,76,69,84,69,32,70,82,79,77,32]) (y:=t) rfl gt (by simp only[List.length_cons,List.length_nil];omega)
 obtain⟨z1,hz1⟩:∃z,z=Lx.bs ([68,69,76,69,84,69,32,70,82,79,77,32]++t):=⟨_,rfl⟩
 rw[←hz1] at fz1
 have fz2:=add_s (a:=z1) (b:=wb) (x:=[68,69,76,69,84,69,32,70,82,79,77,32]++t) (y:=wh) hz1 gw (by simp only[List.length_append,List.length_cons,List.length_nil];omega)
 obtain⟨z2,hz2⟩:∃z,z=Lx.bs ([68,69,76,69,84,69,32,70,82,79,77,32]++t++wh):=⟨_,rfl⟩
 rw[←hz2] at fz2
 have HZ:=hidp hz2
 clear hz1 hz2 gt gf ge gl bt bf be bli gw bw
 go_wp2
 go_ret2
 exact⟨by show Ending.returned (Value.tuple #[.string z2,.int .i64 0])=_;rw[HZ.out,HR.out,HWH.out.1],X1.out.2.trans (X3.out.mono X1.out.2.size)⟩
theorem rpr4_c (t f et li:Bs) (n m:Nat) (ia ea:Option Addr) (ic ec:Nat) (h d:Bool) (tb fb:ByteArray) (r:Int) (w:World) (htb:tb=Lx.bs t) (hfb:fb=Lx.bs f) (bt:t.length≤1048576) (bf:f.length≤1048576) (be:et.length≤576000) (bli:li.length≤80000000)
  (hK:∀W,Below w.heap.size w W→Calls Tryz.prog 15 #[.agg #[.int .u8 4,.string tb,.string fb,.slice ia n ic,.slice ea m ec,.bool h,.bool d]] W fun e w'=>e=.returned (.int .i64 0)∧Below W.heap.size W w')
  (hE:∀W,Below w.heap.size w W→Calls Tryz.prog 10 #[.slice ea m ec] W fun e w'=>e=.returned (.tuple #[.string (Lx.bs et),.int .i64 r])∧Below W.heap.size W w')
  (hI:∀W,Below w.heap.size w W→Calls Tryz.prog 25 #[.slice ia n ic,.bool true] W fun e w'=>e=.returned (.string (Lx.bs li))∧Below W.heap.size W w') :
  Calls Tryz.prog 8 #[.agg #[.int .u8 4,.string tb,.string fb,.slice ia n ic,.slice ea m ec,.bool h,.bool d]] w fun e w'=>e=.returned (.tuple #[.string (Lx.bs ([85,80,68,65,84,69,32]++t++[32,83,69,84,32]++li++(if m=0 then [] else [32,87,72,69,82,69,32]++et))),.int .i64 0])∧Below w.heap.size w w':=by
 obtain⟨rb,hrb⟩:∃z,z=Lx.bs ([85,80,68,65,84,69,32]++t++[32,83,69,84,32]++li++(if m=0 then [] else [32,87,72,69,82,69,32]++et)):=⟨_,rfl⟩
 rw[←hrb]
 have HR:=hidp hrb
 clear hrb
 obtain⟨w1,hw1⟩:∃w1,w1=w.alloc (.cells #[.int .u8 4,.string tb,.string fb,.slice ia n ic,.slice ea m ec,.bool h,.bool d] 26):=⟨_,rfl⟩
 obtain⟨T,hT⟩:∃T,T=w.heap.size:=⟨_,rfl⟩
 have X1:Hid (w1.heap[T]?=some (.cells #[.int .u8 4,.string tb,.string fb,.slice ia n ic,.slice ea m ec,.bool h,.bool d] 26 (0,0))∧Below w.heap.size w w1):=⟨by rw[hw1,hT];exact heap_alloc_new w _,by rw[hw1];exact bnew _ _⟩
 have YA:Hid (∀W,Below w1.heap.size w1 W→W.cell? ⟨T,0,none⟩=some (.int .u8 4)∧W.cell? ⟨T,1,none⟩=some (.string tb)∧W.cell? ⟨T,2,none⟩=some (.string fb)∧W.cell? ⟨T,3,none⟩=some (.slice ia n ic)∧W.cell? ⟨T,4,none⟩=some (.slice ea m ec)∧W.cell? ⟨T,5,none⟩=some (.bool h)∧W.cell? ⟨T,6,none⟩=some (.bool d)):=fun W hW=>by
  have q:=(hW.block T (row_lt X1.out.1)).trans X1.out.1
  exact⟨by rw[cell_of_row _ _ _ _ _ _ q];rfl,by rw[cell_of_row _ _ _ _ _ _ q];rfl,by rw[cell_of_row _ _ _ _ _ _ q];rfl,by rw[cell_of_row _ _ _ _ _ _ q];rfl,by rw[cell_of_row _ _ _ _ _ _ q];rfl,by rw[cell_of_row _ _ _ _ _ _ q];rfl,by rw[cell_of_row _ _ _ _ _ _ q];rfl⟩
 have HK:=hidp (fun W (hW:Below w1.heap.size w1 W)=>hK W (X1.out.2.trans (hW.mono X1.out.2.size)))
 have HE:=hidp (fun W (hW:Below w1.heap.size w1 W)=>hE W (X1.out.2.trans (hW.mono X1.out.2.size)))
 have HI:=hidp (fun W (hW:Below w1.heap.size w1 W)=>hI W (X1.out.2.trans (hW.mono X1.out.2.size)))
 obtain⟨eb,heb⟩:∃z,z=Lx.bs et:=⟨_,rfl⟩
 obtain⟨lb,hlb⟩:∃z,z=Lx.bs li:=⟨_,rfl⟩
 rw[←heb] at HE
 rw[←hlb] at HI
 have HBY:Hid (tb=Lx.bs t∧fb=Lx.bs f∧eb=Lx.bs et∧lb=Lx.bs li∧t.length≤1048576∧f.length≤1048576∧et.length≤576000∧li.length≤80000000):=⟨htb,hfb,heb,hlb,bt,bf,be,bli⟩
 obtain⟨wh,hwh⟩:∃z:Bs,z=(if m=0 then [] else [32,87,72,69,82,69,32]++et):=⟨_,rfl⟩
 obtain⟨wb,hwb⟩:∃z,z=Lx.bs wh:=⟨_,rfl⟩
 have HWH:Hid (wh=(if m=0 then [] else [32,87,72,69,82,69,32]++et)∧wb=Lx.bs wh∧wh.length≤600000):=⟨hwh,hwb,by
  rw[hwh]
  split
  ·exact Nat.zero_le _
  ·rw[List.length_append]
   show 7+_≤_
   omega⟩
 obtain⟨y0,y1,y2,y3,y4,y5,y6⟩:=YA.out w1 (Below.refl _ _)
 have CK:=hidp (HK.out w1 (Below.refl _ _))
 clear hK hE hI heb hlb htb hfb bt bf be bli hwh hwb HK
 go_enter Tryz.func8,Tryz.ntmps8
 go_upto_region 1 with fail
 rw[←hw1,←hT]
 clear hw1 hT
 go_wp2_with fail
 refine(CK.out).mono ?_
 rintro e w2 ⟨rfl,hb2⟩
 have X2:=hidp hb2
 clear hb2 CK y0 y1 y2 y3 y4 y5 y6
 obtain⟨y0,y1,y2,y3,y4,y5,y6⟩:=YA.out w2 X2.out
 have CE:=hidp (HE.out w2 X2.out)
 go_wp2_with fail
 refine(CE.out).mono ?_
 rintro e w3 ⟨rfl,hb3⟩
 have X3:Hid (Below w1.heap.size w1 w3):=X2.out.trans (hb3.mono X2.out.size)
 clear hb3 CE HE y0 y1 y2 y3 y4 y5 y6
 obtain⟨y0,y1,y2,y3,y4,y5,y6⟩:=YA.out w3 X3.out
 go_upto_if 23 with fail
 go_cut [7] from 9 to 109 (fun s7 wx=>s7=.string wb∧wx=w3)
 case first =>
  by_cases hm:m=0
  ·have q0:¬(0:Int)<(m:Int):=by omega
   have e1:wb=⟨#[]⟩:=by rw[HWH.out.2.1,HWH.out.1,if_pos hm];rfl
   clear hm
   go_wp2
   go_meet
   exact⟨by rw[e1],rfl⟩
  ·have q0:(0:Int)<(m:Int):=by omega
   have fw:∀W,(Op.stringOp .add ⟨#[32,87,72,69,82,69,32]⟩ eb).run Tryz.prog W=.ok (.string wb) W:=fun W=>by
    rw[HWH.out.2.1,HWH.out.1,if_neg hm]
    have:=HBY.out.2.2.2.2.2.2.1
    exact add_s (x:=[32,87,72,69,82,69,32]) (y:=et) rfl HBY.out.2.2.1 (by show 7+_≤_;omega) W
   clear hm
   go_wp2
   go_meet
   exact⟨rfl,rfl⟩
 case rest =>
 obtain⟨rfl,rfl⟩:=hcut
 obtain⟨gt,gf,ge,gl,bt,bf,be,bli⟩:=HBY.out
 obtain⟨_,gw,bw⟩:=HWH.out
 have fz1:=add_s (a:=⟨#[85,80,68,65,84,69,32]⟩) (b:=tb) (x:=[85,80,68,65,84,69,32]) (y:=t) rfl gt (by simp only[List.length_cons,List.length_nil];omega)
 obtain⟨z1,hz1⟩:∃z,z=Lx.bs ([85,80,68,65,84,69,32]++t):=⟨_,rfl⟩
 rw[←hz1] at fz1
 have fz2:=add_s (a:=z1) (b:=⟨#[32,83,69,84,32]⟩) (x:=[85,80,68,65,84,69,32]++t) (y:=[32,83,69,84,32]) hz1 rfl (by simp only[List.length_append,List.length_cons,List.length_nil];omega)
 obtain⟨z2,hz2⟩:∃z,z=Lx.bs ([85,80,68,65,84,69,32]++t++[32,83,69,84,32]):=⟨_,rfl⟩
 rw[←hz2] at fz2
 have fz3:=add_s (a:=z2) (b:=lb) (x:=[85,80,68,65,84,69,32]++t++[32,83,69,84,32]) (y:=li) hz2 gl (by simp only[List.length_append,List.length_cons,List.length_nil];omega)
 obtain⟨z3,hz3⟩:∃z,z=Lx.bs ([85,80,68,65,84,69,32]++t++[32,83,69,84,32]++li):=⟨_,rfl⟩
 rw[←hz3] at fz3
 have fz4:=add_s (a:=z3) (b:=wb) (x:=[85,80,68,65,84,69,32]++t++[32,83,69,84,32]++li) (y:=wh) hz3 gw (by simp only[List.length_append,List.length_cons,List.length_nil];omega)
 obtain⟨z4,hz4⟩:∃z,z=Lx.bs ([85,80,68,65,84,69,32]++t++[32,83,69,84,32]++li++wh):=⟨_,rfl⟩
 rw[←hz4] at fz4
 have HZ:=hidp hz4
 clear hz1 hz2 hz3 hz4 gt gf ge gl bt bf be bli gw bw
 have tl:=row_lt ((X3.out.block T (row_lt X1.out.1)).trans X1.out.1)
 have CI:=hidp (HI.out wc.drew X3.out.drew)
 go_upto_region 16 with fail
 go_region_held3 (fun W'=>W'.cell? ⟨T,1,none⟩=some (.string tb)∧W'.cell? ⟨T,3,none⟩=some (.slice ia n ic)) (go_keep) (first
  |(go_at_call 25;refine(CI.out).mono ?_;rintro e w5 ⟨rfl,hb5⟩
    have X5:Hid (Below w1.heap.size w1 w5):=X3.out.drew.trans (hb5.mono X3.out.drew.size)
    clear hb5
    obtain⟨y0,y1,y2,y3,y4,y5,y6⟩:=YA.out w5 X5.out))
 go_wp2
 go_ret2
 exact⟨by show Ending.returned (Value.tuple #[.string z4,.int .i64 0])=_;rw[HZ.out,HR.out,HWH.out.1],X1.out.2.trans (X5.out.mono X1.out.2.size)⟩
theorem rpr6_c (t f et li:Bs) (n m:Nat) (ia ea:Option Addr) (ic ec:Nat) (h d:Bool) (tb fb:ByteArray) (r:Int) (w:World) (htb:tb=Lx.bs t) (hfb:fb=Lx.bs f) (bt:t.length≤1048576) (bf:f.length≤1048576) (be:et.length≤576000) (bli:li.length≤80000000)
  (hK:∀W,Below w.heap.size w W→Calls Tryz.prog 15 #[.agg #[.int .u8 6,.string tb,.string fb,.slice ia n ic,.slice ea m ec,.bool h,.bool d]] W fun e w'=>e=.returned (.int .i64 0)∧Below W.heap.size W w')
  (hE:∀W,Below w.heap.size w W→Calls Tryz.prog 10 #[.slice ea m ec] W fun e w'=>e=.returned (.tuple #[.string (Lx.bs et),.int .i64 r])∧Below W.heap.size W w')
  (hI:∀W,Below w.heap.size w W→Calls Tryz.prog 25 #[.slice ia n ic,.bool false] W fun e w'=>e=.returned (.string (Lx.bs li))∧Below W.heap.size W w') :
  Calls Tryz.prog 8 #[.agg #[.int .u8 6,.string tb,.string fb,.slice ia n ic,.slice ea m ec,.bool h,.bool d]] w fun e w'=>e=.returned (.tuple #[.string (Lx.bs ([83,69,76,69,67,84,32]++(if n=0 then [42] else [])++(li++[32,70,82,79,77,32])++(if h=true then [72,73,83,84,79,82,89,40]++t++[41] else t)++(if m=0 then [] else [32,87,72,69,82,69,32]++et)++(if f=[] then [] else [32,79,82,68,69,82,32,66,89,32]++f)++(if d=true then [32,68,69,83,67] else []))),.int .i64 0])∧Below w.heap.size w w':=by
 obtain⟨rb,hrb⟩:∃z,z=Lx.bs ([83,69,76,69,67,84,32]++(if n=0 then [42] else [])++(li++[32,70,82,79,77,32])++(if h=true then [72,73,83,84,79,82,89,40]++t++[41] else t)++(if m=0 then [] else [32,87,72,69,82,69,32]++et)++(if f=[] then [] else [32,79,82,68,69,82,32,66,89,32]++f)++(if d=true then [32,68,69,83,67] else [])):=⟨_,rfl⟩
 rw[←hrb]
 have HR:=hidp hrb
 clear hrb
 obtain⟨w1,hw1⟩:∃w1,w1=w.alloc (.cells #[.int .u8 6,.string tb,.string fb,.slice ia n ic,.slice ea m ec,.bool h,.bool d] 26):=⟨_,rfl⟩
 obtain⟨T,hT⟩:∃T,T=w.heap.size:=⟨_,rfl⟩
 have X1:Hid (w1.heap[T]?=some (.cells #[.int .u8 6,.string tb,.string fb,.slice ia n ic,.slice ea m ec,.bool h,.bool d] 26 (0,0))∧Below w.heap.size w w1):=⟨by rw[hw1,hT];exact heap_alloc_new w _,by rw[hw1];exact bnew _ _⟩
 have YA:Hid (∀W,Below w1.heap.size w1 W→W.cell? ⟨T,0,none⟩=some (.int .u8 6)∧W.cell? ⟨T,1,none⟩=some (.string tb)∧W.cell? ⟨T,2,none⟩=some (.string fb)∧W.cell? ⟨T,3,none⟩=some (.slice ia n ic)∧W.cell? ⟨T,4,none⟩=some (.slice ea m ec)∧W.cell? ⟨T,5,none⟩=some (.bool h)∧W.cell? ⟨T,6,none⟩=some (.bool d)):=fun W hW=>by
  have q:=(hW.block T (row_lt X1.out.1)).trans X1.out.1
  exact⟨by rw[cell_of_row _ _ _ _ _ _ q];rfl,by rw[cell_of_row _ _ _ _ _ _ q];rfl,by rw[cell_of_row _ _ _ _ _ _ q];rfl,by rw[cell_of_row _ _ _ _ _ _ q];rfl,by rw[cell_of_row _ _ _ _ _ _ q];rfl,by rw[cell_of_row _ _ _ _ _ _ q];rfl,by rw[cell_of_row _ _ _ _ _ _ q];rfl⟩
 have HK:=hidp (fun W (hW:Below w1.heap.size w1 W)=>hK W (X1.out.2.trans (hW.mono X1.out.2.size)))
 have HE:=hidp (fun W (hW:Below w1.heap.size w1 W)=>hE W (X1.out.2.trans (hW.mono X1.out.2.size)))
 have HI:=hidp (fun W (hW:Below w1.heap.size w1 W)=>hI W (X1.out.2.trans (hW.mono X1.out.2.size)))
 obtain⟨eb,heb⟩:∃z,z=Lx.bs et:=⟨_,rfl⟩
 obtain⟨lb,hlb⟩:∃z,z=Lx.bs li:=⟨_,rfl⟩
 rw[←heb] at HE
 rw[←hlb] at HI
 have HBY:Hid (tb=Lx.bs t∧fb=Lx.bs f∧eb=Lx.bs et∧lb=Lx.bs li∧t.length≤1048576∧f.length≤1048576∧et.length≤576000∧li.length≤80000000):=⟨htb,hfb,heb,hlb,bt,bf,be,bli⟩
 obtain⟨wh,hwh⟩:∃z:Bs,z=(if m=0 then [] else [32,87,72,69,82,69,32]++et):=⟨_,rfl⟩
 obtain⟨wb,hwb⟩:∃z,z=Lx.bs wh:=⟨_,rfl⟩
 have HWH:Hid (wh=(if m=0 then [] else [32,87,72,69,82,69,32]++et)∧wb=Lx.bs wh∧wh.length≤600000):=⟨hwh,hwb,by
  rw[hwh]
  split
  ·exact Nat.zero_le _
  ·rw[List.length_append]
   show 7+_≤_
   omega⟩
 obtain⟨y0,y1,y2,y3,y4,y5,y6⟩:=YA.out w1 (Below.refl _ _)
 have CK:=hidp (HK.out w1 (Below.refl _ _))
 clear hK hE hI heb hlb htb hfb bt bf be bli hwh hwb HK
 go_enter Tryz.func8,Tryz.ntmps8
 go_upto_region 1 with fail
 rw[←hw1,←hT]
 clear hw1 hT
 go_wp2_with fail
 refine(CK.out).mono ?_
 rintro e w2 ⟨rfl,hb2⟩
 have X2:=hidp hb2
 clear hb2 CK y0 y1 y2 y3 y4 y5 y6
 obtain⟨y0,y1,y2,y3,y4,y5,y6⟩:=YA.out w2 X2.out
 have CE:=hidp (HE.out w2 X2.out)
 go_wp2_with fail
 refine(CE.out).mono ?_
 rintro e w3 ⟨rfl,hb3⟩
 have X3:Hid (Below w1.heap.size w1 w3):=X2.out.trans (hb3.mono X2.out.size)
 clear hb3 CE HE y0 y1 y2 y3 y4 y5 y6
 obtain⟨y0,y1,y2,y3,y4,y5,y6⟩:=YA.out w3 X3.out
 go_upto_if 23 with fail
 go_cut [7] from 9 to 109 (fun s7 wx=>s7=.string wb∧wx=w3)
 case first =>
  by_cases hm:m=0
  ·have q0:¬(0:Int)<(m:Int):=by omega
   have e1:wb=⟨#[]⟩:=by rw[HWH.out.2.1,HWH.out.1,if_pos hm];rfl
   clear hm
   go_wp2
   go_meet
   exact⟨by rw[e1],rfl⟩
  ·have q0:(0:Int)<(m:Int):=by omega
   have fw:∀W,(Op.stringOp .add ⟨#[32,87,72,69,82,69,32]⟩ eb).run Tryz.prog W=.ok (.string wb) W:=fun W=>by
    rw[HWH.out.2.1,HWH.out.1,if_neg hm]
    have:=HBY.out.2.2.2.2.2.2.1
    exact add_s (x:=[32,87,72,69,82,69,32]) (y:=et) rfl HBY.out.2.2.1 (by show 7+_≤_;omega) W
   clear hm
   go_wp2
   go_meet
   exact⟨rfl,rfl⟩
 case rest =>
 obtain⟨rfl,rfl⟩:=hcut
 obtain⟨gt,gf,ge,gl,bt,bf,be,bli⟩:=HBY.out
 obtain⟨_,gw,bw⟩:=HWH.out
 clear gt gf ge gl bt bf be bli gw bw
 obtain⟨s1,hs1⟩:∃z:Bs,z=[83,69,76,69,67,84,32]++(if n=0 then [42] else []):=⟨_,rfl⟩
 obtain⟨b1,hb1⟩:∃z,z=Lx.bs s1:=⟨_,rfl⟩
 have H1:Hid (s1=[83,69,76,69,67,84,32]++(if n=0 then [42] else [])∧b1=Lx.bs s1∧s1.length≤8):=⟨hs1,hb1,by rw[hs1];split<;>decide⟩
 clear hs1 hb1
 go_upto_if 73 with fail
 go_cut [8] from 9 to 109 (fun s8 wx=>s8=.string b1∧wx=wc)
 case first =>
  by_cases hn:n=0
  ·have q0:((n:Int)==0)=true:=by rw[hn];rfl
   have fa:∀W,(Op.stringOp .add ⟨#[83,69,76,69,67,84,32]⟩ ⟨#[42]⟩).run Tryz.prog W=.ok (.string b1) W:=fun W=>by
    rw[H1.out.2.1,H1.out.1,if_pos hn]
    exact add_s (x:=[83,69,76,69,67,84,32]) (y:=[42]) rfl rfl (by decide) W
   clear hn
   go_wp2
   go_meet
   exact⟨rfl,rfl⟩
  ·have q0:((n:Int)==0)=false:=by rw[beq_eq_false_iff_ne];omega
   have e1:b1=⟨#[83,69,76,69,67,84,32]⟩:=by rw[H1.out.2.1,H1.out.1,if_neg hn];rfl
   clear hn
   go_wp2
   go_meet
   exact⟨by rw[e1],rfl⟩
 case rest =>
 obtain⟨rfl,hwc⟩:=hcut
 subst hwc
 obtain⟨s2,hs2⟩:∃z:Bs,z=s1++(li++[32,70,82,79,77,32]):=⟨_,rfl⟩
 obtain⟨b2,hb2⟩:∃z,z=Lx.bs s2:=⟨_,rfl⟩
 have H2:Hid (s2=s1++(li++[32,70,82,79,77,32])∧b2=Lx.bs s2∧s2.length≤80000100):=⟨hs2,hb2,by rw[hs2,List.length_append,List.length_append];have:=HBY.out.2.2.2.2.2.2.2;have:=H1.out.2.2;show _+(_+6)≤_;omega⟩
 clear hs2 hb2
 obtain⟨u1,hu1⟩:∃z,z=Lx.bs (li++[32,70,82,79,77,32]):=⟨_,rfl⟩
 have fb1:∀W,(Op.stringOp .add lb ⟨#[32,70,82,79,77,32]⟩).run Tryz.prog W=.ok (.string u1) W:=fun W=>by
  rw[hu1]
  exact add_s (x:=li) (y:=[32,70,82,79,77,32]) HBY.out.2.2.2.1 rfl (by have:=HBY.out.2.2.2.2.2.2.2;show _+6≤_;omega) W
 have fb2:∀W,(Op.stringOp .add b1 u1).run Tryz.prog W=.ok (.string b2) W:=fun W=>by
  rw[H2.out.2.1,H2.out.1]
  exact add_s (x:=s1) (y:=li++[32,70,82,79,77,32]) H1.out.2.1 hu1 (by have:=HBY.out.2.2.2.2.2.2.2;have:=H1.out.2.2;rw[List.length_append];show _+(_+6)≤_;omega) W
 clear hu1
 have CI:=hidp (HI.out wc X3.out)
 go_wp2_with fail
 refine(CI.out).mono ?_
 rintro e w5 ⟨rfl,hb5⟩
 have X5:Hid (Below w1.heap.size w1 w5):=X3.out.trans (hb5.mono X3.out.size)
 clear hb5 CI HI y0 y1 y2 y3 y4 y5 y6
 obtain⟨y0,y1,y2,y3,y4,y5,y6⟩:=YA.out w5 X5.out
 obtain⟨s3,hs3⟩:∃z:Bs,z=s2++(if h=true then [72,73,83,84,79,82,89,40]++t++[41] else t):=⟨_,rfl⟩
 obtain⟨b3,hb3⟩:∃z,z=Lx.bs s3:=⟨_,rfl⟩
 have H3:Hid (s3=s2++(if h=true then [72,73,83,84,79,82,89,40]++t++[41] else t)∧b3=Lx.bs s3∧s3.length≤90000000):=⟨hs3,hb3,by
  have:=HBY.out.2.2.2.2.1
  have:=H2.out.2.2
  rw[hs3]
  cases h
  ·rw[if_neg (by decide),List.length_append];omega
  ·rw[if_pos rfl,List.length_append,List.length_append,List.length_append];show _+(8+_+1)≤_;omega⟩
 clear hs3 hb3
 go_upto_if 83 with fail
 go_cut [8] from 9 to 109 (fun s8 wx=>s8=.string b3∧wx=w5)
 case first =>
  cases h with
  | true =>
   obtain⟨u1,hu1⟩:∃z,z=Lx.bs ([72,73,83,84,79,82,89,40]++t):=⟨_,rfl⟩
   obtain⟨u2,hu2⟩:∃z,z=Lx.bs ([72,73,83,84,79,82,89,40]++t++[41]):=⟨_,rfl⟩
   have bt:=HBY.out.2.2.2.2.1
   have f1:∀W,(Op.stringOp .add ⟨#[72,73,83,84,79,82,89,40]⟩ tb).run Tryz.prog W=.ok (.string u1) W:=fun W=>by
    rw[hu1]
    exact add_s (x:=[72,73,83,84,79,82,89,40]) (y:=t) rfl HBY.out.1 (by show 8+_≤_;omega) W
   have f2:∀W,(Op.stringOp .add u1 ⟨#[41]⟩).run Tryz.prog W=.ok (.string u2) W:=fun W=>by
    rw[hu2]
    exact add_s (x:=[72,73,83,84,79,82,89,40]++t) (y:=[41]) hu1 rfl (by rw[List.length_append];show 8+_+1≤_;omega) W
   have f3:∀W,(Op.stringOp .add b2 u2).run Tryz.prog W=.ok (.string b3) W:=fun W=>by
    rw[H3.out.2.1,H3.out.1,if_pos rfl]
    exact add_s (x:=s2) (y:=[72,73,83,84,79,82,89,40]++t++[41]) H2.out.2.1 hu2 (by have:=H2.out.2.2;rw[List.length_append,List.length_append];show _+(8+_+1)≤_;omega) W
   clear hu1 hu2 bt
   go_wp2
   go_meet
   exact⟨rfl,rfl⟩
  | false =>
   have f3:∀W,(Op.stringOp .add b2 tb).run Tryz.prog W=.ok (.string b3) W:=fun W=>by
    rw[H3.out.2.1,H3.out.1,if_neg (by decide)]
    exact add_s (x:=s2) (y:=t) H2.out.2.1 HBY.out.1 (by have:=H2.out.2.2;have:=HBY.out.2.2.2.2.1;omega) W
   go_wp2
   go_meet
   exact⟨rfl,rfl⟩
 case rest =>
 obtain⟨rfl,hwc⟩:=hcut
 subst hwc
 obtain⟨s4,hs4⟩:∃z:Bs,z=s3++wh:=⟨_,rfl⟩
 obtain⟨b4,hb4⟩:∃z,z=Lx.bs s4:=⟨_,rfl⟩
 have H4:Hid (s4=s3++wh∧b4=Lx.bs s4∧s4.length≤91000000):=⟨hs4,hb4,by rw[hs4,List.length_append];have:=H3.out.2.2;have:=HWH.out.2.2;omega⟩
 have f4:∀W,(Op.stringOp .add b3 wb).run Tryz.prog W=.ok (.string b4) W:=fun W=>by
  rw[H4.out.2.1,H4.out.1]
  exact add_s (x:=s3) (y:=wh) H3.out.2.1 HWH.out.2.1 (by have:=H3.out.2.2;have:=HWH.out.2.2;omega) W
 clear hs4 hb4
 obtain⟨s5,hs5⟩:∃z:Bs,z=s4++(if f=[] then [] else [32,79,82,68,69,82,32,66,89,32]++f):=⟨_,rfl⟩
 obtain⟨b5,hb5⟩:∃z,z=Lx.bs s5:=⟨_,rfl⟩
 have H5:Hid (s5=s4++(if f=[] then [] else [32,79,82,68,69,82,32,66,89,32]++f)∧b5=Lx.bs s5∧s5.length≤93000000):=⟨hs5,hb5,by
  have:=HBY.out.2.2.2.2.2.1
  have:=H4.out.2.2
  rw[hs5,List.length_append]
  split
  ·show _+0≤_;omega
  ·rw[List.length_append];show _+(10+_)≤_;omega⟩
 clear hs5 hb5
 obtain⟨fe,hfe⟩:∃z,z=decide (f=[]):=⟨_,rfl⟩
 have HFE:Hid (fe=decide (f=[])):=hfe
 have q1:fb.toList.isEmpty=fe:=by
  rw[hfe,HBY.out.2.1,Lx.bs_toList]
  cases f<;>rfl
 have q3:(fb.toList==[])=fe:=by
  rw[hfe,HBY.out.2.1,Lx.bs_toList]
  cases f<;>rfl
 clear hfe
 go_upto_if 99 with fail
 go_cut [8] from 9 to 109 (fun s8 wx=>s8=.string b5∧wx=wc)
 case first =>
  cases fe with
  | true =>
   have e1:b5=b4:=by rw[H5.out.2.1,H5.out.1,if_pos (of_decide_eq_true HFE.out.symm),List.append_nil,H4.out.2.1]
   go_wp2
   go_meet
   exact⟨by rw[e1],rfl⟩
  | false =>
   have hf0:=of_decide_eq_false HFE.out.symm
   obtain⟨u1,hu1⟩:∃z,z=Lx.bs ([32,79,82,68,69,82,32,66,89,32]++f):=⟨_,rfl⟩
   have f5:∀W,(Op.stringOp .add ⟨#[32,79,82,68,69,82,32,66,89,32]⟩ fb).run Tryz.prog W=.ok (.string u1) W:=fun W=>by
    rw[hu1]
    exact add_s (x:=[32,79,82,68,69,82,32,66,89,32]) (y:=f) rfl HBY.out.2.1 (by have:=HBY.out.2.2.2.2.2.1;show 10+_≤_;omega) W
   have f6:∀W,(Op.stringOp .add b4 u1).run Tryz.prog W=.ok (.string b5) W:=fun W=>by
    rw[H5.out.2.1,H5.out.1,if_neg hf0]
    exact add_s (x:=s4) (y:=[32,79,82,68,69,82,32,66,89,32]++f) H4.out.2.1 hu1 (by have:=H4.out.2.2;have:=HBY.out.2.2.2.2.2.1;rw[List.length_append];show _+(10+_)≤_;omega) W
   clear hf0 hu1
   go_wp2
   go_meet
   exact⟨rfl,rfl⟩
 case rest =>
 obtain⟨rfl,hwc⟩:=hcut
 subst hwc
 obtain⟨s6,hs6⟩:∃z:Bs,z=s5++(if d=true then [32,68,69,83,67] else []):=⟨_,rfl⟩
 obtain⟨b6,hb6⟩:∃z,z=Lx.bs s6:=⟨_,rfl⟩
 have H6:Hid (s6=s5++(if d=true then [32,68,69,83,67] else [])∧b6=Lx.bs s6):=⟨hs6,hb6⟩
 clear hs6 hb6
 cases d with
 | true =>
  have f7:∀W,(Op.stringOp .add b5 ⟨#[32,68,69,83,67]⟩).run Tryz.prog W=.ok (.string b6) W:=fun W=>by
   rw[H6.out.2,H6.out.1,if_pos rfl]
   exact add_s (x:=s5) (y:=[32,68,69,83,67]) H5.out.2.1 rfl (by have:=H5.out.2.2;show _+5≤_;omega) W
  go_wp2
  go_ret2
  exact⟨by show Ending.returned (Value.tuple #[.string b6,.int .i64 0])=_;rw[HR.out,H6.out.2,H6.out.1,H5.out.1,H4.out.1,H3.out.1,H2.out.1,H1.out.1,HWH.out.1],X1.out.2.trans (X5.out.mono X1.out.2.size)⟩
 | false =>
  have e1:b6=b5:=by rw[H6.out.2,H6.out.1,if_neg (by decide),List.append_nil,H5.out.2.1]
  have HE1:=hidp e1
  clear e1
  go_wp2
  go_ret2
  exact⟨by show Ending.returned (Value.tuple #[.string b5,.int .i64 0])=_;rw[←HE1.out,HR.out,H6.out.2,H6.out.1,H5.out.1,H4.out.1,H3.out.1,H2.out.1,H1.out.1,HWH.out.1],X1.out.2.trans (X5.out.mono X1.out.2.size)⟩
end Ps
end Go.Proofs.YtfhkaffakniioaaGreatDoor
namespace Go.Proofs.YtfhkaffakniioaaGreatDoor
open Go.RowKit
namespace Ps
theorem rprf_c (k:Int) (tb fb:ByteArray) (n m:Nat) (ia ea:Option Addr) (ic ec:Nat) (h d:Bool) (w:World)
  (hK:∀W,Below w.heap.size w W→Calls Tryz.prog 15 #[.agg #[.int .u8 k,.string tb,.string fb,.slice ia n ic,.slice ea m ec,.bool h,.bool d]] W fun e w'=>e=.returned (.int .i64 13)∧Below W.heap.size W w') :
  Calls Tryz.prog 8 #[.agg #[.int .u8 k,.string tb,.string fb,.slice ia n ic,.slice ea m ec,.bool h,.bool d]] w fun e w'=>e=.returned (.tuple #[.string ⟨#[]⟩,.int .i64 13])∧Below w.heap.size w w':=by
 obtain⟨w1,hw1⟩:∃w1,w1=w.alloc (.cells #[.int .u8 k,.string tb,.string fb,.slice ia n ic,.slice ea m ec,.bool h,.bool d] 26):=⟨_,rfl⟩
 obtain⟨T,hT⟩:∃T,T=w.heap.size:=⟨_,rfl⟩
 have X1:Hid (w1.heap[T]?=some (.cells #[.int .u8 k,.string tb,.string fb,.slice ia n ic,.slice ea m ec,.bool h,.bool d] 26 (0,0))∧Below w.heap.size w w1):=⟨by rw[hw1,hT];exact heap_alloc_new w _,by rw[hw1];exact bnew _ _⟩
 have YA:Hid (∀W,Below w1.heap.size w1 W→W.cell? ⟨T,0,none⟩=some (.int .u8 k)∧W.cell? ⟨T,1,none⟩=some (.string tb)∧W.cell? ⟨T,2,none⟩=some (.string fb)∧W.cell? ⟨T,3,none⟩=some (.slice ia n ic)∧W.cell? ⟨T,4,none⟩=some (.slice ea m ec)∧W.cell? ⟨T,5,none⟩=some (.bool h)∧W.cell? ⟨T,6,none⟩=some (.bool d)):=fun W hW=>by
  have q:=(hW.block T (row_lt X1.out.1)).trans X1.out.1
  exact⟨by rw[cell_of_row _ _ _ _ _ _ q];rfl,by rw[cell_of_row _ _ _ _ _ _ q];rfl,by rw[cell_of_row _ _ _ _ _ _ q];rfl,by rw[cell_of_row _ _ _ _ _ _ q];rfl,by rw[cell_of_row _ _ _ _ _ _ q];rfl,by rw[cell_of_row _ _ _ _ _ _ q];rfl,by rw[cell_of_row _ _ _ _ _ _ q];rfl⟩
 obtain⟨y0,y1,y2,y3,y4,y5,y6⟩:=YA.out w1 (Below.refl _ _)
 have CK:=hidp (hK w1 X1.out.2)
 clear hK
 go_enter Tryz.func8,Tryz.ntmps8
 go_upto_region 1 with fail
 rw[←hw1,←hT]
 clear hw1 hT
 go_wp2_with fail
 refine(CK.out).mono ?_
 rintro e w2 ⟨rfl,hb2⟩
 have X2:=hidp hb2
 clear hb2 CK y0 y1 y2 y3 y4 y5 y6
 go_wp2
 go_ret2
 exact⟨rfl,X1.out.2.trans (X2.out.mono X1.out.2.size)⟩
theorem right_its {x:St} (h:rightX x=true):zaK x.items=true:=by
 have nl:∀{l:List It},decide (l=[])=true→zaK l=true:=fun h=>by rw[of_decide_eq_true h];rfl
 rw[rightX,Bool.and_eq_true] at h
 have h2:=h.2
 by_cases k1:x.kind=1
 ·rw[if_pos k1,Bool.and_eq_true,Bool.and_eq_true] at h2
  exact nl h2.1.2
 rw[if_neg k1] at h2
 by_cases k2:x.kind=2
 ·rw[if_pos k2,Bool.and_eq_true,Bool.and_eq_true] at h2
  exact nl h2.1.2
 rw[if_neg k2] at h2
 by_cases k3:x.kind=3
 ·rw[if_pos k3,Bool.and_eq_true,Bool.and_eq_true,Bool.and_eq_true] at h2
  exact nl h2.1.1.2
 rw[if_neg k3] at h2
 by_cases k4:x.kind=4
 ·rw[if_pos k4,Bool.and_eq_true,Bool.and_eq_true] at h2
  exact h2.1.2
 rw[if_neg k4] at h2
 by_cases k5:x.kind=5
 ·rw[if_pos k5,Bool.and_eq_true,Bool.and_eq_true] at h2
  exact nl h2.1.2
 rw[if_neg k5] at h2
 by_cases k6:x.kind=6
 ·rw[if_pos k6,Bool.and_eq_true,Bool.and_eq_true] at h2
  exact h2.1.2
 ·rw[if_neg k6] at h2;cases h2
theorem right_desc {x:St} (h:rightX x=true) (k6:x.kind=6) (hf:x.field=[]):x.desc=false:=by
 rw[rightX,Bool.and_eq_true] at h
 have h2:=h.2
 rw[if_neg (by omega),if_neg (by omega),if_neg (by omega),if_neg (by omega),if_neg (by omega),if_pos k6,hf,nm_nil,Bool.false_or,Bool.and_eq_true,Bool.and_eq_true,Bool.and_eq_true] at h2
 have h3:=h2.1.1.2
 cases hd:x.desc with
 | false=>rfl
 | true=>rw[hd] at h3;cases h3
theorem listed_len {l:List It} (hr:zaK l=true) (hf:∀i∈l,fitE i.expr) (set:Bool):(join [44,32] (zaF set l)).length≤80000000:=by
 rw[zaK,Bool.and_eq_true,Bool.and_eq_true,decide_eq_true_iff,List.all_eq_true] at hr
 obtain⟨⟨h64,hre⟩,hnn⟩:=hr
 have hib:∀x∈zaF set l,x.length≤600000:=fun x hx=>by
  rw[zaF] at hx
  obtain⟨i,hi,rfl⟩:=List.mem_map.1 hx
  have h1:=zbC (hre i hi) (hf i hi).2
  have h2:=nm_len (zdB _ _ hnn _ (List.mem_map_of_mem hi))
  cases set with
  | true =>
   rw[if_pos rfl,List.length_append,List.length_append]
   show _+3+_≤_
   omega
  | false =>
   rw[if_neg (by decide),List.length_append,List.length_append]
   show _+4+_≤_
   omega
 have h1:=zbK [44,32] (zaF set l)
 have h2:=zbL (zaF set l) 600000 hib
 have h3:(zaF set l).length≤64:=by rw[zaF,List.length_map];omega
 have h4:(zaF set l).length*600000≤64*600000:=Nat.mul_le_mul_right _ h3
 have h5:[(44:UInt8),32].length*(zaF set l).length=2*(zaF set l).length:=rfl
 omega
theorem rprintt_c (x:St) (ia ea:Option Addr) (ic ec:Nat) (w:World) (hS:SmallX x) (hx:FitX x) (hr:rightX x=true) (hm:StM w ia ea x) (hL:HasL w) (hO:HasO w):Calls Tryz.prog 8 #[.agg #[.int .u8 (x.kind:Int),.string (Lx.bs x.table),.string (Lx.bs x.field),.slice ia x.items.length ic,.slice ea x.expr.length ec,.bool x.history,.bool x.desc]] w fun e w'=>e=.returned (.tuple #[.string (Lx.bs (printX x)),.int .i64 0])∧Below w.heap.size w w':=by
 have hri:=right_its hr
 have hrd:=right_desc hr
 have hK:∀W,Below w.heap.size w W→Calls Tryz.prog 15 #[.agg #[.int .u8 (x.kind:Int),.string (Lx.bs x.table),.string (Lx.bs x.field),.slice ia x.items.length ic,.slice ea x.expr.length ec,.bool x.history,.bool x.desc]] W fun e w'=>e=.returned (.int .i64 0)∧Below W.heap.size W w':=fun W hW=>by
  have h:=rcheckX_c x _ _ rfl rfl ia ea ic ec W hS (hm.call hW)
  rw[if_pos hr] at h
  exact h
 have hE:∀W,Below w.heap.size w W→Calls Tryz.prog 10 #[.slice ea x.expr.length ec] W fun e w'=>e=.returned (.tuple #[.string (Lx.bs (if rightE x.expr=true then shownE x.expr else [])),.int .i64 (if rightE x.expr=true then 0 else 13)])∧Below W.heap.size W w':=fun W hW=>rshowE_c x.expr ea _ ec W rfl (hm.call hW).exp hx.expr.2 hS.expr (hL.stays hW) (hO.stays hW)
 have hI:∀set W,Below w.heap.size w W→Calls Tryz.prog 25 #[.slice ia x.items.length ic,.bool set] W fun e w'=>e=.returned (.string (Lx.bs (join [44,32] (zaF set x.items))))∧Below W.heap.size W w':=fun set W hW=>rlisted_c x.items ia _ ic set W rfl hri (hm.call hW).its hx.items.2 (fun i hi=>(hS.items.2 i hi).2) (hL.stays hW) (hO.stays hW)
 have be:(if rightE x.expr=true then shownE x.expr else []).length≤576000:=by
  split
  ·next h=>exact zbC h hx.expr.2
  ·exact Nat.zero_le _
 have bli:=listed_len hri hx.items.2
 have bt:=hS.table
 have bf:=hS.field
 have hpx:printX x=join [32] (zaB x):=by rw[printX,if_pos hr]
 obtain⟨_,hk⟩:=zdF hr
 have eE:rightE x.expr=true→(if rightE x.expr=true then shownE x.expr else [])=shownE x.expr:=fun h=>if_pos h
 have eC:rightC x.expr=true→(if x.expr.length=0 then ([]:Bs) else [32,87,72,69,82,69,32]++(if rightE x.expr=true then shownE x.expr else []))=if x.expr=[] then [] else [32,87,72,69,82,69,32]++shownE x.expr:=fun h=>by
  by_cases h0:x.expr=[]
  ·rw[if_pos h0,h0];rfl
  ·rw[if_neg h0,if_neg (fun e=>h0 (List.length_eq_zero_iff.1 e)),eE (zbR h h0)]
 rw[hpx]
 obtain⟨k,t,f,its,ex,hh,d⟩:=x
 dsimp only at *
 rcases hk with hk | ⟨hk,q⟩ | ⟨hk,q⟩ | ⟨hk,q1,q2⟩ | ⟨hk,q⟩ | ⟨hk,q,q1,q2⟩
 ·subst hk
  have e:join [32] (zaB ⟨1,t,f,its,ex,hh,d⟩)=[67,82,69,65,84,69,32,84,65,66,76,69,32]++t:=rfl
  rw[e]
  exact rpr1_c t f _ _ _ _ ia ea ic ec hh d _ _ _ w rfl rfl bt bf be (bli false) hK hE (hI false)
 ·subst hk
  have e:join [32] (zaB ⟨2,t,f,its,ex,hh,d⟩)=[67,82,69,65,84,69,32,73,78,68,69,88,32,79,78,32]++t++[32,40]++f++[41]:=by
   show join [32] [[67,82,69,65,84,69,32,73,78,68,69,88,32,79,78],t,[40]++f++[41]]=_
   simp only[join,List.append_assoc,List.cons_append,List.nil_append]
  rw[e]
  exact rpr2_c t f _ _ _ _ ia ea ic ec hh d _ _ _ w rfl rfl bt bf be (bli false) hK hE (hI false)
 ·subst hk
  have e:join [32] (zaB ⟨3,t,f,its,ex,hh,d⟩)=[73,78,83,69,82,84,32,73,78,84,79,32]++t++[32]++(if rightE ex=true then shownE ex else []):=by
   show join [32] [[73,78,83,69,82,84,32,73,78,84,79],t,shownE ex]=_
   rw[eE q]
   simp only[join,List.append_assoc,List.cons_append,List.nil_append]
  rw[e]
  exact rpr3_c t f _ _ _ _ ia ea ic ec hh d _ _ _ w rfl rfl bt bf be (bli false) hK hE (hI false)
 ·subst hk
  have e:join [32] (zaB ⟨4,t,f,its,ex,hh,d⟩)=[85,80,68,65,84,69,32]++t++[32,83,69,84,32]++join [44,32] (zaF true its)++(if ex.length=0 then [] else [32,87,72,69,82,69,32]++(if rightE ex=true then shownE ex else [])):=by
   show join [32] ([[85,80,68,65,84,69],t,[83,69,84],join [44,32] (zaF true its)]++condTx ex)=_
   rw[eC q2,condTx]
   by_cases h0:ex=[]
   ·rw[if_pos h0,if_pos h0]
    simp only[join,List.append_assoc,List.cons_append,List.nil_append,List.append_nil]
   ·rw[if_neg h0,if_neg h0]
    simp only[join,List.append_assoc,List.cons_append,List.nil_append]
  rw[e]
  exact rpr4_c t f _ _ _ _ ia ea ic ec hh d _ _ _ w rfl rfl bt bf be (bli true) hK hE (hI true)
 ·subst hk
  have e:join [32] (zaB ⟨5,t,f,its,ex,hh,d⟩)=[68,69,76,69,84,69,32,70,82,79,77,32]++t++(if ex.length=0 then [] else [32,87,72,69,82,69,32]++(if rightE ex=true then shownE ex else [])):=by
   show join [32] ([[68,69,76,69,84,69,32,70,82,79,77],t]++condTx ex)=_
   rw[eC q,condTx]
   by_cases h0:ex=[]
   ·rw[if_pos h0,if_pos h0]
    simp only[join,List.cons_append,List.nil_append,List.append_nil]
   ·rw[if_neg h0,if_neg h0]
    simp only[join,List.append_assoc,List.cons_append,List.nil_append]
  rw[e]
  exact rpr5_c t f _ _ _ _ ia ea ic ec hh d _ _ _ w rfl rfl bt bf be (bli false) hK hE (hI false)
 ·subst hk
  have e:join [32] (zaB ⟨6,t,f,its,ex,hh,d⟩)=[83,69,76,69,67,84,32]++(if its.length=0 then [42] else [])++(join [44,32] (zaF false its)++[32,70,82,79,77,32])++(if hh=true then [72,73,83,84,79,82,89,40]++t++[41] else t)++(if ex.length=0 then [] else [32,87,72,69,82,69,32]++(if rightE ex=true then shownE ex else []))++(if f=[] then [] else [32,79,82,68,69,82,32,66,89,32]++f)++(if d=true then [32,68,69,83,67] else []):=by
   have e1:(if its.length=0 then [(42:UInt8)] else [])++(join [44,32] (zaF false its)++[32,70,82,79,77,32])=whatTx its++[32,70,82,79,77,32]:=by
    rw[whatTx]
    cases its with
    | nil=>rfl
    | cons i r=>rw[if_neg (by simp),if_neg (by simp)];rfl
   show join [32] ([[83,69,76,69,67,84],whatTx its,[70,82,79,77],fromTx ⟨6,t,f,its,ex,hh,d⟩]++condTx ex++zbD ⟨6,t,f,its,ex,hh,d⟩)=_
   rw[eC q2,condTx,zbD,fromTx,List.append_assoc [83,69,76,69,67,84,32],e1]
   dsimp only
   obtain⟨fr,hfr⟩:∃z,z=(if hh=true then [72,73,83,84,79,82,89,40]++t++[41] else t):=⟨_,rfl⟩
   rw[←hfr]
   by_cases hf:f=[]
   ·rw[if_pos hf,if_pos hf,hrd rfl hf,if_neg (by decide:¬false=true)]
    by_cases h0:ex=[]
    ·rw[if_pos h0,if_pos h0]
     simp only[join,List.append_assoc,List.cons_append,List.nil_append,List.append_nil]
    ·rw[if_neg h0,if_neg h0]
     simp only[join,List.append_assoc,List.cons_append,List.nil_append,List.append_nil]
   ·rw[if_neg hf,if_neg hf]
    cases d with
    | true =>
     rw[if_pos rfl,if_pos rfl]
     by_cases h0:ex=[]
     ·rw[if_pos h0,if_pos h0]
      simp only[join,List.append_assoc,List.cons_append,List.nil_append,List.append_nil]
     ·rw[if_neg h0,if_neg h0]
      simp only[join,List.append_assoc,List.cons_append,List.nil_append]
    | false =>
     rw[if_neg (by decide:¬false=true),if_neg (by decide:¬false=true)]
     by_cases h0:ex=[]
     ·rw[if_pos h0,if_pos h0]
      simp only[join,List.append_assoc,List.cons_append,List.nil_append,List.append_nil]
     ·rw[if_neg h0,if_neg h0]
      simp only[join,List.append_assoc,List.cons_append,List.nil_append,List.append_nil]
  rw[e]
  exact rpr6_c t f _ _ _ _ ia ea ic ec hh d _ _ _ w rfl rfl bt bf be (bli false) hK hE (hI false)
theorem rprintX_c (x:St) (ia ea:Option Addr) (ic ec:Nat) (w:World) (hS:SmallX x) (hx:FitX x) (hm:StM w ia ea x) (hL:HasL w) (hO:HasO w):Calls Tryz.prog 8 #[.agg #[.int .u8 (x.kind:Int),.string (Lx.bs x.table),.string (Lx.bs x.field),.slice ia x.items.length ic,.slice ea x.expr.length ec,.bool x.history,.bool x.desc]] w fun e w'=>e=.returned (.tuple #[.string (Lx.bs (printX x)),.int .i64 (if rightX x=true then 0 else 13)])∧Below w.heap.size w w':=by
 by_cases hr:rightX x=true
 ·rw[if_pos hr]
  exact rprintt_c x ia ea ic ec w hS hx hr hm hL hO
 ·have e:printX x=[]:=by rw[printX,if_neg hr]
  rw[if_neg hr,e]
  refine rprf_c _ _ _ _ _ ia ea ic ec _ _ w fun W hW=>?_
  have h:=rcheckX_c x _ _ rfl rfl ia ea ic ec W hS (hm.call hW)
  rw[if_neg hr] at h
  exact h
theorem showP_c (l:List Sp) (a:Option Addr) (n c:Nat) (w:World) (hn:n=l.length) (hb:n≤9223372036854775807) (hs:Sts w a l) (hf:∀p∈l,fitS p) (hL:HasL w) (hO:HasO w):Calls Tryz.prog 9 #[.slice a n c] w fun e w'=>e=.returned (.tuple #[.string (Lx.bs (if rightE l=true then shownE l else [])),.int .i64 (if rightE l=true then 0 else 13)])∧Below w.heap.size w w':=by
 obtain⟨r,hr⟩:∃r,r=rightE l:=⟨_,rfl⟩
 have CR:Hid (Calls Tryz.prog 16 #[.slice a n c] w fun e w'=>e=.returned (.bool r)∧Below w.heap.size w w'):=by
  rw[hr]
  exact right_c l a n c w hn hb hs hf hL
 obtain⟨s,hss⟩:∃s,s=Lx.bs (shownE l):=⟨_,rfl⟩
 have CS:Hid (r=true→∀W,Below w.heap.size w W→Calls Tryz.prog 27 #[.slice a n c] W fun e w'=>e=.returned (.string s)∧Below W.heap.size W w'):=fun h W hW=>by
  rw[hss]
  exact shown_c l a n c W (by rw[←hr];exact h) hn (hs.call hW) hf (hL.stays hW) (hO.stays hW)
 have CC:Hid (r=true→∀W,Calls Tryz.prog 26 #[.string s] W fun e w'=>e=.returned (.string s)∧Below W.heap.size W w'):=fun h W=>sclone_c s (by
  have:=zbC (by rw[←hr];exact h) hf
  rw[hss,Lx.bs_size]
  omega) W
 rw[←hr]
 have HSS:=hidp hss
 clear hn hb hs hf hL hO hr hss
 go_enter Tryz.func9,Tryz.ntmps9
 go_wp2_with fail
 refine(CR.out).mono ?_
 rintro e w1 ⟨rfl,hb1⟩
 have X1:=hidp hb1
 clear hb1 CR
 cases r with
 | false =>
  go_wp2
  go_ret2
  exact⟨rfl,X1.out⟩
 | true =>
  have C1:=hidp (CS.out rfl w1 X1.out)
  have CCC:=hidp (CC.out rfl)
  clear CS CC
  go_wp2_with fail
  refine(C1.out).mono ?_
  rintro e w2 ⟨rfl,hb2⟩
  have X2:Hid (Below w.heap.size w w2):=X1.out.trans (hb2.mono X1.out.size)
  clear hb2 C1
  have C2:=hidp (CCC.out w2)
  go_wp2_with fail
  refine(C2.out).mono ?_
  rintro e w3 ⟨rfl,hb3⟩
  have X3:Hid (Below w.heap.size w w3):=X2.out.trans (hb3.mono X2.out.size)
  clear hb3 C2 CCC
  go_wp2
  go_ret2
  exact⟨by rw[HSS.out];rfl,X3.out⟩
end Ps
end Go.Proofs.YtfhkaffakniioaaGreatDoor
namespace Go.Proofs.YtfhkaffakniioaaGreatDoor
open Go.RowKit
namespace Ps
theorem writes_w (x:St) (n m:Nat) (ia ea:Option Addr) (ic ec:Nat) (l:List Sp) (la:Option Addr) (ln lc:Nat) (p:Sp) (w:World) (hn:n=x.items.length) (hm:m=x.expr.length) (hln:ln=l.length) (hO:HasO w) (hL:HasL w) (hx:FitX x) (hX:SmallX x) (hM:StM w ia ea x) (hl:Sts w la l) (hf:fitE l) (hS:SmallE l) (hp:p.text.length≤1048576):Calls Tryz.prog 3 #[.agg #[.int .u8 (x.kind:Int),.string (Lx.bs x.table),.string (Lx.bs x.field),.slice ia n ic,.slice ea m ec,.bool x.history,.bool x.desc],.slice la ln lc,.agg #[.int .u8 (p.kind:Int),.string (Lx.bs p.text),.int .i64 p.n]] w fun e w'=>e=.returned (.bool true)∧Below w.heap.size w w':=by
 obtain⟨w2,hw2⟩:∃z,z=(w.alloc (.cells #[.int .u8 (x.kind:Int),.string (Lx.bs x.table),.string (Lx.bs x.field),.slice ia n ic,.slice ea m ec,.bool x.history,.bool x.desc] 26)).alloc (.cells #[.int .u8 (p.kind:Int),.string (Lx.bs p.text),.int .i64 p.n] 29):=⟨_,rfl⟩
 obtain⟨T,hT⟩:∃z,z=w.heap.size:=⟨_,rfl⟩
 obtain⟨U,hU⟩:∃z,z=w.heap.size+1:=⟨_,rfl⟩
 have X2:Hid (w2.heap[T]?=some (.cells #[.int .u8 (x.kind:Int),.string (Lx.bs x.table),.string (Lx.bs x.field),.slice ia n ic,.slice ea m ec,.bool x.history,.bool x.desc] 26 (0,0))∧w2.heap[U]?=some (.cells #[.int .u8 (p.kind:Int),.string (Lx.bs p.text),.int .i64 p.n] 29 (0,0))∧Below w.heap.size w w2):=by
  have e1:(w.alloc (.cells #[.int .u8 (x.kind:Int),.string (Lx.bs x.table),.string (Lx.bs x.field),.slice ia n ic,.slice ea m ec,.bool x.history,.bool x.desc] 26)).heap.size=w.heap.size+1:=Array.size_push ..
  have b1:=bnew w (.cells #[.int .u8 (x.kind:Int),.string (Lx.bs x.table),.string (Lx.bs x.field),.slice ia n ic,.slice ea m ec,.bool x.history,.bool x.desc] 26)
  have b2:=bnew (w.alloc (.cells #[.int .u8 (x.kind:Int),.string (Lx.bs x.table),.string (Lx.bs x.field),.slice ia n ic,.slice ea m ec,.bool x.history,.bool x.desc] 26)) (.cells #[.int .u8 (p.kind:Int),.string (Lx.bs p.text),.int .i64 p.n] 29)
  have q1:=heap_alloc_new w (.cells #[.int .u8 (x.kind:Int),.string (Lx.bs x.table),.string (Lx.bs x.field),.slice ia n ic,.slice ea m ec,.bool x.history,.bool x.desc] 26)
  have q2:=heap_alloc_new (w.alloc (.cells #[.int .u8 (x.kind:Int),.string (Lx.bs x.table),.string (Lx.bs x.field),.slice ia n ic,.slice ea m ec,.bool x.history,.bool x.desc] 26)) (.cells #[.int .u8 (p.kind:Int),.string (Lx.bs p.text),.int .i64 p.n] 29)
  refine⟨?_,?_,?_⟩
  ·rw[hw2,hT]
   exact(b2.block _ (row_lt q1)).trans q1
  ·rw[hw2,hU,←e1]
   exact q2
  ·rw[hw2]
   exact b1.trans (b2.mono b1.size)
 have hB:∀W,Below w2.heap.size w2 W→Below w.heap.size w W:=fun W hW=>X2.out.2.2.trans (hW.mono X2.out.2.2.size)
 obtain⟨s,hs⟩:∃z,z=Lx.bs (printX x):=⟨_,rfl⟩
 obtain⟨pe,hpe⟩:∃z:Int,z=(if rightX x=true then 0 else 13):=⟨_,rfl⟩
 obtain⟨sh,hsh⟩:∃z,z=Lx.bs (if rightE l=true then shownE l else []):=⟨_,rfl⟩
 obtain⟨se,hse⟩:∃z:Int,z=(if rightE l=true then 0 else 13):=⟨_,rfl⟩
 obtain⟨tk,htk⟩:∃z:Int,z=((if zaE p=true then zaI p else 0:Nat):Int):=⟨_,rfl⟩
 obtain⟨tb,htb⟩:∃z,z=zaE p:=⟨_,rfl⟩
 obtain⟨rg,hrg⟩:∃z,z=rightE l:=⟨_,rfl⟩
 obtain⟨cd,hcd⟩:∃z,z=zaM l:=⟨_,rfl⟩
 have CP:Hid (∀W,Below w2.heap.size w2 W→Calls Tryz.prog 7 #[.agg #[.int .u8 (x.kind:Int),.string (Lx.bs x.table),.string (Lx.bs x.field),.slice ia n ic,.slice ea m ec,.bool x.history,.bool x.desc]] W fun e w'=>e=.returned (.tuple #[.string s,.int .i64 pe])∧Below W.heap.size W w'):=fun W hW=>by
  rw[hs,hpe,hn,hm]
  exact print_c x ia ea ic ec W hx (hM.call (hB W hW)) (hL.stays (hB W hW)) (hO.stays (hB W hW))
 have CQ:Hid (∀W,Below w2.heap.size w2 W→Calls Tryz.prog 8 #[.agg #[.int .u8 (x.kind:Int),.string (Lx.bs x.table),.string (Lx.bs x.field),.slice ia n ic,.slice ea m ec,.bool x.history,.bool x.desc]] W fun e w'=>e=.returned (.tuple #[.string s,.int .i64 pe])∧Below W.heap.size W w'):=fun W hW=>by
  rw[hs,hpe,hn,hm]
  exact rprintX_c x ia ea ic ec W hX hx (hM.call (hB W hW)) (hL.stays (hB W hW)) (hO.stays (hB W hW))
 have CS:Hid (∀W,Below w2.heap.size w2 W→Calls Tryz.prog 9 #[.slice la ln lc] W fun e w'=>e=.returned (.tuple #[.string sh,.int .i64 se])∧Below W.heap.size W w'):=fun W hW=>by
  rw[hsh,hse]
  exact showP_c l la ln lc W hln (by rw[hln];exact hf.1) (hl.call (hB W hW)) hf.2 (hL.stays (hB W hW)) (hO.stays (hB W hW))
 have CT:Hid (∀W,Below w2.heap.size w2 W→Calls Tryz.prog 10 #[.slice la ln lc] W fun e w'=>e=.returned (.tuple #[.string sh,.int .i64 se])∧Below W.heap.size W w'):=fun W hW=>by
  rw[hsh,hse]
  exact rshowE_c l la ln lc W hln (hl.call (hB W hW)) hf.2 hS (hL.stays (hB W hW)) (hO.stays (hB W hW))
 have CU:Hid (∀W,Below w2.heap.size w2 W→Calls Tryz.prog 11 #[.agg #[.int .u8 (p.kind:Int),.string (Lx.bs p.text),.int .i64 p.n]] W fun e w'=>e=.returned (.tuple #[.int .i64 tk,.bool tb])∧Below W.heap.size W w'):=fun W hW=>by
  rw[htk,htb]
  exact takesP_c p (by omega) W (hL.stays (hB W hW))
 have CV:Hid (∀W,Below w2.heap.size w2 W→Calls Tryz.prog 12 #[.agg #[.int .u8 (p.kind:Int),.string (Lx.bs p.text),.int .i64 p.n]] W fun e w'=>e=.returned (.tuple #[.int .i64 tk,.bool tb])∧Below W.heap.size W w'):=fun W hW=>by
  rw[htk,htb]
  exact rtakes_c p hp W
 have LV:Hid (∀W,Below w2.heap.size w2 W→Calls Tryz.prog 13 #[] W fun e w'=>e=.returned (.bool true)∧Below W.heap.size W w'):=fun W hW=>by
  exact lives_c W (hO.stays (hB W hW)) (hL.stays (hB W hW))
 have CK:Hid (∀W,Below w2.heap.size w2 W→Calls Tryz.prog 14 #[.agg #[.int .u8 (x.kind:Int),.string (Lx.bs x.table),.string (Lx.bs x.field),.slice ia n ic,.slice ea m ec,.bool x.history,.bool x.desc]] W fun e w'=>e=.returned (.int .i64 pe)∧Below W.heap.size W w'):=fun W hW=>by
  rw[hpe,hn,hm]
  exact zdS x ia ea ic ec W hx (hM.call (hB W hW)) (hL.stays (hB W hW))
 have CL:Hid (∀W,Below w2.heap.size w2 W→Calls Tryz.prog 15 #[.agg #[.int .u8 (x.kind:Int),.string (Lx.bs x.table),.string (Lx.bs x.field),.slice ia n ic,.slice ea m ec,.bool x.history,.bool x.desc]] W fun e w'=>e=.returned (.int .i64 pe)∧Below W.heap.size W w'):=fun W hW=>by
  rw[hpe]
  exact rcheckX_c x n m hn hm ia ea ic ec W hX (hM.call (hB W hW))
 have CR:Hid (∀W,Below w2.heap.size w2 W→Calls Tryz.prog 16 #[.slice la ln lc] W fun e w'=>e=.returned (.bool rg)∧Below W.heap.size W w'):=fun W hW=>by
  rw[hrg]
  exact right_c l la ln lc W hln (by rw[hln];exact hf.1) (hl.call (hB W hW)) hf.2 (hL.stays (hB W hW))
 have CW:Hid (∀W,Below w2.heap.size w2 W→Calls Tryz.prog 17 #[.slice la ln lc] W fun e w'=>e=.returned (.bool rg)∧Below W.heap.size W w'):=fun W hW=>by
  rw[hrg]
  exact zdJ l la ln lc W hln (by rw[hln];exact hS.len) (hl.call (hB W hW)) hS.text
 have CC:Hid (∀W,Below w2.heap.size w2 W→Calls Tryz.prog 18 #[.slice la ln lc] W fun e w'=>e=.returned (.bool cd)∧Below W.heap.size W w'):=fun W hW=>by
  rw[hcd]
  exact closedL_c l la ln lc W hln (by rw[hln];exact hf.1) (hl.call (hB W hW))
 have CD:Hid (∀W,Below w2.heap.size w2 W→Calls Tryz.prog 19 #[.slice la ln lc] W fun e w'=>e=.returned (.bool cd)∧Below W.heap.size W w'):=fun W hW=>by
  rw[hcd]
  exact rclosed_c l la ln lc W hln (by rw[hln];exact hS.len) (hl.call (hB W hW))
 have YA:Hid (∀W,Below w2.heap.size w2 W→W.cell? ⟨T,0,none⟩=some (.int .u8 (x.kind:Int))∧W.cell? ⟨T,1,none⟩=some (.string (Lx.bs x.table))∧W.cell? ⟨T,2,none⟩=some (.string (Lx.bs x.field))∧W.cell? ⟨T,3,none⟩=some (.slice ia n ic)∧W.cell? ⟨T,4,none⟩=some (.slice ea m ec)∧W.cell? ⟨T,5,none⟩=some (.bool x.history)∧W.cell? ⟨T,6,none⟩=some (.bool x.desc)):=fun W hW=>by
  have q:=(hW.block T (row_lt X2.out.1)).trans X2.out.1
  exact⟨by rw[cell_of_row _ _ _ _ _ _ q];rfl,by rw[cell_of_row _ _ _ _ _ _ q];rfl,by rw[cell_of_row _ _ _ _ _ _ q];rfl,by rw[cell_of_row _ _ _ _ _ _ q];rfl,by rw[cell_of_row _ _ _ _ _ _ q];rfl,by rw[cell_of_row _ _ _ _ _ _ q];rfl,by rw[cell_of_row _ _ _ _ _ _ q];rfl⟩
 have ZA:Hid (∀W,Below w2.heap.size w2 W→W.cell? ⟨U,0,none⟩=some (.int .u8 (p.kind:Int))∧W.cell? ⟨U,1,none⟩=some (.string (Lx.bs p.text))∧W.cell? ⟨U,2,none⟩=some (.int .i64 p.n)):=fun W hW=>by
  have q:=(hW.block U (row_lt X2.out.2.1)).trans X2.out.2.1
  exact⟨by rw[cell_of_row _ _ _ _ _ _ q];rfl,by rw[cell_of_row _ _ _ _ _ _ q];rfl,by rw[cell_of_row _ _ _ _ _ _ q];rfl⟩
 have XB:Hid (Below w.heap.size w w2):=X2.out.2.2
 clear X2 hB hn hm hln hO hL hx hX hM hl hf hS hp hs hpe hsh hse htk htb hrg hcd
 obtain⟨y0,y1,y2,y3,y4,y5,y6⟩:=YA.out w2 (Below.refl _ _)
 go_enter Tryz.func3,Tryz.ntmps3
 go_upto_region 1 with fail
 rw[←hw2,←hU,←hT]
 clear hw2 hU hT
 go_wp2_with fail
 refine(CP.out w2 (Below.refl _ _)).mono ?_
 rintro e w3 ⟨rfl,hb3⟩
 have X3:Hid (Below w2.heap.size w2 w3):=hb3
 clear hb3 CP
 clear y0 y1 y2 y3 y4 y5 y6
 obtain⟨y0,y1,y2,y3,y4,y5,y6⟩:=YA.out w3 X3.out
 go_wp2_with fail
 refine(CQ.out w3 X3.out).mono ?_
 rintro e w4 ⟨rfl,hb4⟩
 have X4:Hid (Below w2.heap.size w2 w4):=X3.out.trans (hb4.mono X3.out.size)
 clear hb4 CQ
 clear y0 y1 y2 y3 y4 y5 y6
 go_wp2_with fail
 refine(CS.out w4 X4.out).mono ?_
 rintro e w5 ⟨rfl,hb5⟩
 have X5:Hid (Below w2.heap.size w2 w5):=X4.out.trans (hb5.mono X4.out.size)
 clear hb5 CS
 go_wp2_with fail
 refine(CT.out w5 X5.out).mono ?_
 rintro e w6 ⟨rfl,hb6⟩
 have X6:Hid (Below w2.heap.size w2 w6):=X5.out.trans (hb6.mono X5.out.size)
 clear hb6 CT
 obtain⟨z0,z1,z2⟩:=ZA.out w6 X6.out
 go_wp2_with fail
 refine(CU.out w6 X6.out).mono ?_
 rintro e w7 ⟨rfl,hb7⟩
 have X7:Hid (Below w2.heap.size w2 w7):=X6.out.trans (hb7.mono X6.out.size)
 clear hb7 CU
 clear z0 z1 z2
 obtain⟨z0,z1,z2⟩:=ZA.out w7 X7.out
 go_wp2_with fail
 refine(CV.out w7 X7.out).mono ?_
 rintro e w8 ⟨rfl,hb8⟩
 have X8:Hid (Below w2.heap.size w2 w8):=X7.out.trans (hb8.mono X7.out.size)
 clear hb8 CV
 clear z0 z1 z2
 obtain⟨y0,y1,y2,y3,y4,y5,y6⟩:=YA.out w8 X8.out
 go_upto_region 7 with fail
 go_region_held3 (fun W'=>W'.cell? ⟨T,0,none⟩=some (.int .u8 (x.kind:Int))∧W'.cell? ⟨T,1,none⟩=some (.string (Lx.bs x.table))∧W'.cell? ⟨T,2,none⟩=some (.string (Lx.bs x.field))∧W'.cell? ⟨T,3,none⟩=some (.slice ia n ic)∧W'.cell? ⟨T,4,none⟩=some (.slice ea m ec)∧W'.cell? ⟨T,5,none⟩=some (.bool x.history)∧W'.cell? ⟨T,6,none⟩=some (.bool x.desc)) (go_keep) (first
  |(go_at_call 13;refine(LV.out _ ?_).mono ?_;(first | exact X8.out | exact X8.out.drew);rintro e w9 ⟨rfl,hb9⟩
    have X9:Hid (Below w2.heap.size w2 w9):=(by first | exact X8.out.trans (hb9.mono X8.out.size) | exact X8.out.drew.trans (hb9.mono X8.out.drew.size))
    clear hb9
    obtain⟨y0,y1,y2,y3,y4,y5,y6⟩:=YA.out w9 X9.out)
  |(go_at_call 14;refine(CK.out _ X9.out).mono ?_;rintro e w10 ⟨rfl,hb10⟩
    have X10:Hid (Below w2.heap.size w2 w10):=X9.out.trans (hb10.mono X9.out.size)
    clear hb10
    obtain⟨y0,y1,y2,y3,y4,y5,y6⟩:=YA.out w10 X10.out)
  |(go_at_call 15;refine(CL.out _ X10.out).mono ?_;rintro e w11 ⟨rfl,hb11⟩
    have X11:Hid (Below w2.heap.size w2 w11):=X10.out.trans (hb11.mono X10.out.size)
    clear hb11
    obtain⟨y0,y1,y2,y3,y4,y5,y6⟩:=YA.out w11 X11.out)
  |(go_at_call 16;refine(CR.out _ X11.out).mono ?_;rintro e w12 ⟨rfl,hb12⟩
    have X12:Hid (Below w2.heap.size w2 w12):=X11.out.trans (hb12.mono X11.out.size)
    clear hb12
    obtain⟨y0,y1,y2,y3,y4,y5,y6⟩:=YA.out w12 X12.out)
  |(go_at_call 17;refine(CW.out _ X12.out).mono ?_;rintro e w13 ⟨rfl,hb13⟩
    have X13:Hid (Below w2.heap.size w2 w13):=X12.out.trans (hb13.mono X12.out.size)
    clear hb13
    obtain⟨y0,y1,y2,y3,y4,y5,y6⟩:=YA.out w13 X13.out)
  |(go_at_call 18;refine(CC.out _ X13.out).mono ?_;rintro e w14 ⟨rfl,hb14⟩
    have X14:Hid (Below w2.heap.size w2 w14):=X13.out.trans (hb14.mono X13.out.size)
    clear hb14
    obtain⟨y0,y1,y2,y3,y4,y5,y6⟩:=YA.out w14 X14.out)
  |(go_at_call 19;refine(CD.out _ X14.out).mono ?_;rintro e w15 ⟨rfl,hb15⟩
    have X15:Hid (Below w2.heap.size w2 w15):=X14.out.trans (hb15.mono X14.out.size)
    clear hb15
    obtain⟨y0,y1,y2,y3,y4,y5,y6⟩:=YA.out w15 X15.out)
  )
 all_goals
  go_wp2
  go_ret
  exact⟨rfl,XB.out.trans (X15.out.mono XB.out.size)⟩
end Ps
end Go.Proofs.YtfhkaffakniioaaGreatDoor
namespace Go.Proofs.YtfhkaffakniioaaGreatDoor
open Go.ChangeShapes Go.WideShapes Go.ChangeAt Go.RowKit
open Go.ChangeMaps (open_string shut_string)
namespace parseWritesx
theorem contract (H:Type) (enc:TypeId × Value→H) (W:World) (base:Nat) (args:Array Value) (ds gs:List (DataW H)) (before:List MemPlace)
  (hval:∀(j:Nat) t v,Tryz.f3.params[j]?=some t→args[j]?=some v→Value.okWide Tryz.prog W .any base t v)
  (hW:DataW.Whole enc Tryz.prog Tryz.f3.params.toList Rows.parseWritesSpec.vars false W args.toList ds gs before) (hsz0:(DataW.weightsEach Tryz.prog (Tryz.f3.params.toList++(Rows.OpenSpec.upto Rows.parseWritesSpec).bare.plain.varTypes Tryz.prog) (ds++gs)).all (·≤reachBytes)=true) (hk:Rows.uptoSmall H (ds++gs)=true) (hL:laidMetH Tryz.prog Rows.parseWritesUptoRow.laid W) (hSh:W.ShapedOpen Tryz.prog) :
  Calls Tryz.prog 3 args W fun e W'=>∃v,e=.returned v∧Rows.parseWritesSpec.post enc Tryz.prog Tryz.f3 false true false false W args v W':=by
 have hW':=hW
 obtain⟨p,q,hA0,hV,rfl,hfz,hnd⟩:=hW
 have hA:DataW.TrodAll enc Tryz.prog W 0 (fun _=>true) true Tryz.f3.params.toList args.toList ds p:=hA0
 have hsz:(DataW.weightsEach Tryz.prog (Tryz.f3.params.toList++[]) (ds++gs)).all (·≤reachBytes)=true:=hsz0
 rw[Tryz.params3] at hA hval hsz
 obtain⟨v0,vs0,d0,ds0,p0,q0,hargs,rfl,rfl,h0,r0⟩:=trodAll_cons hA
 obtain⟨v1,vs1,d1,ds1,p1,q1,rfl,rfl,rfl,h1,r1⟩:=trodAll_cons r0
 obtain⟨v2,vs2,d2,ds2,p2,q2,rfl,rfl,rfl,h2,r2⟩:=trodAll_cons r1
 obtain⟨rfl,rfl,rfl⟩:=trodAll_nil r2
 obtain rfl:args=#[v0,v1,v2]:=by cases args;simp_all
 obtain⟨rfl,rfl⟩:=trodVars_none hV
 have k0:=h0
 have k1:=h1
 have k2:=h2
 have hlt0:∀x∈p0,x.block<W.heap.size:=fun x hx=>by
  have:=hW'.lt x (by simp[hx])
  simpa using this
 have hlt1:∀x∈p1,x.block<W.heap.size:=fun x hx=>by
  have:=hW'.lt x (by simp[hx])
  simpa using this
 have hlt2:∀x∈p2,x.block<W.heap.size:=fun x hx=>by
  have:=hW'.lt x (by simp[hx])
  simpa using this
 have hbk:Rows.uptoBulkAll ([d0,d1,d2]++[])≤1048576:=of_decide_eq_true hk
 simp only[List.append_nil,Rows.uptoBulkAll] at hbk
 obtain⟨x0,ia0,ea0,ic0,ec0,rfl,hm0,hx0,hb0⟩:=Ps.open_stmtU (hval 0 26 v0 rfl rfl) h0 (Ps.sizedP_at hsz (j:=0) rfl rfl) (by omega)
 obtain⟨l1,a1,c1,rfl,hS1,hf1,hb1⟩:=Ps.open_stepsvU (hval 1 24 v1 rfl rfl) h1 (Ps.sizedP_at hsz (j:=1) rfl rfl) (by omega)
 obtain⟨i2,rfl,hb2⟩:=Ps.open_stepvU (hval 2 29 v2 rfl rfl) h2 (by omega)
 have hM:=met_of (L:=Rows.parseWritesUptoRow.laid) (by kernel_rfl) hL
 have hLx:HasL W:=hasL_of hM (by simp[Rows.parseWritesUptoRow]) (by simp[Rows.parseWritesUptoRow]) (by simp[Rows.parseWritesUptoRow]) (by simp[Rows.parseWritesUptoRow]) (by simp[Rows.parseWritesUptoRow]) hSh
 have hOx:Ps.HasO W:=Ps.hasO_of hM (by simp[Rows.parseWritesUptoRow])
 have main:Calls Tryz.prog 3 #[.agg (Ps.stv x0 ia0 ic0 ea0 ec0),.slice a1 l1.length c1,.agg #[.int .u8 (i2.kind:Int),.string (Lx.bs i2.text),.int .i64 i2.n]] W fun e w'=>e=.returned (.bool true)∧Below W.heap.size W w':=Ps.writes_w x0 _ _ ia0 ea0 ic0 ec0 l1 a1 _ c1 i2 W rfl rfl rfl hOx hLx hx0 hb0 hm0 hS1 hf1 hb1 hb2
 refine main.mono fun e W' ⟨he,hg⟩=>?_
 subst he
 exact⟨_,rfl,law_post hW' hg rfl rfl rfl rfl rfl (trodAll_cons_mk (Below.trod laidOut (by kernel_rfl) (of_decide_eq_true (by kernel_rfl)) k0 hg hlt0) (trodAll_cons_mk (Below.trod laidOut (by kernel_rfl) (of_decide_eq_true (by kernel_rfl)) k1 hg hlt1) (trodAll_cons_mk (Below.trod laidOut (by kernel_rfl) (of_decide_eq_true (by kernel_rfl)) k2 hg hlt2) trodAll_mk0)))⟩
theorem laid_met (os:Os):laidMet Tryz.prog Rows.parseWritesUptoRow.laid ((World.laidAll Tryz.prog os Rows.parseWritesUptoRow.laid).forCall (fun _ _=>0) ⟨#[],#[.agg #[.int .u8 0,.string .empty,.string .empty,.slice none 0 0,.slice none 0 0,.bool false,.bool false],.slice none 0 0,.agg #[.int .u8 0,.string .empty,.int .i64 0]],[]⟩).memory :=
 laidMet_laidAll _ (by kernel_rfl) (by kernel_rfl)
theorem reads (os:Os) {H:Type} (enc:TypeId × Value→H):∃places,DataW.whole enc Tryz.prog ((World.laidAll Tryz.prog os Rows.parseWritesUptoRow.laid).forCall (fun _ _=>0) ⟨#[],#[.agg #[.int .u8 0,.string .empty,.string .empty,.slice none 0 0,.slice none 0 0,.bool false,.bool false],.slice none 0 0,.agg #[.int .u8 0,.string .empty,.int .i64 0]],[]⟩).memory Tryz.f3.params.toList Rows.parseWritesSpec.vars false (#[.agg #[.int .u8 0,.string .empty,.string .empty,.slice none 0 0,.slice none 0 0,.bool false,.bool false],.slice none 0 0,.agg #[.int .u8 0,.string .empty,.int .i64 0]]:Array Value).toList 8=some ([.agg [.lit (.int .u8 0),.lit (.string []),.lit (.string []),.nil,.nil,.lit (.bool false),.lit (.bool false)],.nil,.agg [.lit (.int .u8 0),.lit (.string []),.lit (.int .i64 0)]],[],places) :=
 ⟨[],by kernel_rfl⟩
theorem lifted (os:Os) (started:os.Started) (H:Type) (enc:TypeId × Value→H) (F:Stop.Interp) :
  ReturnsInHanded {} Tryz.checked os 3 .any ((Rows.OpenSpec.upto Rows.parseWritesSpec).preRow enc Tryz.prog Tryz.f3 Rows.parseWritesUptoRow.domain false Rows.parseWritesUptoRow.laid) (((Rows.OpenSpec.upto Rows.parseWritesSpec).at F).post enc Tryz.prog Tryz.f3 false true false false):=by
 obtain⟨places,hx⟩:=reads os enc
 refine returnsInHanded_of_row (C:=Tryz.checked) (s:=Rows.OpenSpec.upto Rows.parseWritesSpec) own started (by kernel_rfl) Tryz.func3
  (witness_row_atRef (enc:=enc) (C:=Tryz.checked) false (World.laidAll Tryz.prog os Rows.parseWritesUptoRow.laid) #[.agg #[.int .u8 0,.string .empty,.string .empty,.slice none 0 0,.slice none 0 0,.bool false,.bool false],.slice none 0 0,.agg #[.int .u8 0,.string .empty,.int .i64 0]] (World.laidAll_os _ _ _) (by kernel_rfl) (by kernel_rfl) (by kernel_rfl)
   (OpenSpec.preRow_of_cond 8 hx (by kernel_rfl) (fun k hk=>by cases hk;kernel_rfl) (by kernel_rfl) (laid_met os))) ?_
 intro W base args ds gs before hval hW _ hcond hsz hL hSh _
 exact contract H enc W base args ds gs before hval hW hsz (hcond _ rfl) hL hSh
theorem said:Rows.ParseWritesUptoSaid :=
 OpenClaim.holds_of_cond 3 Tryz.f3 rfl rfl rfl rfl rfl rfl rfl ⟨rfl,rfl,rfl,rfl,rfl⟩ rfl rfl rfl rfl rfl (by kernel_rfl) Tryz.func3 (by kernel_rfl)
  (of_decide_eq_true (by kernel_rfl)) (by unfold Func.isWrapper;first | (rw[if_pos (by decide +kernel)];kernel_rfl) | (rw[if_neg (by decide +kernel)];exact⟨rfl,rfl⟩))
  (fun os started H enc _ F=>by rw[OpenClaim.pre_eq_preRow];exact lifted os started H enc F)
theorem plain (f:FuncId) (fn:Func) (hf:Tryz.pinned.checked.prog.funcNamed "codicil/codicillaw10.ParseWrites"=some f) (hfn:Tryz.pinned.checked.prog.funcs[f]?=some fn) :
  true=Tryz.pinned.checked.prog.looks []∧∀(j:Nat) t,fn.params[j]?=some t→Tryz.pinned.checked.prog.wantsStandIn t=false:=by
 obtain rfl:f=3:=Option.some.inj ((show Tryz.prog.funcNamed "codicil/codicillaw10.ParseWrites"=some 3 by kernel_rfl).symm.trans hf) |>.symm
 obtain rfl:fn=Tryz.f3:=(Option.some.inj (Tryz.func3.symm.trans hfn)).symm
 refine⟨by kernel_rfl,fun j t ht=>?_⟩
 rw[Tryz.params3] at ht
 have hm:t=26∨t=24∨t=29:=by simpa using Array.mem_of_getElem? ht
 rcases hm with rfl | rfl | rfl
 ·exact(show Tryz.prog.wantsStandIn 26=false by kernel_rfl)
 ·exact(show Tryz.prog.wantsStandIn 24=false by kernel_rfl)
 ·exact(show Tryz.prog.wantsStandIn 29=false by kernel_rfl)
theorem card:Rows.ParseWritesUptoCardSaid :=
 Claim7.holds_tied_plain_at .later [] _ _ _ _ said (fun _ h=>by cases h) (by kernel_rfl) (fun _ h=>by cases h) parseWritesUpto_row_tie rfl ⟨rfl,rfl⟩ (by kernel_rfl) rfl plain (by kernel_rfl)
end parseWritesx
theorem parseWritesUpto_card:Rows.ParseWritesUptoCardSaid:=parseWritesx.card
end Go.Proofs.YtfhkaffakniioaaGreatDoor
