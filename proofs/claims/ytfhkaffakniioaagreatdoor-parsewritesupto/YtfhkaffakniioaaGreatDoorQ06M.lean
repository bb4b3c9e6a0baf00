/- Several texts, joined. -/
import Derived.Test.YtfhkaffakniioaaGreatDoorLxJM
namespace Go.Proofs.YtfhkaffakniioaaGreatDoor.Lx
structure Tk where
 kind:Nat
 text:Bs
 n:Int
 at':Nat
 deriving DecidableEq
structure Out where
 toks:List Tk
 err:Nat
 pos:Nat
 deriving DecidableEq
def join (ts:List Tk) (o:Out):Out:=if o.err≠0 then ⟨[],o.err,o.pos⟩ else ⟨ts++o.toks,0,0⟩
def lx:Nat→Bs→Nat→Out
 | 0,_,_=>⟨[],0,0⟩
 | n+1,l,a =>
  match l.drop (bl l) with
  | []=>⟨[],0,0⟩
  | x :: r =>
   if (frst (x :: r)).err≠0 then ⟨[],(frst (x :: r)).err,a+bl l⟩
   else join [⟨(frst (x :: r)).kind,(frst (x :: r)).text,(frst (x :: r)).n,a+bl l⟩] (lx n ((x :: r).drop (frst (x :: r)).size) (a+bl l+(frst (x :: r)).size))
def lex (l:Bs):Out:=if 16384<l.length then ⟨[],4,0⟩ else lx (l.length+1) l 0
theorem join_join (a b:List Tk) (o:Out):join a (join b o)=join (a++b) o:=by
 unfold join
 by_cases h:o.err≠0
 ·rw[if_pos h,if_pos (show(Out.mk [] o.err o.pos).err≠0 from h),if_pos h]
 ·rw[if_neg h,if_neg (by simp),if_neg h,List.append_assoc]
theorem bl_drop:∀l:Bs,bl (l.drop (bl l))=0
 | []=>rfl
 | b :: r=>by
  rw[bl]
  by_cases h:b=32∨b=9∨b=10∨b=13
  ·rw[if_pos h,List.drop_succ_cons];exact bl_drop r
  ·rw[if_neg h,List.drop_zero,bl,if_neg h]
theorem lx_blank (n:Nat) (l:Bs) (a:Nat):lx n l a=lx n (l.drop (bl l)) (a+bl l):=by
 cases n with
 | zero=>rfl
 | succ n=>rw[lx,lx,bl_drop,List.drop_zero,Nat.add_zero]
theorem skip (l:Bs) (a k m:Nat) (ha:a≤l.length) (hk:k=a+bl (l.drop a)):k≤l.length∧a≤k∧bl (l.drop k)=0∧lx m (l.drop a) a=lx m (l.drop k) k:=by
 have h1:=bl_le (l.drop a)
 rw[List.length_drop] at h1
 have e:l.drop k=(l.drop a).drop (bl (l.drop a)):=by rw[hk];exact List.drop_drop.symm
 refine⟨by omega,by omega,?_,?_⟩
 ·rw[e];exact bl_drop _
 ·rw[e,hk];exact lx_blank m (l.drop a) a
theorem wsz_pos {x:UInt8} {r:Bs} (h:isW x=true):0<wsz (x :: r):=by rw[wsz,if_pos h];omega
theorem quo_size:∀(n:Nat) (r:Bs),r.length≤n→∀t m,quo r=some (t,m)→0<m∧m≤r.length:=by
 intro n
 induction n with
 | zero =>
  intro r hr t m h
  have:r=[]:=List.eq_nil_of_length_eq_zero (by omega)
  subst this
  rw[quo] at h
  cases h
 | succ n ih =>
  intro r hr t m h
  rw[quo.eq_def] at h
  split at h
  ·cases h
  ·rename_i r'
   obtain⟨⟨t',m'⟩,h1,h2⟩:=Option.map_eq_some_iff.1 h
   cases h2
   have:=ih r' (by simp at hr;omega) t' m' h1
   simp
   omega
  ·cases h
   simp
  ·rename_i b r' _ _
   obtain⟨⟨t',m'⟩,h1,h2⟩:=Option.map_eq_some_iff.1 h
   cases h2
   have:=ih r' (by simp at hr;omega) t' m' h1
   simp
   omega
theorem frst_size {x:UInt8} {r:Bs} (h:(frst (x :: r)).err=0):0<(frst (x :: r)).size∧(frst (x :: r)).size≤(x :: r).length:=by
 rw[frst] at h ⊢
 have hw:=wsz_le (x :: r)
 by_cases h1:isL x.toNat
 ·rw[if_pos h1] at h ⊢
  have hp:=wsz_pos (r:=r) (x:=x) (by rw[isW,h1];rfl)
  rw[word] at h ⊢
  split
  ·exact⟨hp,hw⟩
  ·rename_i hk
   rw[if_neg hk] at h
   split
   ·rename_i h64;rw[if_pos h64] at h;cases h
   ·exact⟨hp,hw⟩
 ·rw[if_neg h1] at h ⊢
  by_cases h2:isD x.toNat
  ·rw[if_pos h2] at h ⊢
   have hp:=wsz_pos (r:=r) (x:=x) (by rw[isW,h2];simp)
   rw[numb] at h ⊢
   split
   ·exact⟨hp,hw⟩
   ·rename_i hn;rw[hn] at h;cases h
  ·rw[if_neg h2] at h ⊢
   by_cases h3:x=39
   ·rw[if_pos h3] at h ⊢
    rw[text] at h ⊢
    simp only[List.drop_succ_cons,List.drop_zero] at h ⊢
    cases hq:quo r with
    | none=>rw[hq] at h;cases h
    | some tm =>
     obtain⟨t,m⟩:=tm
     rw[hq] at h
     have hs:=quo_size _ r (Nat.le_refl _) t m hq
     simp only at h ⊢
     rw[tok] at h ⊢
     split
     ·rename_i h4;rw[if_pos h4] at h;cases h
     ·rename_i h4
      rw[if_neg h4] at h
      split
      ·rename_i h5;rw[if_pos h5] at h;cases h
      ·simp;omega
   ·rw[if_neg h3] at h ⊢
    by_cases h4:0<sgn (x :: r)
    ·rw[if_pos h4] at h ⊢
     refine⟨h4,?_⟩
     show sgn (x :: r)≤_
     rw[sgn]
     cases r with
     | nil=>simp[pre2];split<;>omega
     | cons y r=>simp;split<;>(try split)<;>omega
    ·rw[if_neg h4] at h;cases h
end Go.Proofs.YtfhkaffakniioaaGreatDoor.Lx
namespace Go.Proofs.YtfhkaffakniioaaGreatDoor
namespace Ps
abbrev Bs:=Lx.Bs
abbrev Tk:=Lx.Tk
structure Sp where
 kind:Nat
 text:Bs
 n:Int
deriving DecidableEq
structure S where
 rest:List Tk
 size:Nat
 over:Bool
 why:Nat
 pos:Nat
 around:Nat
 steps:List Sp
def zero:Tk:=⟨0,[],0,0⟩
def place (s:S):Nat:=match s.rest with
 | []=>s.size
 | t :: _=>t.at'
def token (s:S):Tk:=match s.rest with
 | []=>zero
 | t :: _=>t
def fail (e:Nat) (s:S):S:={ s with why:=if s.why=0 then e else s.why,pos:=if s.why=0 then place s else s.pos,rest:=[] }
def next (s:S):S:=if s.over then fail 3 s else { s with rest:=s.rest.tail }
def nextT (s:S):Tk:=if s.over then zero else token s
def is (ts:List Bs) (s:S):Bool:=((token s).kind==2 || (token s).kind==5) && ts.contains (token s).text
def may (ts:List Bs) (s:S):S:=if is ts s then next s else s
def must (ts:List Bs) (s:S):S:=if is ts s then next s else fail 13 s
def mustT (ts:List Bs) (s:S):Bs:=if is ts s then (nextT s).text else []
def name (others:List Bs) (s:S):S:=if (token s).kind=1 then (if others.contains (token s).text then fail 18 s else next s) else fail 13 s
def nameT (others:List Bs) (s:S):Bs:=if (token s).kind=1 then (if others.contains (token s).text then [] else (nextT s).text) else []
def add (p:Sp) (s:S):S:={ s with over:=s.over || s.steps.length==128,steps:=s.steps++[p] }
def kindOf (t:Bs):Nat :=
 if t=[43] then 12 else if t=[45] then 13 else if t=[42] then 14 else if t=[61] then 15 else if t=[60,62] then 16 else if t=[60] then 17 else if t=[60,61] then 18 else if t=[62] then 19 else if t=[62,61] then 20 else if t=[65,78,68] then 21 else if t=[79,82] then 22 else 0
def rowL (part:S→S) (ts:List Bs):Nat→S→S
 | 0,s=>s
 | f+1,s=>if is ts s then rowL part ts f (add ⟨kindOf (nextT s).text,[],0⟩ (part (next s))) else s
def row (part:S→S) (ts:List Bs) (s:S):S:=rowL part ts (part s).rest.length (part s)
def nest (inner:S→S) (s:S):S:=if s.around=16 then fail 10 s else { inner { next s with around:=s.around+1 } with around:=s.around }
def open1 (m:Nat) (s:S):S:={ s with over:=s.over || m==64 }
def partsL {E:Type} (part:S→E→S × E):Nat→Nat→S→E→S × E × Nat
 | 0,m,s,e=>(s,e,m)
 | f+1,m,s,e =>
  if is [[44]] (part (open1 m s) e).1 then partsL part f (m+1) (next (part (open1 m s) e).1) (part (open1 m s) e).2 else ((part (open1 m s) e).1,(part (open1 m s) e).2,m+1)
def parts {E:Type} (part:S→E→S × E) (s:S) (e:E):S × E × Nat:=partsL part (s.rest.length+1) 0 s e
def zaG {E:Type} (closing:Bs) (part:S→E→S × E) (s:S) (e:E):S × E × Nat :=
 if is [closing] s then (next s,e,0) else (must [closing] (parts part s e).1,(parts part s e).2.1,(parts part s e).2.2)
def nots (cmp:S→S):Nat→S→S
 | 0,s=>s
 | f+1,s=>if is [[78,79,84]] s then add ⟨10,[],0⟩ (nest (nots cmp f) s) else cmp s
def zbB (prim:S→S):Nat→S→S
 | 0,s=>s
 | f+1,s=>if is [[45]] s then add ⟨9,[],0⟩ (nest (zbB prim f) s) else prim s
def cmps:List Bs:=[[61],[60,62],[60],[60,61],[62],[62,61]]
def zaV (sum:S→S) (s:S):S :=
 if is cmps (sum s) then add ⟨kindOf (nextT (sum s)).text,[],0⟩ (sum (next (sum s)))
 else if is [[73,83]] (sum s) then
  (if is [[78,79,84]] (next (sum s)) then add ⟨10,[],0⟩ (add ⟨11,[],0⟩ (must [[78,85,76,76]] (next (next (sum s))))) else add ⟨11,[],0⟩ (must [[78,85,76,76]] (next (sum s))))
 else sum s
def join (sep:Bs):List Bs→Bs
 | []=>[]
 | [x]=>x
 | x :: r=>x++sep++join sep r
def pathL:Nat→S→List Bs→S × List Bs
 | 0,s,l=>(s,l)
 | f + 1, s, l => if is [[46]] s then
   (if (token (next s)).kind=3 then pathL f (next (next s)) (l++[Lib.itoa (token (next s)).n]) else pathL f (name [] (next s)) (l++[nameT [] (next s)]))
  else (s,l)
def path (s:S):S × List Bs:=pathL (name [] s).rest.length (name [] s) [nameT [] s]
def listP (ors:S→S) (s:S) (_:Unit):S × Unit:=(ors s,())
def list (ors:S→S) (s:S):S:=add ⟨7,[],((zaG [93] (listP ors) s ()).2.2:Int)⟩ (zaG [93] (listP ors) s ()).1
def fieldP (ors:S→S) (s:S) (l:List Bs):S × List Bs:=(ors (must [[58]] (name l s)),l++[nameT l s])
def fields (ors:S→S) (s:S):S:=add ⟨8,join [44] (zaG [125] (fieldP ors) s []).2.1,((zaG [125] (fieldP ors) s []).2.2:Int)⟩ (zaG [125] (fieldP ors) s []).1
def closed (ors:S→S) (s:S):S:=must [[41]] (ors s)
def zaQ (ors:S→S) (s:S):S :=
 if (token s).kind=3 then add ⟨4,[],(nextT s).n⟩ (next s)
 else if (token s).kind=4 then add ⟨5,(nextT s).text,0⟩ (next s)
 else if (token s).kind=1 then add ⟨6,join [46] (path s).2,0⟩ (path s).1
 else if is [[78,85,76,76]] s then add ⟨1,[],0⟩ (next s)
 else if is [[84,82,85,69]] s then add ⟨2,[],0⟩ (next s)
 else if is [[70,65,76,83,69]] s then add ⟨3,[],0⟩ (next s)
 else if is [[40]] s then nest (closed ors) s
 else if is [[91]] s then nest (list ors) s
 else if is [[123]] s then nest (fields ors) s
 else fail 13 s
def signed (ors:S→S) (s:S):S:=zbB (zaQ ors) 20001 s
def product (ors:S→S) (s:S):S:=row (signed ors) [[42]] s
def sum (ors:S→S) (s:S):S:=row (product ors) [[43],[45]] s
def not (ors:S→S) (s:S):S:=nots (zaV (sum ors)) 20001 s
def ands (ors:S→S) (s:S):S:=row (not ors) [[65,78,68]] s
def orsOf (ors:S→S) (s:S):S:=row (ands ors) [[79,82]] s
def ors:Nat→S→S
 | 0,s=>s
 | n+1,s=>orsOf (ors n) s
structure Less (s s':S):Prop where
 rest:s'.rest.length≤s.rest.length
 both:s'.steps.length+s'.rest.length≤s.steps.length+s.rest.length
 around:s'.around=s.around
 size:s'.size=s.size
theorem Less.refl (s:S):Less s s:=⟨Nat.le_refl _,Nat.le_refl _,rfl,rfl⟩
theorem Less.trans {a b c:S} (h:Less a b) (k:Less b c):Less a c:=⟨Nat.le_trans k.rest h.rest,Nat.le_trans k.both h.both,k.around.trans h.around,k.size.trans h.size⟩
theorem zbY (e:Nat) (s:S):Less s (fail e s):=⟨Nat.zero_le _,Nat.le_trans (Nat.add_le_add_left (Nat.zero_le _) _) (Nat.le_refl _),rfl,rfl⟩
theorem zaH (s:S):Less s (next s):=by
 unfold next
 split
 ·exact zbY _ _
 ·exact⟨by simp,by simp,rfl,rfl⟩
theorem zaA {s:S} (h:s.rest≠[]):(next s).rest.length+1≤s.rest.length∧(next s).steps.length+(next s).rest.length+1≤s.steps.length+s.rest.length:=by
 have hp:0<s.rest.length:=List.length_pos_iff.2 h
 unfold next
 split
 ·exact⟨by simp[fail];omega,by simp[fail];omega⟩
 ·exact⟨by simp;omega,by simp;omega⟩
theorem is_ne {ts:List Bs} {s:S} (h:is ts s=true):s.rest≠[]:=by
 intro e
 unfold is token at h
 rw[e] at h
 exact Bool.noConfusion h
theorem zcT {k:Nat} {s:S} (hk:k≠0) (h:(token s).kind=k):s.rest≠[]:=by
 intro e
 unfold token at h
 rw[e] at h
 exact hk h.symm
theorem zcU {e:Nat} {s:S} (h:s.rest≠[]):(fail e s).rest.length+1≤s.rest.length∧(fail e s).steps.length+(fail e s).rest.length+1≤s.steps.length+s.rest.length:=by
 have hp:0<s.rest.length:=List.length_pos_iff.2 h
 exact⟨by simp[fail];omega,by simp[fail];omega⟩
theorem zbP {p:Sp} {s s':S} (h:Less s s') (h1:s'.steps.length+s'.rest.length+1≤s.steps.length+s.rest.length):Less s (add p s'):=⟨h.rest,by simp[add];omega,h.around,h.size⟩
theorem zbA (ts:List Bs) (s:S):Less s (must ts s):=by
 unfold must
 split
 ·exact zaH _
 ·exact zbY _ _
theorem zbH (l:List Bs) (s:S):Less s (name l s):=by
 unfold name
 split
 ·split
  ·exact zbY _ _
  ·exact zaH _
 ·exact zbY _ _
theorem less_rowL {part:S→S} {ts:List Bs} (hp:∀s,Less s (part s)):∀(f:Nat) (s:S),Less s (rowL part ts f s)
 | 0,s=>Less.refl s
 | f+1,s=>by
  rw[rowL]
  split
  ·rename_i h
   have h1:=zaA (is_ne h)
   have h2:=hp (next s)
   exact(zbP ((zaH s).trans h2) (by have:=h2.both;omega)).trans (less_rowL hp f _)
  ·exact Less.refl s
theorem zcM {part:S→S} (ts:List Bs) (hp:∀s,Less s (part s)) (s:S):Less s (row part ts s):=(hp s).trans (less_rowL hp _ _)
theorem less_nest {inner:S→S} (hp:∀s,Less s (inner s)) (s:S):Less s (nest inner s):=by
 unfold nest
 split
 ·exact zbY _ _
 ·have h:=hp { next s with around:=s.around+1 }
  have h2:=zaH s
  exact⟨Nat.le_trans h.rest h2.rest,Nat.le_trans h.both h2.both,rfl,h.size.trans h2.size⟩
theorem zcC {inner:S→S} (hp:∀s,Less s (inner s)) {s:S} (h0:s.rest≠[]):(nest inner s).rest.length+1≤s.rest.length∧(nest inner s).steps.length+(nest inner s).rest.length+1≤s.steps.length+s.rest.length:=by
 unfold nest
 split
 ·exact zcU h0
 ·have h:=hp { next s with around:=s.around+1 }
  have h2:=zaA h0
  have h3:=h.rest
  have h4:=h.both
  exact⟨by have:({ next s with around:=s.around+1 }:S).rest=(next s).rest:=rfl;rw[this] at h3;show(inner _).rest.length+1≤_;omega,by
   have e1:({ next s with around:=s.around+1 }:S).rest=(next s).rest:=rfl
   have e2:({ next s with around:=s.around+1 }:S).steps=(next s).steps:=rfl
   rw[e1,e2] at h4
   show(inner _).steps.length+(inner _).rest.length+1≤_
   omega⟩
theorem less_nest1 {inner:S→S} (hp:∀s,∃p s',inner s=add p s'∧Less s s') {s:S} (h0:s.rest≠[]):Less s (nest inner s):=by
 unfold nest
 split
 ·exact zbY _ _
 ·obtain⟨p,s',e,h⟩:=hp { next s with around:=s.around+1 }
  have h2:=zaA h0
  have h3:=h.rest
  have h4:=h.both
  have e1:({ next s with around:=s.around+1 }:S).rest=(next s).rest:=rfl
  have e2:({ next s with around:=s.around+1 }:S).steps=(next s).steps:=rfl
  rw[e1] at h3
  rw[e1,e2] at h4
  rw[e]
  refine⟨by show s'.rest.length≤_;omega,by simp[add];omega,rfl,h.size.trans (zaH s).size⟩
theorem zbO (m:Nat) (s:S):Less s (open1 m s):=⟨Nat.le_refl _,Nat.le_refl _,rfl,rfl⟩
theorem less_partsL {E:Type} {part:S→E→S × E} (hp:∀s e,Less s (part s e).1):∀(f m:Nat) (s:S) (e:E),Less s (partsL part f m s e).1
 | 0,_,s,_=>Less.refl s
 | f+1,m,s,e=>by
  rw[partsL]
  have h:=(zbO m s).trans (hp (open1 m s) e)
  split
  ·exact(h.trans (zaH _)).trans (less_partsL hp f _ _ _)
  ·exact h
theorem less_parts {E:Type} {part:S→E→S × E} (hp:∀s e,Less s (part s e).1) (s:S) (e:E):Less s (parts part s e).1:=less_partsL hp _ _ _ _
theorem zcR {E:Type} {part:S→E→S × E} (closing:Bs) (hp:∀s e,Less s (part s e).1) (s:S) (e:E):Less s (zaG closing part s e).1:=by
 unfold zaG
 split
 ·exact zaH _
 ·exact(less_parts hp s e).trans (zbA _ _)
theorem zcS {cmp:S→S} (hp:∀s,Less s (cmp s)):∀(f:Nat) (s:S),Less s (nots cmp f s)
 | 0,s=>Less.refl s
 | f+1,s=>by
  rw[nots]
  split
  ·rename_i h
   exact zbP (less_nest (zcS hp f) s) (zcC (zcS hp f) (is_ne h)).2
  ·exact hp s
theorem zbT {prim:S→S} (hp:∀s,Less s (prim s)):∀(f:Nat) (s:S),Less s (zbB prim f s)
 | 0,s=>Less.refl s
 | f+1,s=>by
  rw[zbB]
  split
  ·rename_i h
   exact zbP (less_nest (zbT hp f) s) (zcC (zbT hp f) (is_ne h)).2
  ·exact hp s
theorem zbZ {sum:S→S} (hp:∀s,Less s (sum s)) (s:S):Less s (zaV sum s):=by
 unfold zaV
 have h0:=hp s
 split
 ·rename_i h
  have h1:=zaA (is_ne h)
  have h2:=hp (next (sum s))
  exact zbP ((h0.trans (zaH _)).trans h2) (by have:=h2.both;have:=h0.both;omega)
 ·split
  ·rename_i h
   have h1:=zaA (is_ne h)
   split
   ·rename_i h3
    have h4:=zaA (is_ne h3)
    have h5:=zbA [[78,85,76,76]] (next (next (sum s)))
    have h6:Less s (must [[78,85,76,76]] (next (next (sum s)))):=((h0.trans (zaH _)).trans (zaH _)).trans h5
    refine⟨h6.rest,?_,h6.around,h6.size⟩
    have:=h5.both
    have:=h0.both
    simp[add]
    omega
   ·have h5:=zbA [[78,85,76,76]] (next (sum s))
    exact zbP ((h0.trans (zaH _)).trans h5) (by have:=h5.both;have:=h0.both;omega)
  ·exact h0
theorem zcZ:∀(f:Nat) (s:S) (l:List Bs),Less s (pathL f s l).1
 | 0,s,_=>Less.refl s
 | f+1,s,l=>by
  rw[pathL]
  split
  ·split
   ·exact((zaH s).trans (zaH _)).trans (zcZ f _ _)
   ·exact((zaH s).trans (zbH _ _)).trans (zcZ f _ _)
  ·exact Less.refl s
theorem name_shrinks {l:List Bs} {s:S} (h:s.rest≠[]):(name l s).rest.length+1≤s.rest.length∧(name l s).steps.length+(name l s).rest.length+1≤s.steps.length+s.rest.length:=by
 unfold name
 split
 ·split
  ·exact zcU h
  ·exact zaA h
 ·exact zcU h
theorem less_path (s:S):Less s (path s).1:=(zbH [] s).trans (zcZ _ _ _)
theorem path_shrinks {s:S} (h:s.rest≠[]):(path s).1.steps.length+(path s).1.rest.length+1≤s.steps.length+s.rest.length:=by
 have h1:=(name_shrinks (l:=[]) h).2
 have h2:=(zcZ (name [] s).rest.length (name [] s) [nameT [] s]).both
 show(pathL _ _ _).1.steps.length+_+1≤_
 unfold path
 omega
theorem less_primary {ors:S→S} (hp:∀s,Less s (ors s)) (s:S):Less s (zaQ ors s):=by
 have hl:∀s e,Less s (listP ors s e).1:=fun s _=>hp s
 have hf:∀s e,Less s (fieldP ors s e).1:=fun s e=>((zbH e s).trans (zbA _ _)).trans (hp _)
 have one:∀p,s.rest≠[]→Less s (add p (next s)):=fun p h=>zbP (zaH s) (zaA h).2
 unfold zaQ
 split
 ·rename_i h
  exact one _ (zcT (by decide) h)
 split
 ·rename_i h
  exact one _ (zcT (by decide) h)
 split
 ·rename_i h
  exact zbP (less_path s) (path_shrinks (zcT (by decide) h))
 split
 ·rename_i h
  exact one _ (is_ne h)
 split
 ·rename_i h
  exact one _ (is_ne h)
 split
 ·rename_i h
  exact one _ (is_ne h)
 split
 ·exact less_nest (fun s=>(hp s).trans (zbA _ _)) s
 split
 ·rename_i h
  exact less_nest1 (fun s=>⟨_,_,rfl,zcR [93] hl s ()⟩) (is_ne h)
 split
 ·rename_i h
  exact less_nest1 (fun s=>⟨_,_,rfl,zcR [125] hf s []⟩) (is_ne h)
 ·exact zbY _ _
theorem less_ors:∀(n:Nat) (s:S),Less s (ors n s)
 | 0,s=>Less.refl s
 | n+1,s=>by
  have h1:=less_primary (less_ors n)
  have h2:∀s,Less s (signed (ors n) s):=fun s=>zbT h1 _ s
  have h3:∀s,Less s (product (ors n) s):=fun s=>zcM _ h2 s
  have h4:∀s,Less s (sum (ors n) s):=fun s=>zcM _ h3 s
  have h5:∀s,Less s (not (ors n) s):=fun s=>zcS (zbZ h4) _ s
  have h6:∀s,Less s (ands (ors n) s):=fun s=>zcM _ h5 s
  exact zcM _ h6 s
end Ps
end Go.Proofs.YtfhkaffakniioaaGreatDoor
