/- Several texts, joined: BinNum, BinRM, BinW, BinF, BinS, BinWr, BinV, BinRead, BinM -/
import Derived.Test.YtggnfejjcgbebaaGreatDoorJAM
import Derived.OwnWalk
import Derived.Deep.AppendLies
import Derived.Laws.BitsAllLaws
import Derived.Laws.IdiomStrings
import Derived.Laws.OwnMore
import Derived.Lib.UnsafeStr
import Derived.OneCell
import Derived.Lib.AppendStr
import Derived.Deep.RegionLawGrows
import Derived.Deep.Cut
import Derived.Lib.Strings
import Derived.Deep.Upon
/- What bin.Number makes of a number: seven bits a byte, the lowest first. -/
namespace Go.Proofs.YtggnfejjcgbebaaGreatDoor
open Go.RowKit
namespace Bn
def num (n:Nat):List UInt8:=if n<128 then [UInt8.ofNat n] else UInt8.ofNat (n % 128+128) :: num (n / 128)
theorem num_low {n:Nat} (h:n<128):num n=[UInt8.ofNat n]:=by rw [num,if_pos h]
theorem num_high {n:Nat} (h:128≤n):num n=UInt8.ofNat (n % 128+128) :: num (n / 128):=by rw [num,if_neg (by omega)]
theorem len_le {l m:Nat} (h:(m+1)*2 ^ l≤18446744073709551616):l≤64:=by
  have h1:2 ^ l≤2 ^ 64:=Nat.le_trans (Nat.le_mul_of_pos_left _ (by omega)) h
  exact (Nat.pow_le_pow_iff_right (by decide)).1 h1
theorem len_next {l m:Nat} (hm:128≤m) (h:(m+1)*2 ^ l≤18446744073709551616):(m / 128+1)*2 ^ (l+1)≤18446744073709551616:=by
  refine Nat.le_trans ?_ h
  rw [Nat.pow_succ,Nat.mul_comm (2 ^ l) 2,←Nat.mul_assoc]
  exact Nat.mul_le_mul_right _ (by omega)
theorem or128 (m:Nat):bits .or .u8 ((m:Int) % 256) 128=((m % 128+128:Nat):Int):=by
  have e:((m:Int) % 256)=((m % 256:Nat):Int):=by omega
  rw [e,show (128:Int)=((128:Nat):Int) from rfl,u8_or_nat _ _ (by omega) (by decide)]
  have:∀a:Fin 256,(a.val ||| 128:Nat)=a.val % 128+128:=by decide +kernel
  have h:=this ⟨m % 256,by omega⟩
  simp only at h
  rw [h]
  congr 2
  omega
theorem info5:(Tryz.prog.info? 5).map (fun i=>(i.zero,i.size,i.bytes))=some (some (.int .u8 0),1,1):=by kernel_rfl
theorem block_le {w:World} {base n:Nat} {v:Value} {xs:List Value} (h:w.ownsRow base 5 1 v n xs):∀k,v.ownBlock=some k→base≤k:=by
  intro k hk
  rcases h.2 with ⟨rfl,_⟩ | ⟨g,cap,cur,rfl,hg,_⟩
  · simp [Value.ownBlock] at hk
  · simp [Value.ownBlock] at hk;omega
theorem cell_new (w:World) (u:Value) (t:TypeId) (j:Nat) (x:Value) (hj:[u][j]?=some x):(w.alloc (.cells #[u] t)).cell? ((⟨w.heap.size,0,none⟩:Addr).add j)=some x:=by
  match j,hj with
  | 0,hj=>simp at hj;subst hj;simp [Addr.add]
theorem made_own (w:World) (M:Array Value) (n:Nat) (hM:M.size=n) (hn:n≤4294967296):(w.alloc (.cells M 5)).ownsRow w.heap.size 5 1 (.slice (some ⟨w.heap.size,0,none⟩) 0 n) 0 [] :=
  ⟨rfl,Or.inr ⟨w.heap.size,n,M,rfl,Nat.le_refl _,heap_alloc_new w _,Nat.zero_le _,by unfold maxLen;omega,by omega,by simp⟩⟩
theorem own_string {w:World} {base:Nat} {v:Value} {l:List UInt8} (h:w.ownsRow base 5 1 v l.length (Lib.byteCells l)) (hl:l≠[]) :
    ∃g n cap str,v=.slice (some ⟨g,0,none⟩) n cap∧(Go.convert 61 9 (.slice (some ⟨g,0,none⟩) n cap)).run Tryz.prog w=.ok (.string str) w∧Hid (str=⟨l.toArray⟩):=by
  have h0:l.length≠0:=fun e=>hl (List.eq_nil_of_length_eq_zero e)
  rcases h.2 with ⟨_,h'⟩ | ⟨g,cap,cur,rfl,_⟩
  · exact absurd h' h0
  · refine ⟨g,l.length,cap,_,rfl,run_convert_bytes_back w 61 9 5 ⟨g,0,none⟩ cap l Tryz.underlying61 Tryz.underlying5 Tryz.underlying9 (fun j hj=>?_),rfl⟩
    have e:(⟨g,0,none⟩:Addr).add j=⟨g,j,none⟩:=by rw [Addr.add_mid];simp
    rw [e,h.cellAt j (by omega)]
    simp [Lib.byteCells,hj]
theorem snoc (l:List UInt8) (b:UInt8) (x:Int) (h:(b.toNat:Int)=x):Lib.byteCells (l++[b])=Lib.byteCells l++[.int .u8 x]:=by
  subst h
  simp [Lib.byteCells]
theorem toNat_hi (m:Nat):((UInt8.ofNat (m % 128+128)).toNat:Int)=(m:Int) % 128+128:=by
  rw [UInt8.toNat_ofNat'];omega
theorem toNat_lo {m:Nat} (h:¬128≤m):((UInt8.ofNat m).toNat:Int)=(m:Int):=by
  rw [UInt8.toNat_ofNat'];omega
end Bn
theorem ret_strV {a b:ByteArray} (h:a=b):Ending.returned (.string a)=.returned (.string b):=by rw [h]
set_option maxHeartbeats 2000000 in
set_option maxRecDepth 10000 in
theorem number25 (n:Nat) (hn:n<18446744073709551616) (w:World) :
    Calls Tryz.prog 148 #[.int .u64 n] w fun e w'=>e=.returned (.string ⟨(Bn.num n).toArray⟩)∧Below w.heap.size w w':=by
  obtain ⟨i0,hi,hz0,hz1,hz2⟩:=Go.info_parts Bn.info5
  obtain ⟨M,hM⟩:∃M,M=madeCells (Value.int .u8 0).cells (10*i0.size):=⟨_,rfl⟩
  have hmk:∀u:World,(Instr.makeSlice 61 (.int .i64 0) (.int .i64 10)).run Tryz.prog u=.ok (.slice (some ⟨u.heap.size,0,none⟩) 0 10) (u.alloc (.cells M 5)):=fun u=>by
    have h:=run_make (P:=Tryz.prog) u 61 5 i0 (.int .u8 0) Tryz.underlying61 hi hz0 .i64 .i64 0 10 (by omega) (by omega) (by rw [hz2];omega) (by omega)
    rw [show (10:Int).toNat=10 by omega,←hM] at h
    exact h
  have hMs:M.size=10:=by rw [hM,size_madeCells,hz1]
  have HO:Hid ((w.alloc (.cells M 5)).ownsRow w.heap.size 5 1 (.slice (some ⟨w.heap.size,0,none⟩) 0 10) 0 []):=Bn.made_own w M _ hMs (by omega)
  clear hM hMs
  go_enter Tryz.func148,Tryz.ntmps148
  go_wp2
  go_loopw [0,3] (fun nv v wr=>∃(m:Nat) (l:List UInt8),nv=.int .u64 m∧m<18446744073709551616∧Bn.num n=l++Bn.num m∧(m+1)*2 ^ l.length≤18446744073709551616∧wr.ownsRow w.heap.size 5 1 v l.length (Lib.byteCells l)∧Below w.heap.size w wr∧w.heap.size+1≤wr.heap.size) (fun nv _ _=>(intOf nv).toNat)
  case atStart=>exact ⟨n,[],rfl,hn,rfl,by simp;omega,HO.out,(Below.refl _ _).alloc (Nat.le_refl _) _,by simp⟩
  case round =>
    obtain ⟨m,l,rfl,hm,hnum,hpw,hown,hnx,hsz⟩:=hrel
    clear HO hmk
    have HL:Hid (l.length≤64):=Bn.len_le hpw
    have HB63:Hid (l.length+1≤maxLen):=by have:=HL.out;show _≤_;unfold maxLen;omega
    have HB47:Hid ((l.length+1)*1≤140737488355328):=by have:=HL.out;show _≤_;omega
    have HBS:Hid (∀k,_→_):=Bn.block_le hown
    have HOW:Hid (wr.ownsRow _ _ _ _ _ _):=hown
    have HPW:Hid ((m+1)*2 ^ l.length≤18446744073709551616):=hpw
    have HNUM:Hid (Bn.num n=l++Bn.num m):=hnum
    clear hown hpw hnum
    by_cases hge:128≤m
    · have q1:(128:Int)≤(m:Int):=by omega
      have HNX:Hid (Lib.byteCells (l++[UInt8.ofNat (m % 128+128)])=Lib.byteCells l++[.int .u8 ((m:Int) % 128+128)]):=Bn.snoc _ _ _ (Bn.toNat_hi m)
      have hor:=Bn.or128 m
      go_wp2_with (first | (at_builtin;refine wpList_append_own _ rfl _ _ 61 rfl w.heap.size 5 i0 (.int .u8 0) 1 1 Tryz.underlying61 hi hz0 hz1 hz2 rfl (by decide) _ _ _ rfl (HOW.out.alloc _) ⟨wr.heap.size,0,none⟩ 1 1 [.int .u8 ((m:Int) % 128+128)] rfl rfl (Bn.cell_new _ _ _) ?c2 ?c3 ?c4 ?c5 ?_))
      case c2=>intro u hu;simp at hu;subst hu;rfl
      case c3=>exact HB63.out
      case c4=>exact HB47.out
      case c5=>simp;omega
      · intro v' w1 hown' hgrow _
        have R1:Hid (w1.ownsRow w.heap.size 5 1 v' (l++[UInt8.ofNat (m % 128+128)]).length (Lib.byteCells (l++[UInt8.ofNat (m % 128+128)]))):=by
          rw [HNX.out,List.length_append]
          exact hown'
        have R2:Hid (Below w.heap.size w w1):=(hnx.alloc (by omega) _).grown hgrow (by simp;omega) HBS.out
        have R3:Hid (w.heap.size+1≤w1.heap.size):=by
          have:=hgrow.size
          simp at this
          show _≤_
          omega
        have R4:Hid (Bn.num n=(l++[UInt8.ofNat (m % 128+128)])++Bn.num (m / 128)):=by
          show _=_
          rw [HNUM.out,Bn.num_high hge];simp
        have R5:Hid ((m / 128+1)*2 ^ (l++[UInt8.ofNat (m % 128+128)]).length≤18446744073709551616):=by
          rw [List.length_append];exact Bn.len_next hge HPW.out
        clear hown' hgrow hnx hsz
        obtain ⟨q,hq⟩:∃q,q=m / 128:=⟨_,rfl⟩
        have hqm:q<m:=by omega
        rw [←hq] at R4 R5
        have q2:(m:Int) / 128=(q:Int):=by omega
        clear hq
        go_wp2
        go_roundw
        case rel=>exact ⟨q,_,rfl,by omega,R4.out,R5.out,R1.out,R2.out,R3.out⟩
        case measure=>simp [intOf];omega
    · have q1:¬(128:Int)≤(m:Int):=by omega
      have q2:(m:Int) % 256=(m:Int):=by omega
      have HNX:Hid (Lib.byteCells (l++[UInt8.ofNat m])=Lib.byteCells l++[.int .u8 (m:Int)]):=Bn.snoc _ _ _ (Bn.toNat_lo hge)
      have HALL:Hid (Bn.num n=l++[UInt8.ofNat m]):=by
        show _=_
        rw [HNUM.out,Bn.num_low (by omega)]
      have HSZ:Hid (w.heap.size≤(wr.alloc (.cells #[.int .u8 (m:Int)] 5)).heap.size):=by show _≤_;simp;omega
      go_wp2_with (first | (at_builtin;refine wpList_append_own _ rfl _ _ 61 rfl w.heap.size 5 i0 (.int .u8 0) 1 1 Tryz.underlying61 hi hz0 hz1 hz2 rfl (by decide) _ _ _ rfl (HOW.out.alloc _) ⟨wr.heap.size,0,none⟩ 1 1 [.int .u8 (m:Int)] rfl rfl (Bn.cell_new _ _ _) (by intro u hu;simp at hu;subst hu;rfl) HB63.out HB47.out HSZ.out ?_;intro v' w1 hown' hgrow hx;have R1:=hown';rw [←HNX.out] at R1;obtain ⟨g,k,cap,str,hv,hconv,hstr⟩:=Bn.own_string (l:=l++[UInt8.ofNat m]) (by rw [List.length_append];exact R1) (by simp);have R2:Hid (Below w.heap.size w w1):=(hnx.alloc (by omega) _).grown hgrow (by simp;omega) HBS.out;clear R1 hown' hgrow hnx hsz hx;subst hv))
      all_goals
        go_ret
        exact ⟨ret_strV (by rw [hstr.out,HALL.out]),R2.out⟩
end Go.Proofs.YtggnfejjcgbebaaGreatDoor
/- Reading a number off a text: which texts begin with a number's bytes. -/
namespace Go.Proofs.YtggnfejjcgbebaaGreatDoor
open Go.RowKit
namespace Bn
def val:List UInt8→Nat
  | []=>0
  | b :: r=>b.toNat % 128+128*val r
def high (l:List UInt8):Prop:=∀b∈l,128≤b.toNat
theorem val_append (l r:List UInt8):val (l++r)=val l+128 ^ l.length*val r:=by
  induction l with
  | nil=>simp [val]
  | cons b l ih =>
    rw [List.cons_append,val,ih,val,List.length_cons,Nat.pow_succ,Nat.mul_add,←Nat.mul_assoc,Nat.mul_comm 128 (128 ^ l.length)]
    omega
theorem val_lt (l:List UInt8):val l<128 ^ l.length:=by
  induction l with
  | nil=>simp [val]
  | cons b l ih =>
    rw [val,List.length_cons,Nat.pow_succ]
    have:=Nat.mod_lt b.toNat (show 128 > 0 by omega)
    omega
theorem hi_toNat (m:Nat):(UInt8.ofNat (m % 128+128)).toNat=m % 128+128:=by rw [UInt8.toNat_ofNat'];omega
theorem lo_toNat {m:Nat} (h:m<128):(UInt8.ofNat m).toNat=m:=by rw [UInt8.toNat_ofNat'];omega
theorem val_num (n:Nat):val (num n)=n:=by
  induction n using Nat.strongRecOn with
  | _ n ih =>
    by_cases h:n<128
    · rw [num_low h,val,val,lo_toNat h];omega
    · rw [num_high (by omega),val,ih (n / 128) (by omega),hi_toNat];omega
theorem num_ends {m:Nat} {p r:List UInt8} {b:UInt8} (hp:high p) (hb:b.toNat<128) (h:num m <+: p++b :: r):num m=p++[b]:=by
  induction p generalizing m with
  | nil =>
    by_cases hm:m<128
    · rw [num_low hm] at h ⊢
      rw [List.nil_append,List.cons_prefix_cons] at h
      rw [h.1,List.nil_append]
    · rw [num_high (by omega),List.nil_append,List.cons_prefix_cons] at h
      have:=hi_toNat m
      rw [h.1] at this
      omega
  | cons x p ih =>
    by_cases hm:m<128
    · rw [num_low hm,List.cons_append,List.cons_prefix_cons] at h
      have:=lo_toNat hm
      rw [h.1] at this
      have:=hp x (by simp)
      omega
    · rw [num_high (by omega),List.cons_append,List.cons_prefix_cons] at h
      rw [num_high (by omega),h.1,ih (fun y hy=>hp y (by simp [hy])) h.2,List.cons_append]
theorem num_low_in (m:Nat):∃b∈num m,b.toNat<128:=by
  induction m using Nat.strongRecOn with
  | _ m ih =>
    by_cases h:m<128
    · rw [num_low h];exact ⟨UInt8.ofNat m,by simp,by rw [lo_toNat h];exact h⟩
    · obtain ⟨b,hb,h2⟩:=ih (m / 128) (by omega)
      rw [num_high (by omega)];exact ⟨b,by simp [hb],h2⟩
theorem num_len {k:Nat}:∀{m:Nat},m<128 ^ (k+1)→(num m).length≤k+1:=by
  induction k with
  | zero=>intro m h;rw [num_low (by simpa using h)];simp
  | succ k ih =>
    intro m h
    by_cases hm:m<128
    · rw [num_low hm];simp
    · rw [num_high (by omega),List.length_cons]
      have:=ih (m:=m / 128) (by rw [Nat.pow_succ] at h;omega)
      omega
theorem num_ne_nil (m:Nat):num m≠[]:=by
  intro e;obtain ⟨b,hb,_⟩:=num_low_in m;rw [e] at hb;cases hb
theorem num_pos (m:Nat):1≤(num m).length:=List.length_pos_iff.2 (num_ne_nil m)
theorem num_len10 {m:Nat} (h:m<18446744073709551616):(num m).length≤10:=num_len (k:=9) (by omega)
theorem none_high {m:Nat} (h:m<18446744073709551616) {s:List UInt8} (hs:high (s.take 10)):¬num m <+: s:=by
  intro hp
  obtain ⟨b,hb,h2⟩:=num_low_in m
  obtain ⟨r,rfl⟩:=hp
  have:b∈(num m++r).take 10:=by
    rw [List.take_append,List.take_of_length_le (num_len10 h)]
    exact List.mem_append_left _ hb
  have:=hs b this
  omega
def Reads (s:List UInt8) (e:Ending):Prop :=
  (∃n,n<18446744073709551616∧num n <+: s∧e=.returned (.tuple #[.int .u64 (n:Int),.int .i64 ((num n).length:Int),.int .i64 0])) ∨
  ((∀n,n<18446744073709551616→¬num n <+: s)∧e=.returned (.tuple #[.int .u64 0,.int .i64 0,.int .i64 11]))
theorem num_prefix_eq {a b:Nat} {s:List UInt8} (ha:num a <+: s) (hb:num b <+: s):a=b:=by
  obtain ⟨ba,hba,hl⟩:=num_low_in a
  have key:∀a b:Nat,num a <+: num b→a=b:=by
    intro a
    induction a using Nat.strongRecOn with
    | _ a ih =>
      intro b h
      by_cases h1:a<128
      · rw [num_low h1] at h
        by_cases h2:b<128
        · rw [num_low h2,List.cons_prefix_cons] at h
          have e1:=lo_toNat h1
          have e2:=lo_toNat h2
          rw [h.1] at e1
          omega
        · rw [num_high (n:=b) (by omega),List.cons_prefix_cons] at h
          have e1:=lo_toNat h1
          have e2:=hi_toNat b
          rw [h.1] at e1
          omega
      · rw [num_high (n:=a) (by omega)] at h
        by_cases h2:b<128
        · rw [num_low h2,List.cons_prefix_cons] at h
          have e1:=hi_toNat a
          have e2:=lo_toNat h2
          rw [h.1] at e1
          omega
        · rw [num_high (n:=b) (by omega),List.cons_prefix_cons] at h
          have e1:=hi_toNat a
          have e2:=hi_toNat b
          rw [h.1] at e1
          have:=ih (a / 128) (by omega) (b / 128) h.2
          omega
  rcases Nat.le_total (num a).length (num b).length with h | h
  · exact key a b (List.prefix_of_prefix_length_le ha hb h)
  · exact (key b a (List.prefix_of_prefix_length_le hb ha h)).symm
end Bn
end Go.Proofs.YtggnfejjcgbebaaGreatDoor
/- The writer in memory: one cell that holds a slice of bytes of its own; what writing a byte leaves alone. -/
namespace Go.Proofs.YtggnfejjcgbebaaGreatDoor
open Go.RowKit
structure Out (g:Nat) (l:List UInt8) (v:Value) (w:World):Prop where
  lt:g<w.heap.size
  cell:w.cell? ⟨g,0,none⟩=some v
  free:w.frozen? ⟨g,0,none⟩=false
  own:w.ownsRow (g+1) 5 1 v l.length (Lib.byteCells l)
structure Wrote (g:Nat) (v v':Value) (w w':World):Prop where
  os:w'.os=w.os
  tape:w'.tape=w.tape
  output:w'.output=w.output
  size:w.heap.size≤w'.heap.size
  block:∀k,k<w.heap.size→k≠g→v.ownBlock≠some k→w'.heap[k]?=w.heap[k]?
  own:v'.ownBlock=v.ownBlock∨∃k,v'.ownBlock=some k∧w.heap.size≤k
theorem Wrote.refl (g:Nat) (v:Value) (w:World):Wrote g v v w w:=⟨rfl,rfl,rfl,Nat.le_refl _,fun _ _ _ _=>rfl,Or.inl rfl⟩
theorem Wrote.trans {g:Nat} {v1 v2 v3:Value} {w1 w2 w3:World} (h:Wrote g v1 v2 w1 w2) (k:Wrote g v2 v3 w2 w3):Wrote g v1 v3 w1 w3:=by
  refine ⟨k.os.trans h.os,k.tape.trans h.tape,k.output.trans h.output,Nat.le_trans h.size k.size,fun i hi hg hv=>?_,?_⟩
  · refine (k.block i (Nat.lt_of_lt_of_le hi h.size) hg ?_).trans (h.block i hi hg hv)
    rcases h.own with e | ⟨j,e,hj⟩
    · rw [e];exact hv
    · rw [e];intro e2;cases e2;omega
  · rcases k.own with e | ⟨j,e,hj⟩
    · rw [e];exact h.own
    · exact Or.inr ⟨j,e,Nat.le_trans h.size hj⟩
theorem Wrote.below {g:Nat} {v v':Value} {w w':World} {l:List UInt8} (h:Wrote g v v' w w') (ho:Out g l v w):Below g w w' :=
  ⟨h.os,h.tape,h.output,h.size,fun k hk=>h.block k (by have:=ho.lt;omega) (by omega) (fun e=>by have:=(ho.own.lt k e).1;omega)⟩
theorem Wrote.new {g:Nat} {v v':Value} {w w1 w':World} (h:Wrote g v v' w1 w') (o:Obj) (e:w1=w.alloc o):Wrote g v v' w w':=by
  subst e
  refine ⟨h.os,h.tape,h.output,Nat.le_trans (by simp) h.size,fun k hk hg hv=>(h.block k (by simp;omega) hg hv).trans (Below.heap_alloc _ _ _ hk),?_⟩
  rcases h.own with e | ⟨j,e,hj⟩
  · exact Or.inl e
  · exact Or.inr ⟨j,e,Nat.le_trans (by simp) hj⟩
theorem Out.next {g gg cap:Nat} {l m:List UInt8} {v:Value} {w w1 w':World} (h:Out g l v w) (b:Below w.heap.size w w1) (hg:w1.grownBy w' v.ownBlock)
    (ho:w'.ownsRow (g+1) 5 1 (.slice (some ⟨gg,0,none⟩) (l.length+m.length) cap) (l.length+m.length) (Lib.byteCells l++Lib.byteCells m)) (hat:v.ownBlock=some gg∨gg=w1.heap.size) :
    Out g (l++m) (.slice (some ⟨gg,0,none⟩) (l.length+m.length) cap) (w'.setCell ⟨g,0,none⟩ (.slice (some ⟨gg,0,none⟩) (l.length+m.length) cap)) ∧
    Wrote g v (.slice (some ⟨gg,0,none⟩) (l.length+m.length) cap) w (w'.setCell ⟨g,0,none⟩ (.slice (some ⟨gg,0,none⟩) (l.length+m.length) cap))∧w'.cell? ⟨g,0,none⟩=some v∧w'.frozen? ⟨g,0,none⟩=false:=by
  have hlt:=h.lt
  have hs1:=b.size
  have hs2:=hg.size
  have hne:v.ownBlock≠some g:=fun e=>by have:=(h.own.lt g e).1;omega
  have hgg:gg≠g:=by
    rcases hat with e | e
    · intro e2;subst e2;exact hne e
    · omega
  have hb:w'.heap[g]?=w.heap[g]?:=(hg.block g (by omega) (fun e=>hne e.symm)).trans (b.block g hlt)
  have hc:w'.cell? ⟨g,0,none⟩=some v:=(World.cell?_of_block (w:=w) hb).trans h.cell
  have hf:w'.frozen? ⟨g,0,none⟩=false:=(World.frozen?_of_block (w:=w) hb).trans h.free
  refine ⟨⟨by simp [World.setCell];omega,?_,?_,?_⟩,⟨?_,?_,?_,?_,?_,?_⟩,hc,hf⟩
  · exact World.cell?_setCell_same _ _ _ hc
  · rw [World.frozen?_setCell];exact hf
  · have e:Lib.byteCells (l++m)=Lib.byteCells l++Lib.byteCells m:=by simp [Lib.byteCells]
    rw [e,List.length_append]
    exact ownsRow_setCell_other ho (by simp [Value.ownBlock];omega) _
  · exact hg.os.trans b.os
  · exact hg.tape.trans b.tape
  · exact hg.output.trans b.output
  · simp [World.setCell];omega
  · intro k hk hkg hkv
    rw [Below.heap_setCell _ _ _ _ hkg,hg.block k (by omega) (fun e=>hkv e.symm),b.block k hk]
  · rcases hat with e | e
    · exact Or.inl (by rw [e];rfl)
    · exact Or.inr ⟨gg,rfl,by omega⟩
theorem over43 (g:Nat) (l:List UInt8) (v:Value) (w:World) (h:Out g l v w) :
    Calls Tryz.prog 88 #[.pointer (some ⟨g,0,none⟩)] w fun e w'=>e=.returned (.bool (decide (16384<l.length)))∧w'=w:=by
  obtain ⟨a,cap,rfl⟩:∃a cap,v=.slice a l.length cap:=by
    rcases h.own.2 with ⟨rfl,e⟩ | ⟨g2,cap,cur,rfl,_⟩
    · exact ⟨none,0,by rw [e]⟩
    · exact ⟨_,cap,rfl⟩
  have hc:=h.cell
  obtain ⟨n,hn⟩:∃n,n=l.length:=⟨_,rfl⟩
  rw [←hn] at hc ⊢
  clear h hn
  go_enter Tryz.func88,Tryz.ntmps88
  go_wp2
  go_ret
  refine ⟨?_,rfl⟩
  by_cases h1:16384<n
  · have h2:(16384:Int)<(n:Int):=by omega
    simp [h1,h2]
  · have h2:¬(16384:Int)<(n:Int):=by omega
    simp [h1,h2]
set_option maxHeartbeats 1000000 in
set_option maxRecDepth 10000 in
theorem first67 (g:Nat) (l:List UInt8) (hl:l.length≤4294967296) (b:UInt8) (v:Value) (w:World) (h:Out g l v w) :
    Calls Tryz.prog 111 #[.pointer (some ⟨g,0,none⟩),.int .u8 (b.toNat:Int)] w fun e w'=>e=.returned (.tuple #[])∧∃v',Out g (l++[b]) v' w'∧Wrote g v v' w w':=by
  obtain ⟨i0,hi,hz0,hz1,hz2⟩:=Go.info_parts Bn.info5
  obtain ⟨x,hx⟩:∃x:Int,x=(b.toNat:Int):=⟨_,rfl⟩
  have HX:Hid (Lib.byteCells [b]=[.int .u8 x]):=by show _=_;rw [hx];rfl
  rw [←hx]
  have H:Hid (Out g l v w):=h
  have hc:=h.cell
  have hlt:=h.lt
  have HB63:Hid (l.length+1≤maxLen):=by show _≤_;unfold maxLen;omega
  have HB47:Hid ((l.length+1)*1≤140737488355328):=by show _≤_;omega
  have HSZ:Hid (g+1≤(w.alloc (.cells #[.int .u8 x] 5)).heap.size):=by show _≤_;simp;omega
  clear h hx hl
  go_enter Tryz.func111,Tryz.ntmps111
  go_wp2_with (first | (at_builtin;refine wpList_append_lies _ rfl _ _ 61 rfl (g+1) 5 i0 (.int .u8 0) 1 1 Tryz.underlying61 hi hz0 hz1 hz2 rfl (by decide) _ _ _ rfl (H.out.own.alloc _) ⟨w.heap.size,0,none⟩ 1 1 [.int .u8 x] rfl rfl (Bn.cell_new _ _ _) (by intro u hu;simp at hu;subst hu;rfl) (by decide) HB63.out HB47.out HSZ.out _ rfl ?_;intro gg cap w1 hown hgrow hat hgl;have N:=Out.next (m:=[b]) H.out ((Below.refl _ _).alloc (Nat.le_refl _) _) hgrow (by rw [HX.out];exact hown) hat;obtain ⟨n1,n2,c1,f1⟩:=N;have N1:Hid (Out g (l++[b]) _ _):=n1;have N2:Hid (Wrote g v _ w _):=n2;clear hown hgrow hat hgl n1 n2))
  exact ⟨rfl,_,results_none (by rfl) _ _ _,rfl,_,N1.out,N2.out⟩
end Go.Proofs.YtggnfejjcgbebaaGreatDoor
/- The writer's truth, and the number that stands for an int. -/
namespace Go.Proofs.YtggnfejjcgbebaaGreatDoor
open Go.RowKit
def Bn.truth (b:Bool):UInt8:=if b then 2 else 1
theorem truth68 (g:Nat) (l:List UInt8) (hl:l.length≤4294967296) (b:Bool) (v:Value) (w:World) (h:Out g l v w) :
    Calls Tryz.prog 112 #[.pointer (some ⟨g,0,none⟩),.bool b] w fun e w'=>e=.returned (.tuple #[])∧∃v',Out g (l++[Bn.truth b]) v' w'∧Wrote g v v' w w':=by
  have C:Hid (∀x:UInt8,Calls Tryz.prog 111 #[.pointer (some ⟨g,0,none⟩),.int .u8 (x.toNat:Int)] w fun e w'=>e=.returned (.tuple #[])∧∃v',Out g (l++[x]) v' w'∧Wrote g v v' w w'):=fun x=>first67 g l hl x v w h
  clear h hl
  cases b with
  | true =>
    go_enter Tryz.func112,Tryz.ntmps112
    go_wp2_with (first | (go_at_call 111;refine (C.out 2).mono ?_;rintro e w' ⟨rfl,v',h1,h2⟩;have H1:Hid (Out g (l++[2]) v' w'):=h1;have H2:Hid (Wrote g v v' w w'):=h2;clear h1 h2))
    go_end0
    exact ⟨rfl,v',H1.out,H2.out⟩
  | false =>
    go_enter Tryz.func112,Tryz.ntmps112
    go_wp2_with (first | (go_at_call 111;refine (C.out 1).mono ?_;rintro e w' ⟨rfl,v',h1,h2⟩;have H1:Hid (Out g (l++[1]) v' w'):=h1;have H2:Hid (Wrote g v v' w w'):=h2;clear h1 h2))
    go_end0
    exact ⟨rfl,v',H1.out,H2.out⟩
def Bn.fold (n:Int):Nat:=if 0≤n then (2*n).toNat else (-2*n - 1).toNat
theorem Bn.xor_ones (a:Nat) (h:a<18446744073709551616):a ^^^ 18446744073709551615=18446744073709551615 - a:=by
  have h2:(BitVec.ofNat 64 a ^^^ BitVec.allOnes 64).toNat=(~~~ (BitVec.ofNat 64 a)).toNat:=by rw [BitVec.xor_allOnes]
  rw [BitVec.toNat_xor,BitVec.toNat_not,BitVec.toNat_ofNat,Nat.mod_eq_of_lt h,BitVec.toNat_allOnes] at h2
  exact h2
theorem Bn.fold_eq (n:Int) (h0:-9223372036854775808≤n) (h1:n≤9223372036854775807) :
    bits .xor .u64 (IntKind.u64.wrap (IntKind.u64.wrap n*2)) (IntKind.u64.wrap (n / 9223372036854775808))=(Bn.fold n:Int):=by
  rw [IntKind.wrap_u64,IntKind.wrap_u64,IntKind.wrap_u64]
  by_cases hn:0≤n
  · obtain ⟨a,ha⟩:∃a:Nat,a=(2*n).toNat:=⟨_,rfl⟩
    have e1:n % 18446744073709551616*2 % 18446744073709551616=(a:Int):=by omega
    have e2:n / 9223372036854775808 % 18446744073709551616=((0:Nat):Int):=by omega
    rw [e1,e2,u64_xor_nat a 0 (by omega) (by omega),Nat.xor_zero,Bn.fold,if_pos hn,ha]
  · obtain ⟨a,ha⟩:∃a:Nat,a=(2*n+18446744073709551616).toNat:=⟨_,rfl⟩
    have e1:n % 18446744073709551616*2 % 18446744073709551616=(a:Int):=by omega
    have e2:n / 9223372036854775808 % 18446744073709551616=((18446744073709551615:Nat):Int):=by omega
    rw [e1,e2,u64_xor_nat a _ (by omega) (by omega),Bn.xor_ones a (by omega),Bn.fold,if_neg hn]
    omega
theorem Bn.fold_lt (n:Int) (h0:-9223372036854775808≤n) (h1:n≤9223372036854775807):Bn.fold n<18446744073709551616:=by
  rw [Bn.fold];split<;>omega
theorem Bn.fold_inj {a b:Int} (h:Bn.fold a=Bn.fold b):a=b:=by
  rw [Bn.fold,Bn.fold] at h;split at h<;>split at h<;>omega
theorem folded70 (n:Int) (h0:-9223372036854775808≤n) (h1:n≤9223372036854775807) (w:World) :
    Calls Tryz.prog 114 #[.int .i64 n] w fun e w'=>e=.returned (.int .u64 (Bn.fold n:Int))∧w'=w:=by
  go_enter Tryz.func114,Tryz.ntmps114
  go_wp2
  go_ret
  refine ⟨?_,rfl⟩
  rw [←Bn.fold_eq n h0 h1]
  rfl
end Go.Proofs.YtggnfejjcgbebaaGreatDoor
/- A text appended to bytes that are owned: where the bytes lie then. -/
namespace Go.Proofs.YtggnfejjcgbebaaGreatDoor
open Go.RowKit
theorem append_str (w:World) (base:Nat) (ty:TypeId) (v:Value) (n:Nat) (xs:List Value) (hown:w.ownsRow base 5 1 v n xs) (s:ByteArray)
    (h63:n+s.size≤maxLen) (hbytes:n+s.size≤140737488355328) (hbase:base≤w.heap.size) :
    ∃v' w',(Builtin.append_ #[61,9] ty #[v,.string s]).run Tryz.prog w=.ok v' w'∧w'.ownsRow base 5 1 v' (n+s.size) (xs++Lib.strCells s)∧w.grownBy w' v.ownBlock∧(v'.ownBlock=v.ownBlock∨v'.ownBlock=some w.heap.size):=by
  obtain ⟨i0,hi,hz0,hz1,hz2⟩:=Go.info_parts Bn.info5
  obtain ⟨v',w',hr,h2,h3,h4⟩:=Lib.run_append_own_string (P:=Tryz.prog) w base 61 9 ty 5 i0 Tryz.underlying61 Tryz.underlying9 hi hz0 hz1 hz2 v n xs hown s h63 hbytes hbase
  refine ⟨v',w',hr,h2,h3,?_⟩
  have hxl:xs.length=n:=by simpa using hown.1
  rcases hown.2 with ⟨rfl,rfl⟩ | ⟨g,cap,cur,rfl,hbg,hg,hnc,hcm,hcs,htake⟩
  · by_cases hm:s.size=0
    · rw [h4.2 ⟨rfl,hm⟩];exact Or.inl rfl
    · have hr2:=run_append_nil_string (P:=Tryz.prog) w 61 9 ty 5 i0 (.int .u8 0) Tryz.underlying61 Tryz.underlying9 hi hz0 s (by omega) (by unfold maxLen at h63;omega) (by rw [hz2];omega)
      have e:=hr.symm.trans hr2
      injection e with e1 _
      subst e1
      exact Or.inr rfl
  · by_cases hroom:n+s.size≤cap
    · have hcs':cur.size=cap:=by simpa using hcs
      have hr2:=Lib.run_append_room_string (P:=Tryz.prog) w 61 9 ty 5 i0 Tryz.underlying61 Tryz.underlying9 hi hz1 g n cap cur hg s hroom (by omega)
      have e:=hr.symm.trans hr2
      injection e with e1 _
      subst e1
      exact Or.inl rfl
    · have holds:∀j u,xs[j]?=some u→w.cell? ((⟨g,0,none⟩:Addr).add j)=some u:=hown.cells (g:=g) rfl
      have hr2:=Lib.run_append_grow_string (P:=Tryz.prog) w 61 9 ty 5 i0 (.int .u8 0) Tryz.underlying61 Tryz.underlying9 hi hz0 ⟨g,0,none⟩ n cap xs (by rw [hz1];simpa using hxl) holds s (by omega) (by unfold maxLen at h63;omega) (by rw [hz2];exact growslice_fits (by omega) (by omega))
      have e:=hr.symm.trans hr2
      injection e with e1 _
      subst e1
      exact Or.inr rfl
theorem wpList_append_str {ops:Array Oper} {rest:List Oper} {o:Oper} {a:Act} {Q:Exit→Act→World→Prop} (w:World) (hgd:o.guard=none) (sl x:Operand)
    (ho:o.op=.call { callee:=.builtin .append,args:=#[sl,x],argTypes:=#[61,9] }) (base:Nat) (v:Value) (n:Nat) (xs:List Value) (hs:a.eval sl=v) (hown:w.ownsRow base 5 1 v n xs)
    (s:ByteArray) (hx:a.eval x=.string s) (h63:n+s.size≤maxLen) (hbytes:n+s.size≤140737488355328) (hbase:base≤w.heap.size)
    (h:∀v' w',w'.ownsRow base 5 1 v' (n+s.size) (xs++Lib.strCells s)→w.grownBy w' v.ownBlock→(v'.ownBlock=v.ownBlock∨v'.ownBlock=some w.heap.size)→wpList Tryz.prog ops Q rest (a.put o.dst v') w'):wpList Tryz.prog ops Q (o :: rest) a w:=by
  refine wpList_plain hgd fun K hK=>?_
  obtain ⟨v',w',hr,h2,h3,h4⟩:=append_str w base o.type v n xs hown s h63 hbytes hbase
  unfold Oper.wp execOp
  simp only [ho,resolve,invoke,builtin,Sem.run_bind,Sem.run_pure,Result.andThen_ok,List.map_toArray,List.map_cons,List.map_nil,hs,hx,hr]
  exact hK _ _ (h v' w' h2 h3 h4)
theorem step_append_str {ops:Array Oper} {o:Oper} {a:Act} {K:Act→World→Prop} {Q:Exit→Act→World→Prop} {E:Prop} (w:World) (hgd:o.guard=none) (sl x:Operand)
    (ho:o.op=.call { callee:=.builtin .append,args:=#[sl,x],argTypes:=#[61,9] }) (base:Nat) (v:Value) (n:Nat) (xs:List Value) (hs:a.eval sl=v) (hown:w.ownsRow base 5 1 v n xs)
    (s:ByteArray) (hx:a.eval x=.string s) (h63:n+s.size≤maxLen) (hbytes:n+s.size≤140737488355328) (hbase:base≤w.heap.size)
    (h:∀v' w',w'.ownsRow base 5 1 v' (n+s.size) (xs++Lib.strCells s)→w.grownBy w' v.ownBlock→(v'.ownBlock=v.ownBlock∨v'.ownBlock=some w.heap.size)→K (a.put o.dst v') w') :
    if Region.wanted o (yielded ops a.tmps)=true then Oper.wp Tryz.prog o a w K Q else E:=by
  have hw:Region.wanted o (yielded ops a.tmps)=true:=by simp [Region.wanted,hgd]
  rw [if_pos hw]
  obtain ⟨v',w',hr,h2,h3,h4⟩:=append_str w base o.type v n xs hown s h63 hbytes hbase
  unfold Oper.wp execOp
  simp only [ho,resolve,invoke,builtin,Sem.run_bind,Sem.run_pure,Result.andThen_ok,List.map_toArray,List.map_cons,List.map_nil,hs,hx,hr]
  exact h v' w' h2 h3 h4
end Go.Proofs.YtggnfejjcgbebaaGreatDoor
/- The writer's number and text, walked. -/
namespace Go.Proofs.YtggnfejjcgbebaaGreatDoor
open Go.RowKit
theorem own_below {w w':World} {base n:Nat} {v:Value} {xs:List Value} (h:w.ownsRow base 5 1 v n xs) (b:Below w.heap.size w w'):w'.ownsRow base 5 1 v n xs:=by
  refine ⟨h.1,?_⟩
  rcases h.2 with h2 | ⟨g,cap,cur,hv,hg,hh,r⟩
  · exact Or.inl h2
  · have hlt:g<w.heap.size:=(h.lt g (by rw [hv];rfl)).2
    exact Or.inr ⟨g,cap,cur,hv,hg,(b.block g hlt).trans hh,r⟩
theorem Out.put {g:Nat} {l m:List UInt8} {v v':Value} {w w1 w':World} (h:Out g l v w) (b:Below w.heap.size w w1) (hg:w1.grownBy w' v.ownBlock)
    (ho:w'.ownsRow (g+1) 5 1 v' (l.length+m.length) (Lib.byteCells l++Lib.byteCells m)) (hat:v'.ownBlock=v.ownBlock∨v'.ownBlock=some w1.heap.size) :
    Out g (l++m) v' (w'.setCell ⟨g,0,none⟩ v')∧Wrote g v v' w (w'.setCell ⟨g,0,none⟩ v')∧w'.cell? ⟨g,0,none⟩=some v∧w'.frozen? ⟨g,0,none⟩=false:=by
  have hlt:=h.lt
  have hs1:=b.size
  have hs2:=hg.size
  have hne:v.ownBlock≠some g:=fun e=>by have:=(h.own.lt g e).1;omega
  have hgg:v'.ownBlock≠some g:=by
    rcases hat with e | e
    · rw [e];exact hne
    · rw [e];intro e2;cases e2;omega
  have hb:w'.heap[g]?=w.heap[g]?:=(hg.block g (by omega) (fun e=>hne e.symm)).trans (b.block g hlt)
  have hc:w'.cell? ⟨g,0,none⟩=some v:=(World.cell?_of_block (w:=w) hb).trans h.cell
  have hf:w'.frozen? ⟨g,0,none⟩=false:=(World.frozen?_of_block (w:=w) hb).trans h.free
  refine ⟨⟨by simp [World.setCell];omega,?_,?_,?_⟩,⟨?_,?_,?_,?_,?_,?_⟩,hc,hf⟩
  · exact World.cell?_setCell_same _ _ _ hc
  · rw [World.frozen?_setCell];exact hf
  · have e:Lib.byteCells (l++m)=Lib.byteCells l++Lib.byteCells m:=by simp [Lib.byteCells]
    rw [e,List.length_append]
    exact ownsRow_setCell_other ho hgg _
  · exact hg.os.trans b.os
  · exact hg.tape.trans b.tape
  · exact hg.output.trans b.output
  · simp [World.setCell];omega
  · intro k hk hkg hkv
    rw [Below.heap_setCell _ _ _ _ hkg,hg.block k (by omega) (fun e=>hkv e.symm),b.block k hk]
  · rcases hat with e | e
    · exact Or.inl e
    · exact Or.inr ⟨_,e,hs1⟩
theorem own_slice {w:World} {base n:Nat} {v:Value} {xs:List Value} (h:w.ownsRow base 5 1 v n xs):∃a k c,v=.slice a k c:=by
  rcases h.2 with ⟨rfl,_⟩ | ⟨g,cap,cur,hv,_⟩
  · exact ⟨_,_,_,rfl⟩
  · exact ⟨_,_,_,hv⟩
theorem str_bytes (s:ByteArray):Lib.strCells s=Lib.byteCells s.data.toList:=rfl
set_option maxHeartbeats 2000000 in
set_option maxRecDepth 10000 in
theorem number69 (g:Nat) (l:List UInt8) (hl:l.length≤4294967296) (n:Nat) (hn:n<18446744073709551616) (v:Value) (w:World) (h:Out g l v w) :
    Calls Tryz.prog 113 #[.pointer (some ⟨g,0,none⟩),.int .u64 (n:Int)] w fun e w'=>e=.returned (.tuple #[])∧∃v',Out g (l++Bn.num n) v' w'∧Wrote g v v' w w':=by
  obtain ⟨s,hs⟩:∃s:ByteArray,s=⟨(Bn.num n).toArray⟩:=⟨_,rfl⟩
  have hss:s.size=(Bn.num n).length:=by rw [Lib.size_eq,hs]
  have hsl:Hid (s.data.toList=Bn.num n):=by show _=_;rw [hs]
  have hlen:(Bn.num n).length≤10:=Bn.num_len10 hn
  have C:Hid (∀W,Calls Tryz.prog 148 #[.int .u64 (n:Int)] W fun e w'=>e=.returned (.string s)∧Below W.heap.size W w'):=fun W=>by rw [hs];exact number25 n hn W
  have HB63:Hid (l.length+s.size≤maxLen):=by show _≤_;unfold maxLen;omega
  have HB47:Hid (l.length+s.size≤140737488355328):=by show _≤_;omega
  have H:Hid (Out g l v w):=h
  have hc:=h.cell
  have hf:=h.free
  have hlt:=h.lt
  have HSS:Hid (s.size=(Bn.num n).length):=hss
  clear h hl hn hs hss hlen
  go_enter Tryz.func113,Tryz.ntmps113
  go_wp2
  go_region_law (first
    | (refine step_append_str _ (by rfl) _ _ (by rfl) (g+1) v l.length (Lib.byteCells l) (by rfl) HO3.out s (by rfl) HB63.out HB47.out HS3.out ?_;intro v' w5 hown hgrow hat
       obtain ⟨a5,k5,c5',rfl⟩:=own_slice hown
       have N:=Out.put (m:=Bn.num n) H.out HB3.out hgrow (by rw [←HSS.out,←hsl.out,←str_bytes];exact hown) hat
       obtain ⟨n1,n2,c5,f5⟩:=N
       have N1:Hid (Out g (l++Bn.num n) (.slice a5 k5 c5') (w5.setCell ⟨g,0,none⟩ (.slice a5 k5 c5'))):=n1
       have N2:Hid (Wrote g v (.slice a5 k5 c5') w (w5.setCell ⟨g,0,none⟩ (.slice a5 k5 c5'))):=n2
       clear n1 n2 hown hgrow hat)
    | (go_simp;go_at_call 148;refine (C.out _).mono ?_;rintro e w3 ⟨rfl,hb3⟩
       have HB3:Hid (Below w.heap.size w w3):=(by first | exact (Below.refl _ _).drew.trans hb3 | exact hb3)
       have HO3:Hid (w3.ownsRow (g+1) 5 1 v l.length (Lib.byteCells l)):=own_below H.out.own HB3.out
       have HS3:Hid (g+1≤w3.heap.size):=by have:=HB3.out.size;show _≤_;omega
       have c3:=(HB3.out.cell (p:=⟨g,0,none⟩) hlt).trans hc
       have f3:=(HB3.out.frozen (p:=⟨g,0,none⟩) hlt).trans hf
       clear hb3))
  all_goals
    go_end0
    exact ⟨rfl,_,N1.out,N2.out⟩
def Bn.text (s:ByteArray):List UInt8:=Bn.num s.size++s.data.toList
set_option maxHeartbeats 2000000 in
set_option maxRecDepth 10000 in
theorem text71 (g:Nat) (l:List UInt8) (hl:l.length≤4294960000) (s:ByteArray) (hs:s.size≤140737488351232 - 4294967296) (v:Value) (w:World) (h:Out g l v w) :
    Calls Tryz.prog 115 #[.pointer (some ⟨g,0,none⟩),.string s] w fun e w'=>e=.returned (.tuple #[])∧∃v',Out g (l++Bn.text s) v' w'∧Wrote g v v' w w':=by
  obtain ⟨n,hn⟩:∃n,n=s.size:=⟨_,rfl⟩
  have hlen:(Bn.num n).length≤10:=Bn.num_len10 (by omega)
  have C:Hid (Calls Tryz.prog 113 #[.pointer (some ⟨g,0,none⟩),.int .u64 (n:Int)] w fun e w'=>e=.returned (.tuple #[])∧∃v',Out g (l++Bn.num n) v' w'∧Wrote g v v' w w'):=number69 g l (by omega) n (by omega) v w h
  have HB63:Hid ((l++Bn.num n).length+s.size≤maxLen):=by show _≤_;unfold maxLen;rw [List.length_append];omega
  have HB47:Hid ((l++Bn.num n).length+s.size≤140737488355328):=by show _≤_;rw [List.length_append];omega
  have HT:Hid (l++Bn.text s=(l++Bn.num n)++s.data.toList):=by show _=_;rw [Bn.text,hn,List.append_assoc]
  have hc:=h.cell
  have hlt:=h.lt
  have e1:(s.size:Int)=(n:Int):=by omega
  have q1:(n:Int)<18446744073709551616:=by omega
  clear h hl hs hlen hn
  go_enter Tryz.func115,Tryz.ntmps115
  go_wp2_with (first
    | (go_at_call 113;refine C.out.mono ?_;rintro e w1 ⟨rfl,v1,h1,h2⟩
       have H1:Hid (Out g (l++Bn.num n) v1 w1):=h1
       have H2:Hid (Wrote g v v1 w w1):=h2
       obtain ⟨a1,k1,p1,rfl⟩:=own_slice h1.own
       have c1:=h1.cell
       have f1:=h1.free
       have lt1:=h1.lt
       clear h1 h2 hc hlt)
    | (at_builtin;refine wpList_append_str _ rfl _ _ rfl (g+1) _ _ _ rfl H1.out.own s rfl HB63.out HB47.out (by have:=H1.out.lt;omega) ?_;intro v' w5 hown hgrow hat
       obtain ⟨a5,k5,c5',rfl⟩:=own_slice hown
       have N:=Out.put (m:=s.data.toList) H1.out (Below.refl _ _) hgrow (by rw [←Lib.size_eq,←str_bytes];exact hown) hat
       obtain ⟨n1,n2,c5,f5⟩:=N
       have N1:Hid (Out g ((l++Bn.num n)++s.data.toList) (.slice a5 k5 c5') (w5.setCell ⟨g,0,none⟩ (.slice a5 k5 c5'))):=n1
       have N2:Hid (Wrote g v (.slice a5 k5 c5') w (w5.setCell ⟨g,0,none⟩ (.slice a5 k5 c5'))):=H2.out.trans n2
       clear n1 n2 hown hgrow hat c1 f1))
  go_end0
  exact ⟨rfl,_,by rw [HT.out];exact N1.out,N2.out⟩
end Go.Proofs.YtggnfejjcgbebaaGreatDoor
/- A value's bytes, and what the writer makes of what it holds, stopping as soon as it holds too many. -/
namespace Go.Proofs.YtggnfejjcgbebaaGreatDoor
open Vl (V)
namespace Bn
mutual
def bytes:V→List UInt8
  | ⟨k,b,n,s,l,f⟩ =>
    if k=0 then [0] else if k=1 then [truth b] else if k=2 then 3 :: num (fold n) else if k=3 then 4 :: text s else if k=4 then 5 :: text s
    else if k=5 then 6 :: (num l.length++bytesL l) else if k=6 then 7 :: (num f.length++bytesF f) else []
def bytesL:List V→List UInt8
  | []=>[]
  | x :: r=>bytes x++bytesL r
def bytesF:List (ByteArray × V)→List UInt8
  | []=>[]
  | (m,x) :: r=>text m++(bytes x++bytesF r)
end
mutual
def wr:V→List UInt8→List UInt8
  | ⟨k,b,n,s,l,f⟩,o =>
    if k=0 then o++[0] else if k=1 then o++[truth b] else if k=2 then (o++[3])++num (fold n) else if k=3 then (o++[4])++text s else if k=4 then (o++[5])++text s
    else if k=5 then wrL l ((o++[6])++num l.length) else if k=6 then wrF f ((o++[7])++num f.length) else o
def wrL:List V→List UInt8→List UInt8
  | [],o=>o
  | x :: r,o=>if 16384<o.length then o else wrL r (wr x o)
def wrF:List (ByteArray × V)→List UInt8→List UInt8
  | [],o=>o
  | (m,x) :: r,o=>if 16384<o.length then o else wrF r (wr x (o++text m))
end
mutual
theorem wr_grows:∀(t:V) (o:List UInt8),o.length≤(wr t o).length
  | ⟨k,b,n,s,l,f⟩,o=>by
    rw [wr]
    have h1:=wrL_grows l ((o++[6])++num l.length)
    have h2:=wrF_grows f ((o++[7])++num f.length)
    simp only [List.length_append] at h1 h2
    (repeat' split)<;>(try simp only [List.length_append])<;>omega
theorem wrL_grows:∀(l:List V) (o:List UInt8),o.length≤(wrL l o).length
  | [],o=>by rw [wrL];exact Nat.le_refl _
  | x :: r,o=>by
    rw [wrL];split
    · exact Nat.le_refl _
    · exact Nat.le_trans (wr_grows x o) (wrL_grows r (wr x o))
theorem wrF_grows:∀(f:List (ByteArray × V)) (o:List UInt8),o.length≤(wrF f o).length
  | [],o=>by rw [wrF];exact Nat.le_refl _
  | (m,x) :: r,o=>by
    rw [wrF];split
    · exact Nat.le_refl _
    · have h1:=wr_grows x (o++text m)
      have h2:=wrF_grows r (wr x (o++text m))
      rw [List.length_append] at h1
      omega
end
mutual
theorem wr_all:∀(t:V) (o:List UInt8),o.length+(bytes t).length≤16384→wr t o=o++bytes t
  | ⟨k,b,n,s,l,f⟩,o,h=>by
    rw [bytes] at h
    rw [wr,bytes]
    by_cases h0:k=0
    · rw [if_pos h0,if_pos h0]
    by_cases h1:k=1
    · rw [if_neg h0,if_pos h1,if_neg h0,if_pos h1]
    by_cases h2:k=2
    · rw [if_neg h0,if_neg h1,if_pos h2,if_neg h0,if_neg h1,if_pos h2];simp
    by_cases h3:k=3
    · rw [if_neg h0,if_neg h1,if_neg h2,if_pos h3,if_neg h0,if_neg h1,if_neg h2,if_pos h3];simp
    by_cases h4:k=4
    · rw [if_neg h0,if_neg h1,if_neg h2,if_neg h3,if_pos h4,if_neg h0,if_neg h1,if_neg h2,if_neg h3,if_pos h4];simp
    by_cases h5:k=5
    · rw [if_neg h0,if_neg h1,if_neg h2,if_neg h3,if_neg h4,if_pos h5] at h ⊢
      rw [if_neg h0,if_neg h1,if_neg h2,if_neg h3,if_neg h4,if_pos h5,wrL_all l _ (by simp only [List.length_append,List.length_cons,List.length_nil] at h ⊢;omega)];simp
    by_cases h6:k=6
    · rw [if_neg h0,if_neg h1,if_neg h2,if_neg h3,if_neg h4,if_neg h5,if_pos h6] at h ⊢
      rw [if_neg h0,if_neg h1,if_neg h2,if_neg h3,if_neg h4,if_neg h5,if_pos h6,wrF_all f _ (by simp only [List.length_append,List.length_cons,List.length_nil] at h ⊢;omega)];simp
    simp [h0,h1,h2,h3,h4,h5,h6]
theorem wrL_all:∀(l:List V) (o:List UInt8),o.length+(bytesL l).length≤16384→wrL l o=o++bytesL l
  | [],o,_=>by rw [wrL,bytesL,List.append_nil]
  | x :: r,o,h=>by
    rw [bytesL,List.length_append] at h
    rw [wrL,if_neg (by omega),wr_all x o (by omega),wrL_all r _ (by rw [List.length_append];omega),bytesL,List.append_assoc]
theorem wrF_all:∀(f:List (ByteArray × V)) (o:List UInt8),o.length+(bytesF f).length≤16384→wrF f o=o++bytesF f
  | [],o,_=>by rw [wrF,bytesF,List.append_nil]
  | (m,x) :: r,o,h=>by
    rw [bytesF,List.length_append,List.length_append] at h
    rw [wrF,if_neg (by omega),wr_all x _ (by rw [List.length_append];omega),wrF_all r _ (by simp only [List.length_append];omega),bytesF];simp
end
mutual
theorem wr_over:∀(t:V) (o:List UInt8),16384<o.length+(bytes t).length→16384<(wr t o).length
  | ⟨k,b,n,s,l,f⟩,o,h=>by
    rw [bytes] at h
    rw [wr]
    by_cases h0:k=0
    · rw [if_pos h0] at h ⊢;rw [List.length_append];exact h
    by_cases h1:k=1
    · rw [if_neg h0,if_pos h1] at h ⊢;rw [List.length_append];exact h
    by_cases h2:k=2
    · rw [if_neg h0,if_neg h1,if_pos h2] at h ⊢;simp only [List.length_append,List.length_cons,List.length_nil] at h ⊢;omega
    by_cases h3:k=3
    · rw [if_neg h0,if_neg h1,if_neg h2,if_pos h3] at h ⊢;simp only [List.length_append,List.length_cons,List.length_nil] at h ⊢;omega
    by_cases h4:k=4
    · rw [if_neg h0,if_neg h1,if_neg h2,if_neg h3,if_pos h4] at h ⊢;simp only [List.length_append,List.length_cons,List.length_nil] at h ⊢;omega
    by_cases h5:k=5
    · rw [if_neg h0,if_neg h1,if_neg h2,if_neg h3,if_neg h4,if_pos h5] at h ⊢
      exact wrL_over l _ (by simp only [List.length_append,List.length_cons,List.length_nil] at h ⊢;omega)
    by_cases h6:k=6
    · rw [if_neg h0,if_neg h1,if_neg h2,if_neg h3,if_neg h4,if_neg h5,if_pos h6] at h ⊢
      exact wrF_over f _ (by simp only [List.length_append,List.length_cons,List.length_nil] at h ⊢;omega)
    rw [if_neg h0,if_neg h1,if_neg h2,if_neg h3,if_neg h4,if_neg h5,if_neg h6] at h ⊢
    simpa using h
theorem wrL_over:∀(l:List V) (o:List UInt8),16384<o.length+(bytesL l).length→16384<(wrL l o).length
  | [],o,h=>by rw [wrL];simpa [bytesL] using h
  | x :: r,o,h=>by
    rw [bytesL,List.length_append] at h
    rw [wrL]
    split
    · assumption
    · by_cases hx:o.length+(bytes x).length≤16384
      · rw [wr_all x o hx]
        exact wrL_over r _ (by rw [List.length_append];omega)
      · exact Nat.lt_of_lt_of_le (wr_over x o (by omega)) (wrL_grows r _)
theorem wrF_over:∀(f:List (ByteArray × V)) (o:List UInt8),16384<o.length+(bytesF f).length→16384<(wrF f o).length
  | [],o,h=>by rw [wrF];simpa [bytesF] using h
  | (m,x) :: r,o,h=>by
    rw [bytesF,List.length_append,List.length_append] at h
    rw [wrF]
    split
    · assumption
    · by_cases hx:(o++text m).length+(bytes x).length≤16384
      · rw [wr_all x _ hx]
        exact wrF_over r _ (by simp only [List.length_append] at hx ⊢;omega)
      · exact Nat.lt_of_lt_of_le (wr_over x _ (by omega)) (wrF_grows r _)
end
end Bn
end Go.Proofs.YtggnfejjcgbebaaGreatDoor
/- bin.ReadNumber, walked: the number whose bytes a text begins with, or none. -/
namespace Go.Proofs.YtggnfejjcgbebaaGreatDoor
open Go.RowKit
namespace Bn
theorem index_byte (b:ByteArray) (i:Int) (h0:0≤i) (h1:i<b.size) (wx:World) :
    (Instr.index 9 (.string b) (.int .i64 i)).run Tryz.prog wx=.ok (.int .u8 (((b.data.toList.getD i.toNat 0).toNat:Nat):Int)) wx:=by
  rw [run_index_string (P:=Tryz.prog) wx 9 b .i64 i Tryz.underlying9,dif_pos ⟨h0,h1⟩]
  have h2:i.toNat<b.size:=by omega
  have h3:i.toNat<b.data.toList.length:=by rw [←Lib.size_eq];exact h2
  have e:b[i.toNat]=b.data.toList.getD i.toNat 0:=by
    rw [List.getD_eq_getElem?_getD,List.getElem?_eq_getElem h3]
    rfl
  rw [e]
theorem and127 (b:Nat) (hb:b<256):bits .and .u8 (b:Int) 127=((b % 128:Nat):Int):=by
  rw [show (127:Int)=((127:Nat):Int) from rfl,u8_and_nat _ _ hb (by decide),nat_mask7]
theorem or_step (l:List UInt8) (b:UInt8) (i:Nat) (hi:i≤9) (hl:l.length=i) (x:Nat) (hx:x=b.toNat % 128) :
    bits .or .u64 ((val l % 18446744073709551616:Nat):Int) (IntKind.u64.wrap ((x:Int)*2 ^ (7*i)))=((val (l++[b]) % 18446744073709551616:Nat):Int):=by
  have e128:128 ^ i=2 ^ (7*i):=by rw [Nat.pow_mul]
  have h1:val l<2 ^ (7*i):=by rw [←e128,←hl];exact val_lt l
  have e64:(18446744073709551616:Nat)=2 ^ (64 - 7*i)*2 ^ (7*i):=by
    rw [←Nat.pow_add,show 64 - 7*i+7*i=64 by omega]
  have ew:IntKind.u64.wrap ((x:Int)*2 ^ (7*i))=((x*2 ^ (7*i) % 18446744073709551616:Nat):Int):=by
    rw [IntKind.wrap_u64,Int.natCast_emod,Int.natCast_mul,Int.natCast_pow];rfl
  obtain ⟨z,hz⟩:∃z,z=x % 2 ^ (64 - 7*i):=⟨_,rfl⟩
  have ey:x*2 ^ (7*i) % 18446744073709551616=z*2 ^ (7*i):=by rw [e64,Nat.mul_mod_mul_right,hz]
  have hzl:z+1≤2 ^ (64 - 7*i):=by rw [hz];exact Nat.mod_lt _ (Nat.two_pow_pos _)
  have hsum:val l+z*2 ^ (7*i)<18446744073709551616:=by
    have h2:(z+1)*2 ^ (7*i)≤18446744073709551616:=by
      rw [e64];exact Nat.mul_le_mul_right _ hzl
    rw [Nat.add_mul,Nat.one_mul] at h2
    omega
  have hv:val l % 18446744073709551616=val l:=Nat.mod_eq_of_lt (by omega)
  rw [ew,ey,hv,u64_or_nat _ _ (by omega) (by omega)]
  have eo:val l ||| z*2 ^ (7*i)=val l+z*2 ^ (7*i):=by
    have:=Nat.shiftLeft_add_eq_or_of_lt h1 z
    rw [Nat.shiftLeft_eq] at this
    rw [Nat.or_comm,←this,Nat.add_comm]
  rw [eo,val_append,val,val,Nat.mul_zero,Nat.add_zero,hl,e128,←hx,Nat.mul_comm (2 ^ (7*i)) x,←Nat.add_mod_mod,ey,Nat.mod_eq_of_lt hsum]
theorem take_next {l:List UInt8} {i:Nat} (h:i<l.length):l.take (i+1)=l.take i++[l.getD i 0]:=by
  rw [List.take_succ_eq_append_getElem h,List.getD_eq_getElem?_getD,List.getElem?_eq_getElem h];rfl
theorem reads_yes {s:List UInt8} {i:Nat} {e:Ending} (hi:i<s.length) (h:num (val (s.take (i+1)) % 18446744073709551616)=s.take (i+1))
    (he:e=.returned (.tuple #[.int .u64 ((val (s.take (i+1)) % 18446744073709551616:Nat):Int),.int .i64 ((i:Int)+1),.int .i64 0])):Reads s e:=by
  refine Or.inl ⟨_,Nat.mod_lt _ (by omega),by rw [h];exact List.take_prefix _ _,?_⟩
  rw [he,h,List.length_take,show min (i+1) s.length=i+1 by omega]
  rfl
theorem reads_no {s:List UInt8} {i:Nat} (hi:i<s.length) (hh:high (s.take i)) (hb:(s.getD i 0).toNat<128) (h:num (val (s.take (i+1)) % 18446744073709551616)≠s.take (i+1)) :
    Reads s (.returned (.tuple #[.int .u64 0,.int .i64 0,.int .i64 11])):=by
  refine Or.inr ⟨fun n hn hp=>h ?_,rfl⟩
  have e:s=s.take i++s.getD i 0 :: s.drop (i+1):=by
    rw [List.append_cons,←take_next hi,List.take_append_drop]
  rw [e] at hp
  have h1:=num_ends hh hb hp
  rw [←take_next hi] at h1
  rw [←h1,val_num,Nat.mod_eq_of_lt hn]
theorem reads_end {s:List UInt8} {L:Nat} (hL:L=min s.length 10) (hh:high (s.take L)):Reads s (.returned (.tuple #[.int .u64 0,.int .i64 0,.int .i64 11])):=by
  refine Or.inr ⟨fun n hn=>none_high hn ?_,rfl⟩
  have:s.take 10=s.take L:=by
    rcases Nat.le_total s.length 10 with h | h
    · rw [List.take_of_length_le h,List.take_of_length_le (by omega)]
    · rw [show L=10 by omega]
  rw [this];exact hh
theorem wrap_next {i:Nat} (h:i≤9):∃j:Nat,j=i+1∧IntKind.i64.wrap ((i:Int)+1)=(j:Int) :=
  ⟨i+1,rfl,by rw [IntKind.wrap_i64];omega⟩
theorem data_ext {a m:ByteArray} (e:a.data.toList=m.data.toList):a=m:=by
  cases a;cases m
  exact congrArg ByteArray.mk (Array.toList_inj.1 e)
theorem neq {a m:ByteArray} (h:¬a=m):(a.toList==m.toList)=false:=by
  rw [Go.ByteArray.toList_eq,Go.ByteArray.toList_eq,beq_eq_false_iff_ne]
  exact fun e=>h (data_ext e)
theorem slice_to (s:ByteArray) (j:Int) (h0:0≤j) (h2:j≤s.size) (wx:World) :
    (Instr.slice 9 (.string s) none (some (.int .i64 j)) none).run Tryz.prog wx=.ok (.string (s.extract 0 j.toNat)) wx:=by
  rw [run_slice_string_to_if (P:=Tryz.prog) wx 9 s .i64 j Tryz.underlying9,if_pos ⟨h0,h2⟩]
end Bn
set_option maxHeartbeats 2000000 in
set_option maxRecDepth 10000 in
theorem read23 (s:ByteArray) (w:World) :
    Calls Tryz.prog 150 #[.string s] w fun e w'=>Bn.Reads s.data.toList e∧Below w.heap.size w w':=by
  obtain ⟨L,hL⟩:∃L:Nat,L=min s.size 10:=⟨_,rfl⟩
  have hmin:min (s.size:Int) 10=(L:Int):=by omega
  go_enter Tryz.func150,Tryz.ntmps150
  go_wp2
  all_goals
    first | rw [show (10:Int)=(L:Int) by omega] | rw [show (s.size:Int)=(L:Int) by omega]
    go_loopw [5,6,10] (fun nv iv c wr=>∃i:Nat,i≤L∧c=.int .i64 (i:Int)∧nv=.int .u64 ((Bn.val (s.data.toList.take i) % 18446744073709551616:Nat):Int)∧Bn.high (s.data.toList.take i)∧Below w.heap.size w wr) (fun _ _ c _=>L - (intOf c).toNat)
    case atStart=>exact ⟨0,by omega,rfl,rfl,by simp [Bn.high],Below.refl _ _⟩
    case round =>
      obtain ⟨i,hi,rfl,rfl,hhi,hnx⟩:=hrel
      by_cases hlt:i<L
      · obtain ⟨b,hb⟩:∃b,b=s.data.toList.getD i 0:=⟨_,rfl⟩
        have hbl:b.toNat<256:=UInt8.toNat_lt _
        have hix:∀wx,(Instr.index 9 (.string s) (.int .i64 (i:Int))).run Tryz.prog wx=.ok (.int .u8 (b.toNat:Int)) wx:=fun wx=>by rw [hb];exact Bn.index_byte s i (by omega) (by omega) wx
        obtain ⟨x,hx⟩:∃x,x=b.toNat % 128:=⟨_,rfl⟩
        have han:bits .and .u8 (b.toNat:Int) 127=(x:Int):=by rw [Bn.and127 _ hbl,hx]
        obtain ⟨A,hA⟩:∃A,A=Bn.val (s.data.toList.take i) % 18446744073709551616:=⟨_,rfl⟩
        have hA2:A<18446744073709551616:=by rw [hA];exact Nat.mod_lt _ (by omega)
        rw [←hA]
        have q1:(i:Int)<(L:Int):=by omega
        have q2:(i:Int)≤9:=by omega
        have q3:(x:Int)<128:=by omega
        have q0:i<s.size:=by omega
        have hil:i<s.data.toList.length:=by rw [←Lib.size_eq];omega
        obtain ⟨A2,hA2'⟩:∃A,A=Bn.val (s.data.toList.take (i+1)) % 18446744073709551616:=⟨_,rfl⟩
        have hor:bits .or .u64 (A:Int) (IntKind.u64.wrap ((x:Int)*2 ^ (7*i)))=(A2:Int):=by
          rw [hA,hA2',Bn.take_next hil,←hb]
          exact Bn.or_step _ b i (by omega) (by rw [List.length_take];omega) x hx
        have HLT:Hid (A2<18446744073709551616):=by show _<_;rw [hA2'];exact Nat.mod_lt _ (by omega)
        have HA2:Hid (A2=Bn.val (s.data.toList.take (i+1)) % 18446744073709551616):=hA2'
        have HBB:Hid (b=s.data.toList.getD i 0):=hb
        have HIL:Hid (i<s.data.toList.length):=hil
        obtain ⟨str,hstr⟩:∃str:ByteArray,str=⟨(Bn.num A2).toArray⟩:=⟨_,rfl⟩
        have C25:Hid (∀W,Calls Tryz.prog 148 #[.int .u64 (A2:Int)] W fun e w'=>e=.returned (.string str)∧Below W.heap.size W w'):=fun W=>by
          rw [hstr];exact number25 A2 HLT.out W
        obtain ⟨cut,hcut⟩:∃c:ByteArray,c=s.extract 0 (i+1):=⟨_,rfl⟩
        have hsl:∀wx,(Instr.slice 9 (.string s) none (some (.int .i64 ((i:Int)+1))) none).run Tryz.prog wx=.ok (.string cut) wx:=fun wx=>by
          rw [hcut];exact Bn.slice_to s _ (by omega) (by omega) wx
        have HEQ:Hid (str.data.toList=Bn.num A2∧cut.data.toList=s.data.toList.take (i+1)):=by
          refine ⟨by rw [hstr],?_⟩
          rw [hcut,Lib.extract_data];simp
        clear hb hx hA hL hmin hA2' hstr hcut hil
        by_cases hge:128≤b.toNat
        · have q4:(128:Int)≤(b.toNat:Int):=by omega
          go_wp2
          go_roundw
          case rel =>
            refine ⟨i+1,by omega,by go_num,by rw [←HA2.out],?_,hnx⟩
            intro y hy
            rw [Bn.take_next HIL.out,List.mem_append,List.mem_singleton,←HBB.out] at hy
            rcases hy with hy | rfl
            · exact hhi y hy
            · exact hge
          case measure=>simp [intOf];omega
        · have q4:¬(128:Int)≤(b.toNat:Int):=by omega
          obtain ⟨j,hj,hw⟩:=Bn.wrap_next (i:=i) (by omega)
          have HJ:Hid (j=i+1):=hj
          have hsl2:∀wx,(Instr.slice 9 (.string s) none (some (.int .i64 (j:Int))) none).run Tryz.prog wx=.ok (.string cut) wx:=fun wx=>by
            rw [show (j:Int)=(i:Int)+1 by rw [hj];rfl];exact hsl wx
          clear hj hsl
          go_wp2
          clear hor han hix q1 q3 hA2
          go_region_law (first | (go_simp;go_at_call 148;refine (C25.out _).mono ?_;rintro e w3 ⟨rfl,hb3⟩))
          all_goals
            have HB3:Hid (Below w.heap.size w w3):=hnx.trans (((Below.refl _ _).drew.trans hb3).mono hnx.size)
            clear hb3 hnx
            by_cases hsc:str=cut
            · have hq:(str.toList==cut.toList)=true:=by rw [hsc];exact beq_self_eq_true _
              rw [hq,Bool.not_true]
              clear hq
              go_wp2
              go_ret3
              refine ⟨Bn.reads_yes HIL.out (by rw [←HA2.out,←HEQ.out.1,←HEQ.out.2,hsc]) (by rw [←HA2.out,HJ.out];rfl),HB3.out⟩
            · have hq:(str.toList==cut.toList)=false:=Bn.neq hsc
              rw [hq,Bool.not_false]
              clear hq
              go_wp2
              go_ret3
              exact ⟨Bn.reads_no HIL.out hhi (by rw [←HBB.out];omega) (fun h=>hsc (by rw [←HA2.out,←HEQ.out.1,←HEQ.out.2] at h;exact Bn.data_ext h)),HB3.out⟩
      · have hiL:i=L:=by omega
        subst hiL
        have q1:¬(i:Int)<(i:Int):=by omega
        go_wp2
        go_ret3
        exact ⟨Bn.reads_end (by rw [←Lib.size_eq];exact hL) hhi,hnx⟩
end Go.Proofs.YtggnfejjcgbebaaGreatDoor
/- Values that are all in their bytes; which bytes begin with such a value's. -/
namespace Go.Proofs.YtggnfejjcgbebaaGreatDoor
open Vl (V)
namespace Bn
mutual
def fit:V→Prop
  | ⟨k,b,n,s,l,f⟩=>k≤6∧(k≠1→b=false)∧(k≠2→n=0)∧(k≠3→k≠4→s=⟨#[]⟩)∧(k≠5→l=[])∧(k≠6→f=[])∧(-9223372036854775808≤n∧n≤9223372036854775807)∧s.size≤65536∧l.length≤64∧f.length≤64∧fitL l∧fitF f
def fitL:List V→Prop
  | []=>True
  | x :: r=>fit x∧fitL r
def fitF:List (ByteArray × V)→Prop
  | []=>True
  | (m,x) :: r=>(m.size≤65536∧fit x)∧fitF r
end
theorem num_app {a b:Nat} {r q:List UInt8} (h:num a++r=num b++q):a=b∧r=q:=by
  have e:=num_prefix_eq (List.prefix_append (num a) r) (h ▸ List.prefix_append (num b) q)
  subst e
  exact ⟨rfl,List.append_cancel_left h⟩
theorem text_app {s t:ByteArray} {r q:List UInt8} (h:text s++r=text t++q):s=t∧r=q:=by
  rw [text,text,List.append_assoc,List.append_assoc] at h
  obtain ⟨e,h2⟩:=num_app h
  have h3:=List.append_inj h2 (by rw [←Lib.size_eq,←Lib.size_eq];exact e)
  exact ⟨data_ext h3.1,h3.2⟩
def hd:V→UInt8
  | ⟨k,b,_,_,_,_⟩=>if k=1 then truth b else if k=0 then 0 else UInt8.ofNat (k+1)
def tl:V→List UInt8
  | ⟨k,_,n,s,l,f⟩=>if k≤1 then [] else if k=2 then num (fold n) else if k=3∨k=4 then text s else if k=5 then num l.length++bytesL l else num f.length++bytesF f
theorem seven {k:Nat} (h:k≤6):k=0∨k=1∨k=2∨k=3∨k=4∨k=5∨k=6:=by omega
theorem bytes_hd (t:V) (h:fit t):bytes t=hd t :: tl t:=by
  obtain ⟨k,b,n,s,l,f⟩:=t
  rw [fit] at h
  rw [bytes,hd,tl]
  rcases seven h.1 with rfl | rfl | rfl | rfl | rfl | rfl | rfl<;>simp
theorem hd_lt (t:V) (h:fit t):(hd t).toNat≤7:=by
  obtain ⟨k,b,n,s,l,f⟩:=t
  rw [fit] at h
  rw [hd]
  rcases seven h.1 with rfl | rfl | rfl | rfl | rfl | rfl | rfl
  · simp
  · cases b<;>simp [truth]
  all_goals simp
theorem bytes_ne {t:V} (h:fit t) (q:List UInt8):[]≠bytes t++q:=by rw [bytes_hd t h];simp
def kindOf (b:Nat):Nat:=if b≤1 then b else b - 1
theorem hd_kind {k:Nat} {b:Bool} {n:Int} {s:ByteArray} {l:List V} {f:List (ByteArray × V)} (h:fit ⟨k,b,n,s,l,f⟩):k=kindOf (hd ⟨k,b,n,s,l,f⟩).toNat∧(k=1→b=decide ((hd ⟨k,b,n,s,l,f⟩).toNat=2)):=by
  rw [fit] at h
  rw [hd]
  rcases seven h.1 with rfl | rfl | rfl | rfl | rfl | rfl | rfl
  · simp [kindOf]
  · cases b<;>simp [truth,kindOf]
  all_goals simp [kindOf]
mutual
theorem bytes_app:∀(a b:V) (r q:List UInt8),fit a→fit b→bytes a++r=bytes b++q→a=b∧r=q
  | ⟨k,b,n,s,l,f⟩,⟨k',b',n',s',l',f'⟩,r,q,ha,hb,h=>by
    rw [bytes_hd _ ha,bytes_hd _ hb,List.cons_append,List.cons_append,List.cons.injEq] at h
    obtain ⟨e,h⟩:=h
    obtain ⟨k1,k2⟩:=hd_kind ha
    obtain ⟨k3,k4⟩:=hd_kind hb
    rw [e] at k1 k2
    have ek:k=k':=by omega
    subst ek
    rw [fit] at ha hb
    rw [tl,tl] at h
    obtain ⟨g0,g1,g2,g3,g4,g5,_,_,_,_,g6,g7⟩:=ha
    obtain ⟨j0,j1,j2,j3,j4,j5,_,_,_,_,j6,j7⟩:=hb
    have eb:b=b':=by
      by_cases h1:k=1
      · exact (k2 h1).trans (k4 h1).symm
      · rw [g1 h1,j1 h1]
    subst eb
    by_cases h2:k=2
    · subst h2
      simp only [show ¬(2:Nat)≤1 by omega,if_false,if_true] at h
      obtain ⟨e1,e2⟩:=num_app h
      rw [fold_inj e1,g3 (by omega) (by omega),j3 (by omega) (by omega),g4 (by omega),j4 (by omega),g5 (by omega),j5 (by omega),e2]
      exact ⟨rfl,rfl⟩
    have en:n=n':=by rw [g2 h2,j2 h2]
    subst en
    by_cases h3:k=3∨k=4
    · rw [if_neg (by omega),if_neg h2,if_pos h3,if_neg (by omega),if_neg h2,if_pos h3] at h
      obtain ⟨e1,e2⟩:=text_app h
      rw [e1,g4 (by omega),j4 (by omega),g5 (by omega),j5 (by omega),e2]
      exact ⟨rfl,rfl⟩
    have es:s=s':=by rw [g3 (by omega) (by omega),j3 (by omega) (by omega)]
    subst es
    by_cases h5:k=5
    · rw [if_neg (by omega),if_neg h2,if_neg h3,if_pos h5,if_neg (by omega),if_neg h2,if_neg h3,if_pos h5,List.append_assoc,List.append_assoc] at h
      obtain ⟨e1,e2⟩:=num_app h
      obtain ⟨e3,e4⟩:=bytesL_app l l' r q e1 g6 j6 e2
      rw [e3,g5 (by omega),j5 (by omega),e4]
      exact ⟨rfl,rfl⟩
    have el:l=l':=by rw [g4 h5,j4 h5]
    by_cases h6:k=6
    · rw [if_neg (by omega),if_neg h2,if_neg h3,if_neg h5,if_neg (by omega),if_neg h2,if_neg h3,if_neg h5,List.append_assoc,List.append_assoc] at h
      obtain ⟨e1,e2⟩:=num_app h
      obtain ⟨e3,e4⟩:=bytesF_app f f' r q e1 g7 j7 e2
      rw [e3,el,e4]
      exact ⟨rfl,rfl⟩
    rw [if_pos (by omega),if_pos (by omega)] at h
    rw [el,g5 h6,j5 h6]
    exact ⟨rfl,h⟩
theorem bytesL_app:∀(l l':List V) (r q:List UInt8),l.length=l'.length→fitL l→fitL l'→bytesL l++r=bytesL l'++q→l=l'∧r=q
  | [],[],r,q,_,_,_,h=>⟨rfl,by simpa [bytesL] using h⟩
  | [],_ :: _,_,_,hl,_,_,_=>by simp at hl
  | _ :: _,[],_,_,hl,_,_,_=>by simp at hl
  | x :: l,y :: l',r,q,hl,ha,hb,h=>by
    rw [fitL] at ha hb
    rw [bytesL,bytesL,List.append_assoc,List.append_assoc] at h
    obtain ⟨e1,e2⟩:=bytes_app x y _ _ ha.1 hb.1 h
    obtain ⟨e3,e4⟩:=bytesL_app l l' r q (by simpa using hl) ha.2 hb.2 e2
    rw [e1,e3,e4]
    exact ⟨rfl,rfl⟩
theorem bytesF_app:∀(l l':List (ByteArray × V)) (r q:List UInt8),l.length=l'.length→fitF l→fitF l'→bytesF l++r=bytesF l'++q→l=l'∧r=q
  | [],[],r,q,_,_,_,h=>⟨rfl,by simpa [bytesF] using h⟩
  | [],_ :: _,_,_,hl,_,_,_=>by simp at hl
  | _ :: _,[],_,_,hl,_,_,_=>by simp at hl
  | (m,x) :: l,(p,y) :: l',r,q,hl,ha,hb,h=>by
    rw [fitF] at ha hb
    rw [bytesF,bytesF,List.append_assoc,List.append_assoc,List.append_assoc,List.append_assoc] at h
    obtain ⟨e0,h⟩:=text_app h
    obtain ⟨e1,e2⟩:=bytes_app x y _ _ ha.1.2 hb.1.2 h
    obtain ⟨e3,e4⟩:=bytesF_app l l' r q (by simpa using hl) ha.2 hb.2 e2
    rw [e0,e1,e3,e4]
    exact ⟨rfl,rfl⟩
end

def noV (r:List UInt8):Prop:=∀v q,fit v→r≠bytes v++q
def noText (r:List UInt8):Prop:=∀(s:ByteArray) q,s.size≤65536→r≠text s++q
def noField (r:List UInt8):Prop:=∀(m:ByteArray) x q,m.size≤65536→fit x→r≠text m++(bytes x++q)
def noNum (r:List UInt8):Prop:=∀n,n<18446744073709551616→¬num n <+: r
def noL (n:Nat) (r:List UInt8):Prop:=∀l q,l.length=n→fitL l→r≠bytesL l++q
def noF (n:Nat) (r:List UInt8):Prop:=∀l q,l.length=n→fitF l→r≠bytesF l++q
theorem noV_nil:noV []:=fun _ q h=>bytes_ne h q
theorem noV_first {b:UInt8} {r:List UInt8} (h:8≤b.toNat):noV (b :: r):=fun v q hv e=>by
  rw [bytes_hd v hv,List.cons_append,List.cons.injEq] at e
  have:=hd_lt v hv
  rw [←e.1] at this
  omega
theorem noV_of {b:UInt8} {r:List UInt8} (h:∀k bb n s l f q,fit ⟨k,bb,n,s,l,f⟩→k=kindOf b.toNat→r≠tl ⟨k,bb,n,s,l,f⟩++q):noV (b :: r):=by
  rintro ⟨k,bb,n,s,l,f⟩ q hv e
  rw [bytes_hd _ hv,List.cons_append,List.cons.injEq] at e
  exact h k bb n s l f q hv (by rw [e.1];exact (hd_kind hv).1) e.2
theorem fold_fit {k:Nat} {b:Bool} {n:Int} {s:ByteArray} {l:List V} {f:List (ByteArray × V)} (h:fit ⟨k,b,n,s,l,f⟩):fold n<18446744073709551616:=by
  rw [fit] at h
  exact fold_lt n h.2.2.2.2.2.2.1.1 h.2.2.2.2.2.2.1.2
theorem noV_int {r:List UInt8} (h:noNum r):noV (3 :: r):=noV_of fun k bb n s l f q hv hk e=>by
  have hk:k=2:=hk
  subst hk
  exact h _ (fold_fit hv) (e ▸ List.prefix_append _ _)
theorem noV_text {b:UInt8} {r:List UInt8} (hb:b.toNat=4∨b.toNat=5) (h:noText r):noV (b :: r):=noV_of fun k bb n s l f q hv hk e=>by
  have hk:k=3∨k=4:=by rcases hb with e | e<;>rw [e] at hk<;>simp [kindOf] at hk<;>omega
  rw [tl,if_neg (by omega),if_neg (by omega),if_pos hk] at e
  rw [fit] at hv
  exact h s q hv.2.2.2.2.2.2.2.1 e
theorem noText_num {r:List UInt8} (h:noNum r):noText r:=fun s q hs e=>by
  rw [text,List.append_assoc] at e
  exact h _ (by omega) (e ▸ List.prefix_append _ _)
theorem noText_short {n:Nat} {r:List UInt8} (h:r.length<n):noText (num n++r):=fun s q hs e=>by
  rw [text,List.append_assoc] at e
  obtain ⟨e1,e2⟩:=num_app e
  have:=congrArg List.length e2
  rw [List.length_append,←Lib.size_eq] at this
  omega
theorem noField_text {r:List UInt8} (h:noText r):noField r:=fun m _ _ hm _ e=>h m _ hm e
theorem noField_value {m:ByteArray} {r:List UInt8} (h:noV r):noField (text m++r):=fun p x q hp hx e=>by
  obtain ⟨_,e2⟩:=text_app e
  exact h x q hx e2
theorem noV_list_num {r:List UInt8} (h:noNum r):noV (6 :: r):=noV_of fun k bb n s l f q hv hk e=>by
  have hk:k=5:=hk
  subst hk
  rw [tl] at e
  simp only [show ¬(5:Nat)≤1 by omega,show ¬(5:Nat)=2 by omega,show ¬((5:Nat)=3∨(5:Nat)=4) by omega,if_false,if_true,List.append_assoc] at e
  rw [fit] at hv
  exact h l.length (by have:=hv.2.2.2.2.2.2.2.2.1;omega) (e ▸ List.prefix_append _ _)
theorem noV_struct_num {r:List UInt8} (h:noNum r):noV (7 :: r):=noV_of fun k bb n s l f q hv hk e=>by
  have hk:k=6:=hk
  subst hk
  rw [tl] at e
  simp only [show ¬(6:Nat)≤1 by omega,show ¬(6:Nat)=2 by omega,show ¬((6:Nat)=3∨(6:Nat)=4) by omega,show ¬(6:Nat)=5 by omega,if_false,List.append_assoc] at e
  rw [fit] at hv
  exact h f.length (by have:=hv.2.2.2.2.2.2.2.2.2.1;omega) (e ▸ List.prefix_append _ _)
theorem noV_list {m:Nat} {r:List UInt8} (h:m≤64→noL m r):noV (6 :: (num m++r)):=noV_of fun k bb n s l f q hv hk e=>by
  have hk:k=5:=hk
  subst hk
  rw [tl] at e
  simp only [show ¬(5:Nat)≤1 by omega,show ¬(5:Nat)=2 by omega,show ¬((5:Nat)=3∨(5:Nat)=4) by omega,if_false,if_true,List.append_assoc] at e
  rw [fit] at hv
  obtain ⟨e1,e2⟩:=num_app e
  exact h (by have:=hv.2.2.2.2.2.2.2.2.1;omega) l q e1.symm hv.2.2.2.2.2.2.2.2.2.2.1 e2
theorem noV_struct {m:Nat} {r:List UInt8} (h:m≤64→noF m r):noV (7 :: (num m++r)):=noV_of fun k bb n s l f q hv hk e=>by
  have hk:k=6:=hk
  subst hk
  rw [tl] at e
  simp only [show ¬(6:Nat)≤1 by omega,show ¬(6:Nat)=2 by omega,show ¬((6:Nat)=3∨(6:Nat)=4) by omega,show ¬(6:Nat)=5 by omega,if_false,List.append_assoc] at e
  rw [fit] at hv
  obtain ⟨e1,e2⟩:=num_app e
  exact h (by have:=hv.2.2.2.2.2.2.2.2.2.1;omega) f q e1.symm hv.2.2.2.2.2.2.2.2.2.2.2 e2
theorem noL_now {n:Nat} {r:List UInt8} (h:noV r) (hn:1≤n):noL n r:=fun l q hl hf e=>by
  match l,hl,hf,e with
  | [],hl,_,_=>simp at hl;omega
  | x :: l,_,hf,e =>
    rw [fitL] at hf
    rw [bytesL,List.append_assoc] at e
    exact h x _ hf.1 e
theorem noF_now {n:Nat} {r:List UInt8} (h:noField r) (hn:1≤n):noF n r:=fun l q hl hf e=>by
  match l,hl,hf,e with
  | [],hl,_,_=>simp at hl;omega
  | (m,x) :: l,_,hf,e =>
    rw [fitF] at hf
    rw [bytesF,List.append_assoc,List.append_assoc] at e
    exact h m x _ hf.1.1 hf.1.2 e
theorem noL_app:∀(l:List V) (n:Nat) (r:List UInt8),fitL l→noL n r→noL (l.length+n) (bytesL l++r)
  | [],n,r,_,h=>by simpa [bytesL] using h
  | x :: l,n,r,hx,h=>fun l' q hl hf e=>by
    rw [fitL] at hx
    match l',hl,hf,e with
    | [],hl,_,_=>simp at hl;omega
    | y :: l',hl,hf,e =>
      rw [fitL] at hf
      rw [bytesL,bytesL,List.append_assoc,List.append_assoc] at e
      obtain ⟨_,e2⟩:=bytes_app x y _ _ hx.1 hf.1 e
      exact noL_app l n r hx.2 h l' q (by simp only [List.length_cons] at hl;omega) hf.2 e2
theorem noF_app:∀(l:List (ByteArray × V)) (n:Nat) (r:List UInt8),fitF l→noF n r→noF (l.length+n) (bytesF l++r)
  | [],n,r,_,h=>by simpa [bytesF] using h
  | (m,x) :: l,n,r,hx,h=>fun l' q hl hf e=>by
    rw [fitF] at hx
    match l',hl,hf,e with
    | [],hl,_,_=>simp at hl;omega
    | (p,y) :: l',hl,hf,e =>
      rw [fitF] at hf
      rw [bytesF,bytesF,List.append_assoc,List.append_assoc,List.append_assoc,List.append_assoc] at e
      obtain ⟨_,e1⟩:=text_app e
      obtain ⟨_,e2⟩:=bytes_app x y _ _ hx.1.2 hf.1.2 e1
      exact noF_app l n r hx.2 h l' q (by simp only [List.length_cons] at hl;omega) hf.2 e2
theorem bytesL_snoc:∀(l:List V) (x:V),bytesL (l++[x])=bytesL l++bytes x
  | [],x=>by simp [bytesL]
  | y :: l,x=>by rw [List.cons_append,bytesL,bytesL_snoc l x,bytesL,List.append_assoc]
theorem bytesF_snoc:∀(l:List (ByteArray × V)) (m:ByteArray) (x:V),bytesF (l++[(m,x)])=bytesF l++(text m++bytes x)
  | [],m,x=>by simp [bytesF]
  | (p,y) :: l,m,x=>by rw [List.cons_append,bytesF,bytesF_snoc l m x,bytesF];simp
theorem fitL_snoc:∀(l:List V) (x:V),fitL l→fit x→fitL (l++[x])
  | [],x,_,h=>by rw [List.nil_append,fitL,fitL];exact ⟨h,trivial⟩
  | y :: l,x,hl,h=>by rw [fitL] at hl;rw [List.cons_append,fitL];exact ⟨hl.1,fitL_snoc l x hl.2 h⟩
theorem fitF_snoc:∀(l:List (ByteArray × V)) (m:ByteArray) (x:V),fitF l→m.size≤65536→fit x→fitF (l++[(m,x)])
  | [],m,x,_,hm,h=>by rw [List.nil_append,fitF,fitF];exact ⟨⟨hm,h⟩,trivial⟩
  | (p,y) :: l,m,x,hl,hm,h=>by rw [fitF] at hl;rw [List.cons_append,fitF];exact ⟨hl.1,fitF_snoc l m x hl.2 hm h⟩
mutual
def rng:V→Prop
  | ⟨_,_,n,_,l,f⟩=>(-9223372036854775808≤n∧n≤9223372036854775807)∧rngL l∧rngF f
def rngL:List V→Prop
  | []=>True
  | x :: r=>rng x∧rngL r
def rngF:List (ByteArray × V)→Prop
  | []=>True
  | (_,x) :: r=>rng x∧rngF r
end
theorem alone_sizes {u:ByteArray→Bool} {d k:Nat} {b:Bool} {n:Int} {s:ByteArray} {l:List V} {f:List (ByteArray × V)} (h:Vl.check u d ⟨k,b,n,s,l,f⟩=0):s.size≤1024∧l.length≤64∧f.length≤64:=by
  have h2:Vl.alone u d ⟨k,b,n,s,l,f⟩=0:=by
    rw [Vl.check] at h
    by_cases e:Vl.alone u d ⟨k,b,n,s,l,f⟩=0
    · exact e
    · rw [if_pos e] at h;exact absurd h e
  rw [Vl.alone] at h2
  by_cases h3:7≤k∨Vl.strange ⟨k,b,n,s,l,f⟩=true
  · rw [if_pos h3] at h2;cases h2
  · rw [if_neg h3] at h2
    by_cases h4:1024<s.size
    · rw [if_pos h4] at h2;cases h2
    · rw [if_neg h4] at h2
      split at h2
      · cases h2
      · split at h2
        · cases h2
        · omega
mutual
theorem fit_of (u:ByteArray→Bool):∀(d:Nat) (t:V),Vl.check u d t=0→rng t→fit t
  | d,⟨k,b,n,s,l,f⟩,h,hr=>by
    obtain ⟨a1,a2,a3,a4,a5,a6,a7,a8⟩:=Vl.right_form u h
    obtain ⟨b1,b2,b3⟩:=alone_sizes h
    rw [rng] at hr
    rw [fit]
    exact ⟨by omega,a2,a3,a4,a5,a6,hr.1,by omega,b2,b3,fitL_of u (d+1) l a7 hr.2.1,fitF_of u (d+1) Option.none f a8 hr.2.2⟩
theorem fitL_of (u:ByteArray→Bool):∀(d:Nat) (l:List V),Vl.checkL u d l=0→rngL l→fitL l
  | _,[],_,_=>by rw [fitL];trivial
  | d,x :: r,h,hr=>by
    rw [Vl.checkL] at h
    rw [rngL] at hr
    rw [fitL]
    by_cases e:Vl.check u d x=0
    · rw [if_neg (by simp [e])] at h
      exact ⟨fit_of u d x e hr.1,fitL_of u d r h hr.2⟩
    · rw [if_pos e] at h;exact absurd h e
theorem fitF_of (u:ByteArray→Bool):∀(d:Nat) (p:Option ByteArray) (l:List (ByteArray × V)),Vl.checkF u d p l=0→rngF l→fitF l
  | _,_,[],_,_=>by rw [fitF];trivial
  | d,p,(m,x) :: r,h,hr=>by
    rw [Vl.checkF] at h
    rw [rngF] at hr
    rw [fitF]
    by_cases e0:Vl.nameErr u m=0
    · rw [if_neg (by simp [e0])] at h
      by_cases e1:Vl.notUp m p=true
      · rw [if_pos e1] at h;cases h
      · rw [if_neg e1] at h
        by_cases e:Vl.check u d x=0
        · rw [if_neg (by simp [e])] at h
          refine ⟨⟨?_,fit_of u d x e hr.1⟩,fitF_of u d (some m) r h hr.2⟩
          rw [Vl.nameErr] at e0
          split at e0
          · cases e0
          · omega
        · rw [if_pos e] at h;exact absurd h e
    · rw [if_pos e0] at h;exact absurd h e0
end
end Bn
end Go.Proofs.YtggnfejjcgbebaaGreatDoor
