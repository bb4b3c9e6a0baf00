/- Several texts, joined: ShMath, ShRot, ShHeap, ShMix, ShSpread, ShChange, ShAppend, ShPad, ShFinish, ShSum -/
import Derived.Laws.BitsAllLaws
import Derived.Laws.BitsLemmas
import Derived.Test.YtggnfejjcgbebaaGreatDoorRows
import Derived.WalkKit
import Derived.WalkLawsBesides
import Derived.Deep.QuietTactic
import Derived.BigQuiet
import Derived.Outline
import Derived.Deep.RegionHeld3
import Derived.Deep.MidRow
import Derived.Deep.DrawnRows
import Derived.LoopTactic
import Derived.WalkSpells
import Derived.BigRegion
import Derived.Laws.CopyOwn
import Derived.Lib.Strings
import Derived.OwnWalk
import Derived.Laws.IdiomStrings
import Derived.Laws.OwnMore
/- Plain mathematics of the digest: the rotation, the schedule, a round, a block, all on natural numbers; nothing of the program is in it. -/
namespace Go.Proofs.YtggnfejjcgbebaaGreatDoor
open Go
namespace Sh

def rotr (x n:Nat):Nat:=(x*2 ^ (32 - n) % 4294967296) ||| (x / 2 ^ n)

theorem or_lt {a b:Nat} (ha:a<4294967296) (hb:b<4294967296):(a ||| b)<4294967296:=Nat.or_lt_two_pow (n:=32) ha hb
theorem and_lt {a b:Nat} (ha:a<4294967296):(a &&& b)<4294967296:=Nat.lt_of_le_of_lt Nat.and_le_left ha
theorem xor_lt {a b:Nat} (ha:a<4294967296) (hb:b<4294967296):(a ^^^ b)<4294967296:=Nat.xor_lt_two_pow (n:=32) ha hb
theorem rotr_lt {x:Nat} (n:Nat) (hx:x<4294967296):rotr x n<4294967296 :=
  or_lt (Nat.mod_lt _ (by decide)) (Nat.lt_of_le_of_lt (Nat.div_le_self _ _) hx)

theorem mask31 (n:Int) (h0:0<n) (h1:n<32):bits .and .u64 (IntKind.u64.wrap (-n)) 31=32 - n:=by
  have hw:IntKind.u64.wrap (-n)=18446744073709551616 - n:=by
    simp only [IntKind.wrap,IntKind.bits,IntKind.signed]
    simp
    omega
  rw [hw,show (31:Int)=((31:Nat):Int) from rfl]
  rw [u64_and _ _ (by omega) (by omega) (by omega) (by omega)]
  rw [show ((31:Nat):Int).toNat=31 from rfl,nat_mask5]
  omega

theorem shl_eq (x m:Nat):((x:Int)*2 ^ m % 4294967296)=((x*2 ^ m % 4294967296:Nat):Int):=by
  rw [Int.natCast_emod,Int.natCast_mul,Int.natCast_pow]
  rfl
theorem shr_eq (x m:Nat):((x:Int) / 2 ^ m)=((x / 2 ^ m:Nat):Int):=by
  rw [Int.natCast_ediv,Int.natCast_pow]
  rfl
theorem rot_eq (x:Nat) (n:Int) (hx:x<4294967296) (h0:0<n) (h1:n<32) :
    bits .or .u32 ((x:Int)*2 ^ (32 - n).toNat % 4294967296) ((x:Int) / 2 ^ (32 - (32 - n)).toNat)=((rotr x n.toNat:Nat):Int):=by
  have e:(32 - (32 - n)).toNat=n.toNat:=by omega
  have e2:(32 - n).toNat=32 - n.toNat:=by omega
  rw [e,e2,shl_eq,shr_eq,u32_or_nat _ _ (Nat.mod_lt _ (by decide)) (Nat.lt_of_le_of_lt (Nat.div_le_self _ _) hx)]
  rfl
theorem rot_eq' (x:Nat) (n:Int) (hx:x<4294967296) (h0:0<n) (h1:n<32) :
    bits .or .u32 ((x:Int) / 2 ^ n.toNat) ((x:Int)*2 ^ (32 - n).toNat % 4294967296)=((rotr x n.toNat:Nat):Int):=by
  have e2:(32 - n).toNat=32 - n.toNat:=by omega
  rw [e2,shl_eq,shr_eq,u32_or_nat _ _ (Nat.lt_of_le_of_lt (Nat.div_le_self _ _) hx) (Nat.mod_lt _ (by decide)),Nat.or_comm]
  rfl

def be32 (s:List UInt8) (i:Nat):Nat :=
  (((s.getD i 0).toNat*256+(s.getD (i+1) 0).toNat)*256+(s.getD (i+2) 0).toNat)*256+(s.getD (i+3) 0).toNat
theorem be32_lt (s:List UInt8) (i:Nat):be32 s i<4294967296:=by
  have h0:=(s.getD i 0).toNat_lt
  have h1:=(s.getD (i+1) 0).toNat_lt
  have h2:=(s.getD (i+2) 0).toNat_lt
  have h3:=(s.getD (i+3) 0).toNat_lt
  unfold be32
  omega

def sig1 (x:Nat):Nat:=rotr x 17 ^^^ rotr x 19 ^^^ x / 2 ^ 10
def sig0 (x:Nat):Nat:=rotr x 7 ^^^ rotr x 18 ^^^ x / 2 ^ 3
def grow (p16 p15 p7 p2:Nat):Nat:=(((p16+sig0 p15) % 4294967296+p7) % 4294967296+sig1 p2) % 4294967296
def nextW (s:List UInt8) (l:List Nat):Nat :=
  if l.length<16 then be32 s (4*l.length) else grow (l.getD (l.length - 16) 0) (l.getD (l.length - 15) 0) (l.getD (l.length - 7) 0) (l.getD (l.length - 2) 0)
def ws (s:List UInt8):Nat→List Nat
  | 0=>[]
  | k+1=>ws s k++[nextW s (ws s k)]
theorem ws_length (s:List UInt8) (k:Nat):(ws s k).length=k:=by
  induction k with
  | zero=>rfl
  | succ k ih=>simp [ws,ih]
theorem nextW_lt (s:List UInt8) (l:List Nat):nextW s l<4294967296:=by
  unfold nextW
  split
  · exact be32_lt _ _
  · exact Nat.mod_lt _ (by decide)
theorem ws_lt (s:List UInt8) (k:Nat):∀x∈ws s k,x<4294967296:=by
  induction k with
  | zero=>simp [ws]
  | succ k ih =>
    intro x hx
    simp only [ws,List.mem_append,List.mem_singleton] at hx
    rcases hx with h | h
    · exact ih x h
    · rw [h];exact nextW_lt _ _
theorem getD_lt {l:List Nat} (h:∀x∈l,x<4294967296) (j:Nat):l.getD j 0<4294967296:=by
  rw [List.getD_eq_getElem?_getD]
  cases e:l[j]? with
  | none=>simp
  | some v=>simpa using h v (List.mem_of_getElem? e)

def arr (L:List Nat):Array Value:=(L.map fun n:Nat=>Value.int .u32 (n:Int)).toArray
theorem arr_size (L:List Nat):(arr L).size=L.length:=by simp [arr]
theorem arr_get (L:List Nat) (j:Nat) (h:j<L.length):(arr L)[j]?=some (Value.int .u32 ((L.getD j 0:Nat):Int)):=by
  simp [arr,h]
theorem arr_set (L:List Nat) (j x:Nat):(arr L).setIfInBounds j (Value.int .u32 (x:Int))=arr (L.set j x):=by
  simp [arr,List.map_set]
def wz (s:List UInt8) (k:Nat):List Nat:=ws s k++List.replicate (64 - k) 0
theorem wz_length (s:List UInt8) (k:Nat) (h:k≤64):(wz s k).length=64:=by simp [wz,ws_length];omega
theorem wz_getD (s:List UInt8) (k j:Nat) (h:j<k):(wz s k).getD j 0=(ws s k).getD j 0:=by
  unfold wz
  rw [List.getD_eq_getElem?_getD,List.getD_eq_getElem?_getD,List.getElem?_append_left (by rw [ws_length];exact h)]
theorem wz_set (s:List UInt8) (k:Nat) (h:k<64):(wz s k).set k (nextW s (ws s k))=wz s (k+1):=by
  unfold wz
  rw [List.set_append_right _ _ (by rw [ws_length];exact Nat.le_refl _),ws_length]
  rw [show 64 - k=(64 - (k+1))+1 by omega,List.replicate_succ]
  simp [ws]
theorem wz_lt (s:List UInt8) (k:Nat) (j:Nat):(wz s k).getD j 0<4294967296:=by
  apply getD_lt
  intro x hx
  simp only [wz,List.mem_append,List.mem_replicate] at hx
  rcases hx with h | h
  · exact ws_lt s k x h
  · rw [h.2];decide
theorem wz_64 (s:List UInt8):wz s 64=ws s 64:=by simp [wz]
theorem wz_0 (s:List UInt8):wz s 0=List.replicate 64 0:=by simp [wz,ws]

theorem or4 (b0 b1 b2 b3:Nat) (h0:b0<256) (h1:b1<256) (h2:b2<256) (h3:b3<256) :
    bits .or .u32 (bits .or .u32 (bits .or .u32 ((b0:Int)*16777216) ((b1:Int)*65536)) ((b2:Int)*256)) (b3:Int)=(((((b0*256+b1)*256+b2)*256+b3:Nat)):Int):=by
  rw [show ((b0:Int)*16777216)=((b0*16777216:Nat):Int) by omega,show ((b1:Int)*65536)=((b1*65536:Nat):Int) by omega,show ((b2:Int)*256)=((b2*256:Nat):Int) by omega]
  rw [u32_or_nat _ _ (by omega) (by omega),nat_join 24 _ _ (by omega) (by omega)]
  rw [u32_or_nat _ _ (by omega) (by omega),nat_join 16 _ _ (by omega) (by omega)]
  rw [u32_or_nat _ _ (by omega) (by omega),nat_join 8 _ _ (by omega) (by omega)]
  omega

theorem grow_eq (p16 p15 p7 p2:Nat) (h15:p15<4294967296) (h2:p2<4294967296) :
    ((((p16:Int)+bits .xor .u32 (bits .xor .u32 ((rotr p15 7:Nat):Int) ((rotr p15 18:Nat):Int)) ((p15:Int) / 8)) % 4294967296+(p7:Int)) % 4294967296+bits .xor .u32 (bits .xor .u32 ((rotr p2 17:Nat):Int) ((rotr p2 19:Nat):Int)) ((p2:Int) / 1024)) % 4294967296=((grow p16 p15 p7 p2:Nat):Int):=by
  rw [show ((p15:Int) / 8)=((p15 / 2 ^ 3:Nat):Int) by omega,show ((p2:Int) / 1024)=((p2 / 2 ^ 10:Nat):Int) by omega]
  rw [u32_xor_nat _ _ (rotr_lt _ h15) (rotr_lt _ h15),u32_xor_nat _ _ (xor_lt (rotr_lt _ h15) (rotr_lt _ h15)) (by omega)]
  rw [u32_xor_nat _ _ (rotr_lt _ h2) (rotr_lt _ h2),u32_xor_nat _ _ (xor_lt (rotr_lt _ h2) (rotr_lt _ h2)) (by omega)]
  unfold grow sig0 sig1
  omega

def K:List Nat:=[1116352408,1899447441,3049323471,3921009573,961987163,1508970993,2453635748,2870763221,3624381080,310598401,607225278,1426881987,1925078388,2162078206,2614888103,3248222580,3835390401,4022224774,264347078,604807628,770255983,1249150122,1555081692,1996064986,2554220882,2821834349,2952996808,3210313671,3336571891,3584528711,113926993,338241895,666307205,773529912,1294757372,1396182291,1695183700,1986661051,2177026350,2456956037,2730485921,2820302411,3259730800,3345764771,3516065817,3600352804,4094571909,275423344,430227734,506948616,659060556,883997877,958139571,1322822218,1537002063,1747873779,1955562222,2024104815,2227730452,2361852424,2428436474,2756734187,3204031479,3329325298]
structure S8 where
  a:Nat
  b:Nat
  c:Nat
  d:Nat
  e:Nat
  f:Nat
  g:Nat
  h:Nat
def S8.list (s:S8):List Nat:=[s.a,s.b,s.c,s.d,s.e,s.f,s.g,s.h]
def S8.ok (s:S8):Prop:=s.a<4294967296∧s.b<4294967296∧s.c<4294967296∧s.d<4294967296∧s.e<4294967296∧s.f<4294967296∧s.g<4294967296∧s.h<4294967296
def tOf (e f g h k w:Nat):Nat :=
  ((((h+(rotr e 6 ^^^ rotr e 11 ^^^ rotr e 25)) % 4294967296+((e &&& f) ^^^ ((4294967295 - e) &&& g))) % 4294967296+k) % 4294967296+w) % 4294967296
def uOf (a b c:Nat):Nat:=((rotr a 2 ^^^ rotr a 13 ^^^ rotr a 22)+((a &&& b) ^^^ (a &&& c) ^^^ (b &&& c))) % 4294967296
def step (s:S8) (k w:Nat):S8 :=
  ⟨(tOf s.e s.f s.g s.h k w+uOf s.a s.b s.c) % 4294967296,s.a,s.b,s.c,(s.d+tOf s.e s.f s.g s.h k w) % 4294967296,s.e,s.f,s.g⟩
def rounds (s:S8) (l:List Nat):Nat→S8
  | 0=>s
  | k+1=>step (rounds s l k) (K.getD k 0) (l.getD k 0)
def plus (s v:S8):S8 :=
  ⟨(s.a+v.a) % 4294967296,(s.b+v.b) % 4294967296,(s.c+v.c) % 4294967296,(s.d+v.d) % 4294967296,(s.e+v.e) % 4294967296,(s.f+v.f) % 4294967296,(s.g+v.g) % 4294967296,(s.h+v.h) % 4294967296⟩
def mixed (s:S8) (l:List Nat):S8:=plus s (rounds s l 64)
theorem step_ok {s:S8} (k w:Nat) (h:s.ok):(step s k w).ok :=
  ⟨Nat.mod_lt _ (by decide),h.1,h.2.1,h.2.2.1,Nat.mod_lt _ (by decide),h.2.2.2.2.1,h.2.2.2.2.2.1,h.2.2.2.2.2.2.1⟩
theorem rounds_ok {s:S8} (l:List Nat) (h:s.ok) (k:Nat):(rounds s l k).ok:=by
  induction k with
  | zero=>exact h
  | succ k ih=>exact step_ok _ _ ih
theorem plus_ok (s v:S8):(plus s v).ok :=
  ⟨Nat.mod_lt _ (by decide),Nat.mod_lt _ (by decide),Nat.mod_lt _ (by decide),Nat.mod_lt _ (by decide),Nat.mod_lt _ (by decide),Nat.mod_lt _ (by decide),Nat.mod_lt _ (by decide),Nat.mod_lt _ (by decide)⟩

theorem not_eq (e:Nat) (he:e<4294967296):4294967295 ^^^ e=4294967295 - e:=by
  have h1:(~~~ (BitVec.ofNat 32 e)).toNat=4294967295 - e:=by
    rw [BitVec.toNat_not,BitVec.toNat_ofNat,Nat.mod_eq_of_lt he]
  rw [BitVec.not_def,BitVec.toNat_xor,BitVec.toNat_allOnes,BitVec.toNat_ofNat,Nat.mod_eq_of_lt he] at h1
  exact h1
theorem max_u32:IntKind.u32.max=((4294967295:Nat):Int):=rfl
theorem xor3 (a b c:Nat) (ha:a<4294967296) (hb:b<4294967296) (hc:c<4294967296):bits .xor .u32 (bits .xor .u32 (a:Int) (b:Int)) (c:Int)=((a ^^^ b ^^^ c:Nat):Int):=by
  rw [u32_xor_nat _ _ ha hb,u32_xor_nat _ _ (xor_lt ha hb) hc]
theorem ch_eq (e f g:Nat) (he:e<4294967296) (hf:f<4294967296) (hg:g<4294967296) :
    bits .xor .u32 (bits .and .u32 (e:Int) (f:Int)) (bits .and .u32 (bits .xor .u32 IntKind.u32.max (e:Int)) (g:Int))=(((e &&& f) ^^^ ((4294967295 - e) &&& g):Nat):Int):=by
  rw [max_u32,u32_xor_nat _ _ (by decide) he,not_eq e he,u32_and_nat _ _ he hf,u32_and_nat _ _ (by omega) hg,u32_xor_nat _ _ (and_lt he) (and_lt (by omega))]
theorem maj_eq (a b c:Nat) (ha:a<4294967296) (hb:b<4294967296) (hc:c<4294967296) :
    bits .xor .u32 (bits .xor .u32 (bits .and .u32 (a:Int) (b:Int)) (bits .and .u32 (a:Int) (c:Int))) (bits .and .u32 (b:Int) (c:Int))=(((a &&& b) ^^^ (a &&& c) ^^^ (b &&& c):Nat):Int):=by
  rw [u32_and_nat _ _ ha hb,u32_and_nat _ _ ha hc,u32_and_nat _ _ hb hc,xor3 _ _ _ (and_lt ha) (and_lt ha) (and_lt hb)]
theorem first_eq (v:S8) (k w:Nat) (hv:v.ok) :
    ((v.h:Int)+bits .xor .u32 (bits .xor .u32 ((rotr v.e 6:Nat):Int) ((rotr v.e 11:Nat):Int)) ((rotr v.e 25:Nat):Int) +
      bits .xor .u32 (bits .and .u32 (v.e:Int) (v.f:Int)) (bits .and .u32 (bits .xor .u32 IntKind.u32.max (v.e:Int)) (v.g:Int))+(k:Int)+(w:Int) +
      (bits .xor .u32 (bits .xor .u32 ((rotr v.a 2:Nat):Int) ((rotr v.a 13:Nat):Int)) ((rotr v.a 22:Nat):Int) +
        bits .xor .u32 (bits .xor .u32 (bits .and .u32 (v.a:Int) (v.b:Int)) (bits .and .u32 (v.a:Int) (v.c:Int))) (bits .and .u32 (v.b:Int) (v.c:Int)))) % 4294967296=((((tOf v.e v.f v.g v.h k w+uOf v.a v.b v.c) % 4294967296:Nat)):Int):=by
  obtain ⟨ha,hb,hc,hd,he,hf,hg,hh⟩:=hv
  rw [xor3 _ _ _ (rotr_lt _ he) (rotr_lt _ he) (rotr_lt _ he),ch_eq _ _ _ he hf hg,xor3 _ _ _ (rotr_lt _ ha) (rotr_lt _ ha) (rotr_lt _ ha),maj_eq _ _ _ ha hb hc]
  unfold tOf uOf
  omega
theorem fifth_eq (v:S8) (k w:Nat) (hv:v.ok) :
    ((v.d:Int)+((v.h:Int)+bits .xor .u32 (bits .xor .u32 ((rotr v.e 6:Nat):Int) ((rotr v.e 11:Nat):Int)) ((rotr v.e 25:Nat):Int) +
      bits .xor .u32 (bits .and .u32 (v.e:Int) (v.f:Int)) (bits .and .u32 (bits .xor .u32 IntKind.u32.max (v.e:Int)) (v.g:Int))+(k:Int)+(w:Int))) % 4294967296=((((v.d+tOf v.e v.f v.g v.h k w) % 4294967296:Nat)):Int):=by
  obtain ⟨ha,hb,hc,hd,he,hf,hg,hh⟩:=hv
  rw [xor3 _ _ _ (rotr_lt _ he) (rotr_lt _ he) (rotr_lt _ he),ch_eq _ _ _ he hf hg]
  unfold tOf
  omega
def addTo (s v:List Nat):Nat→List Nat
  | 0=>s
  | k+1=>(addTo s v k).set k (((addTo s v k).getD k 0+v.getD k 0) % 4294967296)
theorem addTo_length (s v:List Nat) (k:Nat):(addTo s v k).length=s.length:=by
  induction k with
  | zero=>rfl
  | succ k ih=>simp [addTo,ih]
theorem addTo_8 (s v:S8):addTo s.list v.list 8=(plus s v).list:=rfl

def blk (t:List UInt8) (k:Nat):List UInt8:=(t.drop (64*k)).take 64
def chg1 (s:S8) (b:List UInt8):S8:=mixed s (ws b 64)
def chg (s:S8) (t:List UInt8):Nat→S8
  | 0=>s
  | k+1=>chg1 (chg s t k) (blk t k)
theorem chg_ok {s:S8} (h:s.ok) (t:List UInt8) (k:Nat):(chg s t k).ok:=by
  cases k with
  | zero=>exact h
  | succ k=>exact plus_ok _ _

def nb (n many k:Nat):UInt8:=UInt8.ofNat (n / 2 ^ (8*(many - 1 - k)))
def bytesOf (n many:Nat):List UInt8:=(List.range many).map (nb n many)
theorem nb_eq (n many k:Nat):(((nb n many k).toNat:Nat):Int)=(n:Int) / 2 ^ (8*(many - 1 - k)) % 256:=by
  unfold nb
  rw [UInt8.toNat_ofNat',shr_eq]
  omega
end Sh
end Go.Proofs.YtggnfejjcgbebaaGreatDoor
/- The rotation of a word, by the program and by the reference: both are the plain one. -/
namespace Go.Proofs.YtggnfejjcgbebaaGreatDoor
open Go.RowKit
theorem ret_u32 {a b:Int} (h:a=b):Ending.returned (.int .u32 a)=.returned (.int .u32 b):=by rw [h]
set_option maxHeartbeats 400000 in
theorem rot34 (x:Nat) (n:Int) (w:World) (hx:x<4294967296) (h0:0<n) (h1:n<32) :
    Calls Tryz.prog 156 #[.int .u32 x,.int .i64 (-n)] w fun e w'=>e=.returned (.int .u32 (Sh.rotr x n.toNat:Nat))∧w'=w:=by
  have hm:=Sh.mask31 n h0 h1
  go_enter Tryz.func156,Tryz.ntmps156
  go_wp2
  go_ret
  exact ⟨ret_u32 (Sh.rot_eq x n hx h0 h1),rfl⟩
set_option maxHeartbeats 400000 in
theorem rot31 (x:Nat) (n:Int) (w:World) (hx:x<4294967296) (h0:0<n) (h1:n<32) :
    Calls Tryz.prog 149 #[.int .u32 x,.int .i64 n] w fun e w'=>e=.returned (.int .u32 (Sh.rotr x n.toNat:Nat))∧w'=w:=by
  go_enter Tryz.func149,Tryz.ntmps149
  go_wp2_with (go_at_call 156;refine (rot34 x n _ hx h0 h1).mono ?_;rintro e w' ⟨rfl,rfl⟩)
  go_ret
  exact ⟨rfl,rfl⟩
end Go.Proofs.YtggnfejjcgbebaaGreatDoor
/- Small laws on blocks of words in memory: a cell of a row, a row behind a store, a whole row stored and read, what stays below. -/
namespace Go.Proofs.YtggnfejjcgbebaaGreatDoor
open Go.RowKit
theorem cell_other {W:World} {b i j:Nat} (h:i≠j) (v:Value):(W.setCell ⟨b,i,none⟩ v).cell? ⟨b,j,none⟩=W.cell? ⟨b,j,none⟩ :=
  World.cell?_setCell_other _ ⟨b,i,none⟩ ⟨b,j,none⟩ _ (fun e=>h (congrArg Addr.off e))
theorem row_cell {W:World} {b:Nat} {L:List Nat} {t:TypeId} {fr:Nat × Nat} (h:W.heap[b]?=some (.cells (Sh.arr L) t fr)) (j:Nat) (hj:j<L.length) :
    W.cell? ⟨b,j,none⟩=some (.int .u32 ((L.getD j 0:Nat):Int)):=by
  rw [cell_of_row W b j _ t fr h]
  exact Sh.arr_get L j hj
theorem row_free {W:World} {b:Nat} {C:Array Value} {t:TypeId} (h:W.heap[b]?=some (.cells C t (0,0))) (j:Nat):W.frozen? ⟨b,j,none⟩=false:=by
  simp [World.frozen?,h]
theorem row_put {W:World} {b:Nat} {L:List Nat} {t:TypeId} (h:W.heap[b]?=some (.cells (Sh.arr L) t (0,0))) (i x:Nat) :
    (W.setCell ⟨b,i,none⟩ (.int .u32 (x:Int))).heap[b]?=some (.cells (Sh.arr (L.set i x)) t (0,0)):=by
  rw [heap_setCell_same W b i _ t _ h,Sh.arr_set]
theorem arr_one (L:List Nat):(Sh.arr L).all (·.oneCell')=true:=by
  rw [Array.all_eq_true]
  intro i hi
  simp [Sh.arr,Value.oneCell']
theorem row_there {W:World} {b n:Nat} {C:Array Value} {t:TypeId} (h:W.heap[b]?=some (.cells C t (0,0))) (hn:n≤C.size):W.there b 0 n:=by
  intro j hj
  refine ⟨?_,?_⟩
  · rw [cell_of_row W b _ C t _ h]
    simp;omega
  · exact row_free h _
theorem below_setCells {B b:Nat} (hb:B≤b) {A:World}:∀(vs:List Value) (o:Nat) {W:World},Below B A W→Below B A (W.setCells b o vs)
  | [],_,_,h=>h
  | v :: r,o,_,h=>below_setCells hb r (o+1) (h.setCell (p:=⟨b,o,none⟩) hb v)
theorem size_setCells' (b:Nat):∀(vs:List Value) (o:Nat) (W:World),(W.setCells b o vs).heap.size=W.heap.size
  | [],_,_=>rfl
  | v :: r,o,W=>by rw [World.setCells,size_setCells' b r];simp
theorem heap_setCells_at (b:Nat) (t:TypeId):∀(vs:List Value) (o:Nat) (W:World) (pre post:List Value),pre.length=o→vs.length=post.length →
    W.heap[b]?=some (.cells (pre++post).toArray t (0,0))→(W.setCells b o vs).heap[b]?=some (.cells (pre++vs).toArray t (0,0))
  | [],o,W,pre,post,_,hl,h=>by
    have:post=[]:=List.eq_nil_of_length_eq_zero (by simpa using hl.symm)
    subst this
    exact h
  | v :: r,o,W,pre,[],_,hl,_=>by simp at hl
  | v :: r,o,W,pre,p :: post,ho,hl,h=>by
    rw [World.setCells]
    have h1:(W.setCell ⟨b,o,none⟩ v).heap[b]?=some (.cells ((pre++[v])++post).toArray t (0,0)):=by
      rw [heap_setCell_same W b o _ t v h]
      subst ho
      simp
    have:=heap_setCells_at b t r (o+1) _ (pre++[v]) post (by simp [ho]) (by simpa using hl) h1
    simpa using this
theorem row_stored {W:World} {b:Nat} {C:Array Value} {t:TypeId} (h:W.heap[b]?=some (.cells C t (0,0))) (D:Array Value) (hd:D.size=C.size) :
    (W.setCells b 0 D.toList).heap[b]?=some (.cells D t (0,0)):=by
  have:=heap_setCells_at b t D.toList 0 W [] C.toList rfl (by simpa using hd) (by simpa using h)
  simpa using this
end Go.Proofs.YtggnfejjcgbebaaGreatDoor
/- What sha.mix makes of eight words and a schedule. -/
namespace Go.Proofs.YtggnfejjcgbebaaGreatDoor
open Go.RowKit
attribute [local go_sem ↓] Go.wp_at_zero Go.wp_at_succ
def MI (w wr:World) (s v:List Nat) (C:Array Value):Prop :=
  wr.heap[w.heap.size]?=some (.cells (Sh.arr s) 100 (0,0))∧wr.heap[w.heap.size+1]?=some (.cells C 163 (0,0))∧wr.heap[w.heap.size+1+1]?=some (.cells (Sh.arr (List.replicate 8 0)) 100 (0,0)) ∧
    wr.heap[w.heap.size+1+1+1]?=some (.cells (Sh.arr v) 100 (0,0))∧wr.heap.size=w.heap.size+4∧Below w.heap.size w wr
theorem below_drewN' {B n:Nat} {a w:World} (h:Below B a w):Below B a (w.drewN n):=⟨h.os,h.tape,h.output,h.size,h.block⟩
theorem MI.drewN {w wr:World} {s v:List Nat} {C:Array Value} (h:MI w wr s v C) (n:Nat):MI w (wr.drewN n) s v C:=⟨h.1,h.2.1,h.2.2.1,h.2.2.2.1,h.2.2.2.2.1,below_drewN' h.2.2.2.2.2⟩
theorem MI.drew {w wr:World} {s v:List Nat} {C:Array Value} (h:MI w wr s v C):MI w wr.drew s v C:=⟨h.1,h.2.1,h.2.2.1,h.2.2.2.1,h.2.2.2.2.1,h.2.2.2.2.2.drew⟩
theorem MI.put {w wr:World} {s v:List Nat} {C:Array Value} (h:MI w wr s v C) (i x:Nat):MI w (wr.setCell ⟨w.heap.size+1+1+1,i,none⟩ (.int .u32 (x:Int))) s (v.set i x) C:=by
  obtain ⟨h1,h2,h3,h4,h5,h6⟩:=h
  refine ⟨?_,?_,?_,row_put h4 i x,by simpa using h5,h6.setCell (p:=⟨w.heap.size+1+1+1,i,none⟩) (by show _≤_+1+1+1;omega) _⟩
  · rw [heap_setCell_other _ _ _ _ (by show _≠_+1+1+1;omega)];exact h1
  · rw [heap_setCell_other _ _ _ _ (by show _≠_+1+1+1;omega)];exact h2
  · rw [heap_setCell_other _ _ _ _ (by show _≠_+1+1+1;omega)];exact h3
theorem MI.add {w wr:World} {s v:List Nat} {C:Array Value} (h:MI w wr s v C) (i x:Nat):MI w (wr.setCell ⟨w.heap.size,i,none⟩ (.int .u32 (x:Int))) (s.set i x) v C:=by
  obtain ⟨h1,h2,h3,h4,h5,h6⟩:=h
  refine ⟨row_put h1 i x,?_,?_,?_,by simpa using h5,h6.setCell (p:=⟨w.heap.size,i,none⟩) (by simp) _⟩
  · rw [heap_setCell_other _ _ _ _ (by show w.heap.size+1≠w.heap.size;omega)];exact h2
  · rw [heap_setCell_other _ _ _ _ (by show w.heap.size+1+1≠w.heap.size;omega)];exact h3
  · rw [heap_setCell_other _ _ _ _ (by show w.heap.size+1+1+1≠w.heap.size;omega)];exact h4
theorem MI.row {w wr:World} {s v:List Nat} {C:Array Value} (h:MI w wr s v C) (D:List Nat):MI w (wr.setRow (w.heap.size+1+1+1) (Sh.arr D)) s D C:=by
  obtain ⟨h1,h2,h3,h4,h5,h6⟩:=h
  refine ⟨?_,?_,?_,setRow_heap _ _ _ _ 100 (0,0) h4,by simpa using h5,below_setRow h6 (by omega) _⟩
  · rw [setRow_other _ _ _ _ (by omega)];exact h1
  · rw [setRow_other _ _ _ _ (by omega)];exact h2
  · rw [setRow_other _ _ _ _ (by omega)];exact h3
theorem info26:(Tryz.prog.info? 100).map (·.size)=some 8:=by kernel_rfl
theorem info25:(Tryz.prog.info? 99).map (·.size)=some 1:=by kernel_rfl
theorem copy_moves {w wr:World} {s:List Nat} {v:Sh.S8} {C:Array Value} (h:MI w wr s v.list C) (n:Nat) :
    (Builtin.copy_ #[183,183] 3 #[.slice (some ⟨w.heap.size+1+1+1,1,none⟩) 7 7,.slice (some ⟨w.heap.size+1+1+1,0,none⟩) 7 8]).run Tryz.prog (wr.drewN n) =
      .ok (.int .i64 7) ((wr.setRow (w.heap.size+1+1+1) (Sh.arr [v.a,v.a,v.b,v.c,v.d,v.e,v.f,v.g])).drewN n):=by
  have hv:=h.2.2.2.1
  have:=run_copy_row (P:=Tryz.prog) (wr.drewN n) 183 183 3 99 (w.heap.size+1+1+1) 1 7 7 ⟨w.heap.size+1+1+1,0,none⟩ 7 8 (Sh.arr v.list) 100 (Sh.arr [v.a,v.b,v.c,v.d,v.e,v.f,v.g]).toList
    Tryz.underlying183 info25 hv rfl (fun j x hx=>?_) (by simp [Sh.arr,Sh.S8.list]) (fun x hx=>?_)
  · rw [this]
    rfl
  · have e:(⟨w.heap.size+1+1+1,0,none⟩:Addr).add j=⟨w.heap.size+1+1+1,j,none⟩:=by rw [Addr.add_mid];simp
    rw [e,cell_of_row (wr.drewN n) _ j _ 100 (0,0) hv]
    have hj:j<7:=by
      have:=(List.getElem?_eq_some_iff.1 hx).1
      simpa [Sh.arr] using this
    match j,hj with
    | 0,_=>exact hx
    | 1,_=>exact hx
    | 2,_=>exact hx
    | 3,_=>exact hx
    | 4,_=>exact hx
    | 5,_=>exact hx
    | 6,_=>exact hx
  · simp [Sh.arr] at hx
    rcases hx with rfl | rfl | rfl | rfl | rfl | rfl | rfl<;>rfl
def HasK (w:World):Prop:=2<w.heap.size∧∀i,i<64→w.cell? ⟨2,i,none⟩=some (.int .u32 ((Sh.K.getD i 0:Nat):Int))
theorem HasK.below {w w':World} (h:HasK w) {B:Nat} (hB:2<B) (hb:Below B w w'):HasK w' :=
  ⟨Nat.lt_of_lt_of_le h.1 hb.size,fun i hi=>(hb.cell (p:=⟨2,i,none⟩) hB).trans (h.2 i hi)⟩
theorem mix_start (w:World) (s:List Nat) (C:Array Value) :
    MI w ((((w.alloc (.cells (Sh.arr s) 100)).alloc (.cells C 163)).alloc (.cells (Sh.arr (List.replicate 8 0)) 100)).alloc (.cells (Sh.arr s) 100)) s s C:=by
  refine ⟨?_,?_,?_,?_,by simp,((((Below.refl _ w).alloc (Nat.le_refl _) _).alloc (by simp) _).alloc (by simp;omega) _).alloc (by simp;omega) _⟩
  · rw [Below.heap_alloc _ _ _ (by simp;omega),Below.heap_alloc _ _ _ (by simp;omega),Below.heap_alloc _ _ _ (by simp)];exact heap_alloc_new w _
  · rw [Below.heap_alloc _ _ _ (by simp),Below.heap_alloc _ _ _ (by simp)];simpa using heap_alloc_new (w.alloc (.cells (Sh.arr s) 100)) (.cells C 163)
  · rw [Below.heap_alloc _ _ _ (by simp)];simpa using heap_alloc_new ((w.alloc (.cells (Sh.arr s) 100)).alloc (.cells C 163)) (.cells (Sh.arr (List.replicate 8 0)) 100)
  · simpa using heap_alloc_new (((w.alloc (.cells (Sh.arr s) 100)).alloc (.cells C 163)).alloc (.cells (Sh.arr (List.replicate 8 0)) 100)) (.cells (Sh.arr s) 100)
theorem MI.step {w w2:World} {s:List Nat} {v:Sh.S8} {C:Array Value} (h:MI w w2 s [v.a,v.a,v.b,v.c,v.d,v.e,v.f,v.g] C) (n k x:Nat) :
    MI w (((w2.drewN n).setCell ⟨w.heap.size+1+1+1,0,none⟩ (.int .u32 (((Sh.tOf v.e v.f v.g v.h k x+Sh.uOf v.a v.b v.c) % 4294967296:Nat):Int))).setCell ⟨w.heap.size+1+1+1,4,none⟩ (.int .u32 (((v.d+Sh.tOf v.e v.f v.g v.h k x) % 4294967296:Nat):Int))) s (Sh.step v k x).list C :=
  ((h.drewN n).put 0 _).put 4 _
set_option maxHeartbeats 2000000 in
set_option maxRecDepth 10000 in
theorem mix27 (s:Sh.S8) (hs:s.ok) (l:List Nat) (hl:l.length=64) (hlt:∀x∈l,x<4294967296) (w:World) (hK:HasK w) :
    Calls Tryz.prog 121 #[.agg (Sh.arr s.list),.agg (Sh.arr l)] w fun e w'=>e=.returned (.agg (Sh.arr (Sh.mixed s l).list))∧Below w.heap.size w w':=by
  obtain ⟨C,hC⟩:∃C,C=Sh.arr l:=⟨_,rfl⟩
  rw [←hC]
  have hCs:C.size=64:=by rw [hC,Sh.arr_size,hl]
  show Calls Tryz.prog 121 #[.agg #[.int .u32 s.a,.int .u32 s.b,.int .u32 s.c,.int .u32 s.d,.int .u32 s.e,.int .u32 s.f,.int .u32 s.g,.int .u32 s.h],.agg C] w _
  have HK:Hid (HasK w):=hK
  have hlt0:Hid (∀x∈l,x<4294967296):=hlt
  have hs0:Hid s.ok:=hs
  have HC:Hid (C=Sh.arr l):=hC
  have hB:2<w.heap.size:=hK.1
  clear hK hlt hs hC
  go_enter Tryz.func121,Tryz.ntmps121
  go_wp2
  go_loopw [17] (fun i wr=>∃k:Nat,k≤64∧i=.int .i64 k∧MI w wr s.list (Sh.rounds s l k).list C) (fun i _=>64 - (intOf i).toNat)
  case atStart=>exact ⟨0,by omega,rfl,mix_start w s.list C⟩
  case round =>
    obtain ⟨k,hk,rfl,hI⟩:=hrel
    by_cases hlt:k<64
    · obtain ⟨v,hvv⟩:∃v,v=Sh.rounds s l k:=⟨_,rfl⟩
      rw [←hvv] at hI
      have hv:=hI.2.2.2.1
      have hvo:v.ok:=by rw [hvv];exact Sh.rounds_ok l hs0.out k
      obtain ⟨wk,hwk,ewk⟩:∃x:Nat,wr.cell? ⟨w.heap.size+1,k,none⟩=some (.int .u32 x)∧x=l.getD k 0:=⟨_,row_cell (L:=l) (by rw [←HC.out];exact hI.2.1) k (by omega),rfl⟩
      obtain ⟨kk,hkk,ekk⟩:∃x:Nat,wr.cell? ⟨2,k,none⟩=some (.int .u32 x)∧x=Sh.K.getD k 0:=⟨_,(HK.out.below hB hI.2.2.2.2.2).2 k hlt,rfl⟩
      have hnext:Hid (Sh.step v kk wk=Sh.rounds s l (k+1)):=by
        show _=_
        rw [ewk,ekk,hvv]
        rfl
      have HVO:Hid v.ok:=hvo
      have lk:(k:Int)<64:=by omega
      have le:v.e<4294967296:=hvo.2.2.2.2.1
      have la:v.a<4294967296:=hvo.1
      have c0:wr.cell? ⟨w.heap.size+1+1+1,0,none⟩=some (.int .u32 (v.a:Int)):=row_cell hv 0 (show 0<8 by decide)
      have c1:wr.cell? ⟨w.heap.size+1+1+1,1,none⟩=some (.int .u32 (v.b:Int)):=row_cell hv 1 (show 1<8 by decide)
      have c2:wr.cell? ⟨w.heap.size+1+1+1,2,none⟩=some (.int .u32 (v.c:Int)):=row_cell hv 2 (show 2<8 by decide)
      have c4:wr.cell? ⟨w.heap.size+1+1+1,4,none⟩=some (.int .u32 (v.e:Int)):=row_cell hv 4 (show 4<8 by decide)
      have c5:wr.cell? ⟨w.heap.size+1+1+1,5,none⟩=some (.int .u32 (v.f:Int)):=row_cell hv 5 (show 5<8 by decide)
      have c6:wr.cell? ⟨w.heap.size+1+1+1,6,none⟩=some (.int .u32 (v.g:Int)):=row_cell hv 6 (show 6<8 by decide)
      have c7:wr.cell? ⟨w.heap.size+1+1+1,7,none⟩=some (.int .u32 (v.h:Int)):=row_cell hv 7 (show 7<8 by decide)
      obtain ⟨w2,hcp,hI2⟩:∃w2,(∀n,(Builtin.copy_ #[183,183] 3 #[.slice (some ⟨w.heap.size+1+1+1,1,none⟩) 7 7,.slice (some ⟨w.heap.size+1+1+1,0,none⟩) 7 8]).run Tryz.prog (wr.drewN n)=.ok (.int .i64 7) (w2.drewN n))∧MI w w2 s.list [v.a,v.a,v.b,v.c,v.d,v.e,v.f,v.g] C:=⟨_,copy_moves hI,hI.row _⟩
      have hv2:=hI2.2.2.2.1
      have d0:w2.cell? ⟨w.heap.size+1+1+1,0,none⟩=some (.int .u32 (v.a:Int)):=row_cell hv2 0 (show 0<8 by decide)
      have d4:w2.cell? ⟨w.heap.size+1+1+1,4,none⟩=some (.int .u32 (v.d:Int)):=row_cell hv2 4 (show 4<8 by decide)
      have fz:∀j,w2.frozen? ⟨w.heap.size+1+1+1,j,none⟩=false:=row_free hv2
      have HI2:Hid (MI w w2 _ _ _):=hI2
      clear hI hv hI2 hv2 hvv hCs hvo ewk ekk
      go_wp2
      go_quiet (fail)
      go_wp2
      go_region_held3 (fun w'=>w'.cell? ⟨w.heap.size+1+1+1,7,none⟩=some (.int .u32 (v.h:Int))∧w'.cell? ⟨2,k,none⟩=some (.int .u32 kk)∧w'.cell? ⟨w.heap.size+1,k,none⟩=some (.int .u32 wk)) (go_keep) (first | (go_at_call 149;refine (rot31 _ _ _ (by assumption) (by decide) (by decide)).mono ?_;rintro e w' ⟨rfl,rfl⟩))
      go_wp2_with (go_at_call 149;refine (rot31 _ _ _ (by assumption) (by decide) (by decide)).mono ?_;rintro e w' ⟨rfl,rfl⟩)
      go_region
      go_wp2
      go_roundw
      case rel =>
        rw [Sh.first_eq v kk wk HVO.out,Sh.fifth_eq v kk wk HVO.out]
        have R:=HI2.out.step (nq+1+1) kk wk
        rw [hnext.out] at R
        first | exact ⟨k+1,by omega,by go_num,R⟩ | ((repeat apply Exists.intro);exact ⟨⟨k+1,by omega,by go_num,R⟩,rfl⟩)
      case measure=>simp [intOf];omega
    · have hk64:k=64:=by omega
      subst hk64
      clear hk hlt
      obtain ⟨v,hvv⟩:∃v,v=Sh.rounds s l 64:=⟨_,rfl⟩
      rw [←hvv] at hI
      have HV:Hid (v=_):=hvv
      have HI:Hid (MI w wr _ _ _):=hI
      clear hvv hI
      go_wp2
      go_loopw [93] (fun i wx=>∃k:Nat,k≤8∧i=.int .i64 k∧MI w wx (Sh.addTo s.list v.list k) v.list C) (fun i _=>8 - (intOf i).toNat)
      case atStart=>exact ⟨0,by omega,rfl,HI.out⟩
      case round =>
        clear HI
        obtain ⟨m,hm,rfl,hI⟩:=hrel
        have hal:=Sh.addTo_length s.list v.list m
        have hsl:s.list.length=8:=rfl
        have hvl:v.list.length=8:=rfl
        by_cases hlt:m<8
        · obtain ⟨p,hp,ep⟩:∃p:Nat,wr.cell? ⟨w.heap.size,m,none⟩=some (.int .u32 p)∧p=(Sh.addTo s.list v.list m).getD m 0:=⟨_,row_cell hI.1 m (by omega),rfl⟩
          obtain ⟨q,hq,eq⟩:∃p:Nat,wr.cell? ⟨w.heap.size+1+1+1,m,none⟩=some (.int .u32 p)∧p=v.list.getD m 0:=⟨_,row_cell hI.2.2.2.1 m (by omega),rfl⟩
          have fz:wr.frozen? ⟨w.heap.size,m,none⟩=false:=row_free hI.1 m
          have R:Hid (MI w (wr.setCell ⟨w.heap.size,m,none⟩ (.int .u32 (((p+q) % 4294967296:Nat):Int))).drew (Sh.addTo s.list v.list (m+1)) v.list C):=by
            show MI _ _ _ _ _
            have:=(hI.add m ((p+q) % 4294967296)).drew
            rw [ep,eq] at this ⊢
            exact this
          have lm:(m:Int)<8:=by omega
          clear hI hal hsl hvl ep eq
          go_wp2
          go_region
          all_goals go_wp2
          go_roundw
          case rel =>
            rw [show ((p:Int)+(q:Int)) % 4294967296=(((p+q) % 4294967296:Nat):Int) by omega]
            first | exact ⟨m+1,by omega,by go_num,R.out⟩ | ((repeat apply Exists.intro);exact ⟨⟨m+1,by omega,by go_num,R.out⟩,rfl⟩)
          case measure=>simp [intOf];omega
        · have hm8:m=8:=by omega
          subst hm8
          rw [Sh.addTo_8] at hI
          obtain ⟨D,hD⟩:∃D,D=Sh.arr (Sh.plus s v).list:=⟨_,rfl⟩
          have hl8:D.size=8:=by rw [hD];rfl
          have h1:D.all (·.oneCell')=true:=by rw [hD];exact arr_one _
          obtain ⟨hb,_,hz,_,_,hnx⟩:=hI
          rw [←hD] at hb
          have ht:wr.there (w.heap.size+1+1) 0 D.size:=row_there hz (by rw [hl8];simp [Sh.arr])
          have hst:=row_stored hz D (by rw [hl8];simp [Sh.arr])
          have hbl:=below_setCells (b:=w.heap.size+1+1) (by omega) D.toList 0 hnx
          have HD:Hid (D=_):=hD
          clear hD hm hlt hnx hal hsl hvl
          go_wp2_with (first | (refine wpList_load_row rfl 100 _ rfl w.heap.size rfl 100 D (0,0) _ hb Tryz.underlying100 rfl (by rw [hl8];exact info26) ?_) | (refine wpList_store_mid rfl 100 _ _ rfl (w.heap.size+1+1) 0 D rfl rfl ht (by rw [hl8];exact info26) h1 ?_))
          refine bodyPost_ret (v:=.agg D) (results_cell_row rfl _ _ (w.heap.size+1+1) 100 D (0,0) _ rfl hst Tryz.underlying100 rfl (by rw [hl8];exact info26)) rfl ⟨by rw [HD.out,HV.out];rfl,hbl⟩
end Go.Proofs.YtggnfejjcgbebaaGreatDoor
/- What sha.spread makes of a block of 64 bytes: the 64 words of the schedule, in memory of its own. -/
namespace Go.Proofs.YtggnfejjcgbebaaGreatDoor
open Go.RowKit
attribute [local go_sem ↓] Go.wp_at_zero Go.wp_at_succ
theorem index_byte (b:ByteArray) (i:Int) (h0:0≤i) (h1:i<b.size) (wx:World) :
    (Instr.index 9 (.string b) (.int .i64 i)).run Tryz.prog wx=.ok (.int .u8 (((b.data.toList.getD i.toNat 0).toNat:Nat):Int)) wx:=by
  rw [run_index_string (P:=Tryz.prog) wx 9 b .i64 i Tryz.underlying9,dif_pos ⟨h0,h1⟩]
  have h2:i.toNat<b.size:=by omega
  have h3:i.toNat<b.data.toList.length:=by rw [←Lib.size_eq];exact h2
  have e:b[i.toNat]=b.data.toList.getD i.toNat 0:=by
    rw [List.getD_eq_getElem?_getD,List.getElem?_eq_getElem h3]
    rfl
  rw [e]
theorem slice_str (s:ByteArray) (i j:Int) (h0:0≤i) (h1:i≤j) (h2:j≤s.size) (wx:World) :
    (Instr.slice 9 (.string s) (some (.int .i64 i)) (some (.int .i64 j)) none).run Tryz.prog wx=.ok (.string (s.extract i.toNat j.toNat)) wx:=by
  rw [run_slice_string_if (P:=Tryz.prog) wx 9 s .i64 .i64 i j Tryz.underlying9,if_pos ⟨by omega,h2⟩,if_pos ⟨h0,h1⟩]
theorem piece_byte (s:ByteArray) (a n j:Nat) (hj:j<n):(s.extract a (a+n)).data.toList.getD j 0=s.data.toList.getD (a+j) 0:=by
  rw [Lib.extract_data,List.getD_eq_getElem?_getD,List.getD_eq_getElem?_getD,show a+n - a=n by omega,List.getElem?_take_of_lt hj,List.getElem?_drop]
theorem piece_size (s:ByteArray) (a n:Nat) (h:a+n≤s.size):(s.extract a (a+n)).size=n:=by
  rw [Lib.size_eq,Lib.extract_data,List.length_take,List.length_drop,←Lib.size_eq]
  omega

theorem spread_step {w wr:World} {l:List UInt8} {k x:Nat} (hk:k<64) (hx:x=Sh.nextW l (Sh.ws l k))
    (hz:wr.heap[w.heap.size]?=some (.cells (Sh.arr (List.replicate 64 0)) 163 (0,0))) (hb:wr.heap[w.heap.size+1]?=some (.cells (Sh.arr (Sh.wz l k)) 163 (0,0)))
    (hsz:wr.heap.size=w.heap.size+2) (hnx:Below w.heap.size w wr) :
    (wr.setCell ⟨w.heap.size+1,k,none⟩ (.int .u32 (x:Int))).heap[w.heap.size]?=some (.cells (Sh.arr (List.replicate 64 0)) 163 (0,0)) ∧
    (wr.setCell ⟨w.heap.size+1,k,none⟩ (.int .u32 (x:Int))).heap[w.heap.size+1]?=some (.cells (Sh.arr (Sh.wz l (k+1))) 163 (0,0)) ∧
    (wr.setCell ⟨w.heap.size+1,k,none⟩ (.int .u32 (x:Int))).heap.size=w.heap.size+2∧Below w.heap.size w (wr.setCell ⟨w.heap.size+1,k,none⟩ (.int .u32 (x:Int))):=by
  refine ⟨?_,?_,by simpa using hsz,hnx.setCell (p:=⟨w.heap.size+1,k,none⟩) (by simp) _⟩
  · rw [heap_setCell_other _ _ _ _ (by simp)];exact hz
  · rw [row_put hb,hx,Sh.wz_set l k hk]

theorem spread_start (w:World) (l:List UInt8) :
    let W:=(w.alloc (.cells (Sh.arr (List.replicate 64 0)) 163)).alloc (.cells (Sh.arr (List.replicate 64 0)) 163)
    W.heap[w.heap.size]?=some (.cells (Sh.arr (List.replicate 64 0)) 163 (0,0))∧W.heap[w.heap.size+1]?=some (.cells (Sh.arr (Sh.wz l 0)) 163 (0,0))∧W.heap.size=w.heap.size+2∧Below w.heap.size w W:=by
  refine ⟨?_,?_,by simp,((Below.refl _ w).alloc (Nat.le_refl _) _).alloc (by simp) _⟩
  · rw [Below.heap_alloc _ _ _ (by simp)];exact heap_alloc_new w _
  · rw [Sh.wz_0]
    have:=heap_alloc_new (w.alloc (.cells (Sh.arr (List.replicate 64 0)) 163)) (.cells (Sh.arr (List.replicate 64 0)) 163)
    simpa using this
theorem info50:(Tryz.prog.info? 163).map (·.size)=some 64:=by kernel_rfl

set_option maxHeartbeats 2000000 in
set_option maxRecDepth 10000 in
theorem spread28 (s:ByteArray) (w:World) (hs:s.size=64) :
    Calls Tryz.prog 122 #[.string s] w fun e w'=>e=.returned (.agg (Sh.arr (Sh.ws s.data.toList 64)))∧Below w.heap.size w w':=by
  go_enter Tryz.func122,Tryz.ntmps122
  go_wp2
  go_loopw [9] (fun i wr=>∃k:Nat,k≤16∧i=.int .i64 k∧wr.heap[w.heap.size]?=some (.cells (Sh.arr (List.replicate 64 0)) 163 (0,0))∧wr.heap[w.heap.size+1]?=some (.cells (Sh.arr (Sh.wz s.data.toList k)) 163 (0,0))∧wr.heap.size=w.heap.size+2∧Below w.heap.size w wr) (fun i _=>16 - (intOf i).toNat)
  case atStart =>
    have:=spread_start w s.data.toList
    exact ⟨0,by omega,rfl,this⟩
  case round =>
    obtain ⟨k,hk,rfl,hz,hb,hsz,hnx⟩:=hrel
    by_cases hlt:k<16
    · have hf:wr.frozen? ⟨w.heap.size+1,k,none⟩=false:=row_free hb k
      have hc:=row_cell hb k (by rw [Sh.wz_length _ _ (by omega)];omega)
      have ST:=fun x hx=>spread_step (x:=x) (k:=k) (by omega) hx hz hb hsz hnx
      have HST:Hid (∀x,_→_):=ST
      clear hz hb hsz hnx ST
      obtain ⟨b,hb⟩:∃b,b=s.extract (4*k) (4*k+4):=⟨_,rfl⟩
      have hbs:b.size=4:=by rw [hb];exact piece_size s (4*k) 4 (by omega)
      have hsl:∀wx,(Instr.slice 9 (.string s) (some (.int .i64 (4*(k:Int)))) (some (.int .i64 (4*(k:Int)+4))) none).run Tryz.prog wx=.ok (.string b) wx:=fun wx=>by
        rw [slice_str s _ _ (by omega) (by omega) (by omega),hb,show (4*(k:Int)).toNat=4*k by omega,show (4*(k:Int)+4).toNat=4*k+4 by omega]
      obtain ⟨b0,h0,i0,q0⟩:∃b0:Nat,b0<256∧(∀wx,(Instr.index 9 (.string b) (.int .i64 0)).run Tryz.prog wx=.ok (.int .u8 b0) wx)∧b0=(s.data.toList.getD (4*k) 0).toNat :=
        ⟨_,UInt8.toNat_lt _,fun wx=>index_byte b 0 (by omega) (by omega) wx,by rw [hb];exact congrArg _ (piece_byte s (4*k) 4 0 (by omega))⟩
      obtain ⟨b1,h1,i1,q1⟩:∃b0:Nat,b0<256∧(∀wx,(Instr.index 9 (.string b) (.int .i64 1)).run Tryz.prog wx=.ok (.int .u8 b0) wx)∧b0=(s.data.toList.getD (4*k+1) 0).toNat :=
        ⟨_,UInt8.toNat_lt _,fun wx=>index_byte b 1 (by omega) (by omega) wx,by rw [hb];exact congrArg _ (piece_byte s (4*k) 4 1 (by omega))⟩
      obtain ⟨b2,h2,i2,q2⟩:∃b0:Nat,b0<256∧(∀wx,(Instr.index 9 (.string b) (.int .i64 2)).run Tryz.prog wx=.ok (.int .u8 b0) wx)∧b0=(s.data.toList.getD (4*k+2) 0).toNat :=
        ⟨_,UInt8.toNat_lt _,fun wx=>index_byte b 2 (by omega) (by omega) wx,by rw [hb];exact congrArg _ (piece_byte s (4*k) 4 2 (by omega))⟩
      obtain ⟨b3,h3,i3,q3⟩:∃b0:Nat,b0<256∧(∀wx,(Instr.index 9 (.string b) (.int .i64 3)).run Tryz.prog wx=.ok (.int .u8 b0) wx)∧b0=(s.data.toList.getD (4*k+3) 0).toNat :=
        ⟨_,UInt8.toNat_lt _,fun wx=>index_byte b 3 (by omega) (by omega) wx,by rw [hb];exact congrArg _ (piece_byte s (4*k) 4 3 (by omega))⟩
      have hx:Hid ((((b0*256+b1)*256+b2)*256+b3)=Sh.nextW s.data.toList (Sh.ws s.data.toList k)):=by
        show _=_
        unfold Sh.nextW
        rw [Sh.ws_length,if_pos hlt,q0,q1,q2,q3]
        rfl
      clear hb q0 q1 q2 q3 hbs
      have r0:(0:Int)≤(k:Int):=by omega
      have r1:(k:Int)<64:=by omega
      go_wp2
      go_region
      all_goals go_wp2
      go_roundw
      case rel =>
        rw [Sh.or4 b0 b1 b2 b3 h0 h1 h2 h3]
        obtain ⟨g1,g2,g3,g4⟩:=HST.out _ hx.out
        exact ⟨k+1,by omega,by go_num,g1,g2,g3,g4.drew⟩
      case measure=>simp [intOf];omega
    · have hk16:k=16:=by omega
      subst hk16
      clear hk hlt
      go_wp2
      go_loopw [6] (fun i wx=>∃k:Nat,16≤k∧k≤64∧i=.int .i64 k∧wx.heap[w.heap.size]?=some (.cells (Sh.arr (List.replicate 64 0)) 163 (0,0))∧wx.heap[w.heap.size+1]?=some (.cells (Sh.arr (Sh.wz s.data.toList k)) 163 (0,0))∧wx.heap.size=w.heap.size+2∧Below w.heap.size w wx) (fun i _=>64 - (intOf i).toNat)
      case atStart=>exact ⟨16,by omega,by omega,rfl,hz,hb,hsz,hnx⟩
      case round =>
        clear hz hb hsz hnx
        obtain ⟨m,hm0,hm,rfl,hz,hb,hsz,hnx⟩:=hrel
        by_cases hlt:m<64
        · have hlen:=Sh.wz_length s.data.toList m hm
          obtain ⟨p2,l2,c2,q2⟩:∃p:Nat,p<4294967296∧wr.cell? ⟨w.heap.size+1,m - 2,none⟩=some (.int .u32 p)∧p=(Sh.ws s.data.toList m).getD (m - 2) 0:=⟨_,Sh.wz_lt _ m (m - 2),row_cell hb (m - 2) (by omega),Sh.wz_getD _ _ _ (by omega)⟩
          obtain ⟨p15,l15,c15,q15⟩:∃p:Nat,p<4294967296∧wr.cell? ⟨w.heap.size+1,m - 15,none⟩=some (.int .u32 p)∧p=(Sh.ws s.data.toList m).getD (m - 15) 0:=⟨_,Sh.wz_lt _ m (m - 15),row_cell hb (m - 15) (by omega),Sh.wz_getD _ _ _ (by omega)⟩
          obtain ⟨p16,l16,c16,q16⟩:∃p:Nat,p<4294967296∧wr.cell? ⟨w.heap.size+1,m - 16,none⟩=some (.int .u32 p)∧p=(Sh.ws s.data.toList m).getD (m - 16) 0:=⟨_,Sh.wz_lt _ m (m - 16),row_cell hb (m - 16) (by omega),Sh.wz_getD _ _ _ (by omega)⟩
          obtain ⟨p7,l7,c7,q7⟩:∃p:Nat,p<4294967296∧wr.cell? ⟨w.heap.size+1,m - 7,none⟩=some (.int .u32 p)∧p=(Sh.ws s.data.toList m).getD (m - 7) 0:=⟨_,Sh.wz_lt _ m (m - 7),row_cell hb (m - 7) (by omega),Sh.wz_getD _ _ _ (by omega)⟩
          have c0:=row_cell hb m (by omega)
          have hf:wr.frozen? ⟨w.heap.size+1,m,none⟩=false:=row_free hb m
          have hx:Hid (Sh.grow p16 p15 p7 p2=Sh.nextW s.data.toList (Sh.ws s.data.toList m)):=by
            show _=_
            unfold Sh.nextW
            rw [Sh.ws_length,if_neg (by omega),q2,q15,q16,q7]
          have ST:=fun x hx=>spread_step (x:=x) (k:=m) (by omega) hx hz hb hsz hnx
          have HST:Hid (∀x,_→_):=ST
          clear hz hb hsz hnx ST q2 q15 q16 q7 hlen
          go_wp2
          go_region
          go_wp2
          obtain ⟨j16,e16,r16,b16⟩:∃j:Nat,IntKind.i64.wrap ((m:Int) - 16)=(j:Int)∧j=m - 16∧(j:Int)<64:=⟨m - 16,by rw [IntKind.wrap_i64];omega,rfl,by omega⟩
          obtain ⟨j7,e7,r7,b7⟩:∃j:Nat,IntKind.i64.wrap ((m:Int) - 7)=(j:Int)∧j=m - 7∧(j:Int)<64:=⟨m - 7,by rw [IntKind.wrap_i64];omega,rfl,by omega⟩
          rw [←r16] at c16
          rw [←r7] at c7
          have b0:(m:Int)<64:=by omega
          have n16:∀v,(wr.setCell ⟨w.heap.size+1,m,none⟩ v).cell? ⟨w.heap.size+1,j16,none⟩=some (.int .u32 p16):=fun v=>by rw [cell_other (by omega)];exact c16
          have n7:∀v,(wr.setCell ⟨w.heap.size+1,m,none⟩ v).cell? ⟨w.heap.size+1,j7,none⟩=some (.int .u32 p7):=fun v=>by rw [cell_other (by omega)];exact c7
          clear c2 c15 r16 r7
          go_region_held3 (fun w'=>w'.cell? ⟨w.heap.size+1,j16,none⟩=some (.int .u32 p16)∧w'.cell? ⟨w.heap.size+1,j7,none⟩=some (.int .u32 p7)) (go_keep) (first | (go_at_call 149;refine (rot31 _ _ _ (by assumption) (by decide) (by decide)).mono ?_;rintro e w' ⟨rfl,rfl⟩))
          all_goals go_wp2
          go_roundw
          case rel =>
            rw [Sh.grow_eq p16 p15 p7 p2 l15 l2]
            obtain ⟨g1,g2,g3,g4⟩:=HST.out _ hx.out
            first | exact ⟨m+1,by omega,by omega,by go_num,g1,g2,g3,g4.drew.drew⟩ | ((repeat apply Exists.intro);exact ⟨⟨m+1,by omega,by omega,by go_num,g1,g2,g3,g4.drew.drew⟩,rfl⟩)
          case measure=>simp [intOf];omega
        · have hm64:m=64:=by omega
          subst hm64
          rw [Sh.wz_64] at hb
          have hl:(Sh.arr (Sh.ws s.data.toList 64)).size=64:=by rw [Sh.arr_size,Sh.ws_length]
          obtain ⟨C,hC⟩:∃C,C=Sh.arr (Sh.ws s.data.toList 64):=⟨_,rfl⟩
          have h1:C.all (·.oneCell')=true:=by rw [hC];exact arr_one _
          rw [←hC] at hb hl
          have ht:wr.there w.heap.size 0 C.size:=row_there hz (by rw [hl];simp [Sh.arr])
          have hst:=row_stored hz C (by rw [hl];simp [Sh.arr])
          have hbl:=below_setCells (Nat.le_refl w.heap.size) C.toList 0 hnx
          have HC:Hid (C=_):=hC
          clear hC hm0 hm hlt hsz hnx
          go_wp2_with (first | (refine wpList_load_row rfl 163 _ rfl (w.heap.size+1) rfl 163 C (0,0) _ hb Tryz.underlying163 rfl (by rw [hl];exact info50) ?_) | (refine wpList_store_mid rfl 163 _ _ rfl w.heap.size 0 C rfl rfl ht (by rw [hl];exact info50) h1 ?_))
          refine bodyPost_ret (v:=.agg C) (results_cell_row rfl _ _ w.heap.size 163 C (0,0) _ rfl hst Tryz.underlying163 rfl (by rw [hl];exact info50)) rfl ⟨by rw [HC.out],hbl⟩
end Go.Proofs.YtggnfejjcgbebaaGreatDoor
/- What sha.change makes of eight words and a text: the words behind all of its whole blocks. -/
namespace Go.Proofs.YtggnfejjcgbebaaGreatDoor
open Go.RowKit
attribute [local go_sem ↓] Go.wp_at_zero Go.wp_at_succ
def CI (w wr:World) (v:List Nat):Prop :=
  wr.heap[w.heap.size]?=some (.cells (Sh.arr v) 100 (0,0))∧wr.heap[w.heap.size+1]?=some (.cells (Sh.arr (List.replicate 8 0)) 100 (0,0))∧w.heap.size+2≤wr.heap.size∧Below w.heap.size w wr
theorem CI.put {w wr:World} {v:List Nat} (h:CI w wr v) (i x:Nat):CI w (wr.setCell ⟨w.heap.size,i,none⟩ (.int .u32 (x:Int))) (v.set i x):=by
  obtain ⟨h1,h2,h3,h4⟩:=h
  refine ⟨row_put h1 i x,?_,by simpa using h3,h4.setCell (p:=⟨w.heap.size,i,none⟩) (by simp) _⟩
  rw [heap_setCell_other _ _ _ _ (by show w.heap.size+1≠w.heap.size;omega)];exact h2
theorem CI.drew {w wr:World} {v:List Nat} (h:CI w wr v):CI w wr.drew v:=⟨h.1,h.2.1,h.2.2.1,h.2.2.2.drew⟩
theorem CI.call {w wr w1:World} {v:List Nat} (h:CI w wr v) (hb:Below wr.heap.size wr w1):CI w w1 v:=by
  obtain ⟨h1,h2,h3,h4⟩:=h
  exact ⟨(hb.block _ (by omega)).trans h1,(hb.block _ (by omega)).trans h2,Nat.le_trans h3 hb.size,h4.trans (hb.mono (by omega))⟩
theorem CI.cells {w wr:World} {v:Sh.S8} (h:CI w wr v.list) :
    wr.cell? ⟨w.heap.size,0,none⟩=some (.int .u32 (v.a:Int))∧wr.cell? ⟨w.heap.size,1,none⟩=some (.int .u32 (v.b:Int))∧wr.cell? ⟨w.heap.size,2,none⟩=some (.int .u32 (v.c:Int))∧wr.cell? ⟨w.heap.size,3,none⟩=some (.int .u32 (v.d:Int)) ∧
    wr.cell? ⟨w.heap.size,4,none⟩=some (.int .u32 (v.e:Int))∧wr.cell? ⟨w.heap.size,5,none⟩=some (.int .u32 (v.f:Int))∧wr.cell? ⟨w.heap.size,6,none⟩=some (.int .u32 (v.g:Int))∧wr.cell? ⟨w.heap.size,7,none⟩=some (.int .u32 (v.h:Int)) :=
  ⟨row_cell h.1 0 (show 0<8 by decide),row_cell h.1 1 (show 1<8 by decide),row_cell h.1 2 (show 2<8 by decide),row_cell h.1 3 (show 3<8 by decide),row_cell h.1 4 (show 4<8 by decide),row_cell h.1 5 (show 5<8 by decide),row_cell h.1 6 (show 6<8 by decide),row_cell h.1 7 (show 7<8 by decide)⟩
theorem CI.stored {w wr:World} {v:Sh.S8} (h:CI w wr v.list) (m:Sh.S8) :
    CI w ((((((((wr.setCell ⟨w.heap.size,0,none⟩ (.int .u32 (m.a:Int))).setCell ⟨w.heap.size,1,none⟩ (.int .u32 (m.b:Int))).setCell ⟨w.heap.size,2,none⟩ (.int .u32 (m.c:Int))).setCell ⟨w.heap.size,3,none⟩ (.int .u32 (m.d:Int))).setCell ⟨w.heap.size,4,none⟩ (.int .u32 (m.e:Int))).setCell ⟨w.heap.size,5,none⟩ (.int .u32 (m.f:Int))).setCell ⟨w.heap.size,6,none⟩ (.int .u32 (m.g:Int))).setCell ⟨w.heap.size,7,none⟩ (.int .u32 (m.h:Int))) m.list :=
  (((((((h.put 0 m.a).put 1 m.b).put 2 m.c).put 3 m.d).put 4 m.e).put 5 m.f).put 6 m.g).put 7 m.h
theorem change_start (w:World) (v:List Nat):CI w ((w.alloc (.cells (Sh.arr v) 100)).alloc (.cells (Sh.arr (List.replicate 8 0)) 100)) v:=by
  refine ⟨?_,?_,by simp,((Below.refl _ w).alloc (Nat.le_refl _) _).alloc (by simp) _⟩
  · rw [Below.heap_alloc _ _ _ (by simp)];exact heap_alloc_new w _
  · simpa using heap_alloc_new (w.alloc (.cells (Sh.arr v) 100)) (.cells (Sh.arr (List.replicate 8 0)) 100)
theorem mix27' (v m:Sh.S8) (hv:v.ok) (b:ByteArray) (hm:Hid (m=Sh.chg1 v b.data.toList)) (w:World) (hK:HasK w) :
    Calls Tryz.prog 121 #[.agg #[.int .u32 v.a,.int .u32 v.b,.int .u32 v.c,.int .u32 v.d,.int .u32 v.e,.int .u32 v.f,.int .u32 v.g,.int .u32 v.h],.agg (Sh.arr (Sh.ws b.data.toList 64))] w
      fun e w'=>e=.returned (.agg #[.int .u32 m.a,.int .u32 m.b,.int .u32 m.c,.int .u32 m.d,.int .u32 m.e,.int .u32 m.f,.int .u32 m.g,.int .u32 m.h])∧Below w.heap.size w w':=by
  have:=mix27 v hv (Sh.ws b.data.toList 64) (Sh.ws_length _ _) (Sh.ws_lt _ _) w hK
  rw [show Sh.mixed v (Sh.ws b.data.toList 64)=m from hm.out.symm] at this
  exact this
set_option maxHeartbeats 2000000 in
set_option maxRecDepth 10000 in
theorem change20 (s:Sh.S8) (hs:s.ok) (t:ByteArray) (ht:t.size≤1125899906842624) (w:World) (hK:HasK w) :
    Calls Tryz.prog 91 #[.agg (Sh.arr s.list),.string t] w fun e w'=>e=.returned (.agg (Sh.arr (Sh.chg s t.data.toList (t.size / 64)).list))∧Below w.heap.size w w':=by
  show Calls Tryz.prog 91 #[.agg #[.int .u32 s.a,.int .u32 s.b,.int .u32 s.c,.int .u32 s.d,.int .u32 s.e,.int .u32 s.f,.int .u32 s.g,.int .u32 s.h],.string t] w _
  have HK:Hid (HasK w):=hK
  have hs0:Hid s.ok:=hs
  have hB:2<w.heap.size:=hK.1
  clear hK hs
  go_enter Tryz.func91,Tryz.ntmps91
  go_wp2
  go_loopw [9] (fun i wr=>∃k:Nat,k≤t.size / 64∧i=.int .i64 k∧CI w wr (Sh.chg s t.data.toList k).list) (fun i _=>t.size / 64 - (intOf i).toNat)
  case atStart=>exact ⟨0,by omega,rfl,change_start w s.list⟩
  case round =>
    obtain ⟨k,hk,rfl,hI⟩:=hrel
    by_cases hlt:k<t.size / 64
    · obtain ⟨v,hvv⟩:∃v,v=Sh.chg s t.data.toList k:=⟨_,rfl⟩
      rw [←hvv] at hI
      have hvo:v.ok:=by rw [hvv];exact Sh.chg_ok hs0.out _ k
      obtain ⟨c0,c1,c2,c3,c4,c5,c6,c7⟩:=hI.cells
      obtain ⟨b,hb⟩:∃b,b=t.extract (64*k) (64*k+64):=⟨_,rfl⟩
      have hbs:b.size=64:=by rw [hb];exact piece_size t (64*k) 64 (by omega)
      have hbl:b.data.toList=Sh.blk t.data.toList k:=by rw [hb,Lib.extract_data,show 64*k+64 - 64*k=64 by omega];rfl
      have hsl:∀wx,(Instr.slice 9 (.string t) (some (.int .i64 (64*(k:Int)))) (some (.int .i64 (64*((k:Int)+1)))) none).run Tryz.prog wx=.ok (.string b) wx:=fun wx=>by
        rw [slice_str t _ _ (by omega) (by omega) (by omega),hb,show (64*(k:Int)).toNat=64*k by omega,show (64*((k:Int)+1)).toNat=64*k+64 by omega]
      obtain ⟨m,hm⟩:∃m,m=Sh.chg1 v b.data.toList:=⟨_,rfl⟩
      have hnext:Hid (m=Sh.chg s t.data.toList (k+1)):=by
        show _=_
        rw [hm,hvv,hbl]
        rfl
      have HM:Hid (m=_):=hm
      have HI:Hid (CI w wr v.list):=hI
      have HVO:Hid v.ok:=hvo
      have HBS:Hid (b.size=64):=hbs
      clear hm hI hvv hb hbl hbs hvo
      have e1:IntKind.i64.wrap (64*(k:Int))=64*(k:Int):=by rw [IntKind.wrap_i64];omega
      have e2:IntKind.i64.wrap ((k:Int)+1)=(k:Int)+1:=by rw [IntKind.wrap_i64];omega
      have e3:IntKind.i64.wrap (64*((k:Int)+1))=64*((k:Int)+1):=by rw [IntKind.wrap_i64];omega
      go_wp2
      go_region_with (first | (go_at_call 122;refine (spread28 b _ HBS.out).mono ?_;rintro e w1 ⟨rfl,hb1⟩;have hI1:Hid (CI w w1 v.list):=HI.out.drew.call (by exact hb1);obtain ⟨d0,d1,d2,d3,d4,d5,d6,d7⟩:=hI1.out.cells) | (go_at_call 121;refine (mix27' v m HVO.out b HM _ (HK.out.below hB hI1.out.2.2.2)).mono ?_;rintro e w2 ⟨rfl,hb2⟩;have hI2:Hid (CI w w2 v.list):=hI1.out.call (by exact hb2);obtain ⟨e0,e1,e2,e3,e4,e5,e6,e7⟩:=hI2.out.cells;have fz:∀j,w2.frozen? ⟨w.heap.size,j,none⟩=false:=row_free hI2.out.1))
      all_goals go_wp2
      all_goals
        go_roundw
        case rel =>
          have R:=hI2.out.stored m
          first | exact ⟨k+1,by omega,by go_num,by rw [←hnext.out];exact R⟩ | ((repeat apply Exists.intro);exact ⟨⟨k+1,by omega,by go_num,by rw [←hnext.out];exact R⟩,rfl⟩)
        case measure=>simp [intOf];omega
    · have hk64:k=t.size / 64:=by omega
      subst hk64
      obtain ⟨D,hD⟩:∃D,D=Sh.arr (Sh.chg s t.data.toList (t.size / 64)).list:=⟨_,rfl⟩
      have hl8:D.size=8:=by rw [hD];rfl
      have h1:D.all (·.oneCell')=true:=by rw [hD];exact arr_one _
      obtain ⟨hb,hz,_,hnx⟩:=hI
      rw [←hD] at hb
      have ht:wr.there (w.heap.size+1) 0 D.size:=row_there hz (by rw [hl8];simp [Sh.arr])
      have hst:=row_stored hz D (by rw [hl8];simp [Sh.arr])
      have hbl:=below_setCells (b:=w.heap.size+1) (by omega) D.toList 0 hnx
      have HD:Hid (D=_):=hD
      clear hD hk hnx
      go_wp2_with (first | (refine wpList_load_row rfl 100 _ rfl w.heap.size rfl 100 D (0,0) _ hb Tryz.underlying100 rfl (by rw [hl8];exact info26) ?_) | (refine wpList_store_mid rfl 100 _ _ rfl (w.heap.size+1) 0 D rfl rfl ht (by rw [hl8];exact info26) h1 ?_))
      refine bodyPost_ret (v:=.agg D) (results_cell_row rfl _ _ (w.heap.size+1) 100 D (0,0) _ rfl hst Tryz.underlying100 rfl (by rw [hl8];exact info26)) rfl ⟨by rw [HD.out],hbl⟩
end Go.Proofs.YtggnfejjcgbebaaGreatDoor
/- What sha.appendNumber lays behind a slice that the caller owns: the lowest bytes of a number, the highest one first. -/
namespace Go.Proofs.YtggnfejjcgbebaaGreatDoor
open Go.RowKit
theorem info5:(Tryz.prog.info? 5).map (fun i=>(i.zero,i.size,i.bytes))=some (some (.int .u8 0),1,1):=by kernel_rfl
theorem own_block_le {w:World} {base n:Nat} {v:Value} {xs:List Value} (h:w.ownsRow base 5 1 v n xs):∀k,v.ownBlock=some k→base≤k:=by
  intro k hk
  rcases h.2 with ⟨rfl,_⟩ | ⟨g,cap,cur,rfl,hg,_⟩
  · simp [Value.ownBlock] at hk
  · simp [Value.ownBlock] at hk;omega
theorem cell_new (w:World) (u:Value) (t:TypeId) (j:Nat) (x:Value) (hj:[u][j]?=some x):(w.alloc (.cells #[u] t)).cell? ((⟨w.heap.size,0,none⟩:Addr).add j)=some x:=by
  match j,hj with
  | 0,hj=>simp at hj;subst hj;simp [Addr.add]
set_option maxHeartbeats 1000000 in
theorem append26 (base:Nat) (v:Value) (l:List UInt8) (n many:Nat) (hm:many≤8) (_hn:n<18446744073709551616) (hl:l.length≤4294967296) (w:World) (hB:base≤w.heap.size)
    (ho:w.ownsRow base 5 1 v l.length (Lib.byteCells l)) :
    Calls Tryz.prog 120 #[v,.int .u64 n,.int .i64 many] w fun e w'=>∃v',e=.returned v'∧w'.ownsRow base 5 1 v' (l++Sh.bytesOf n many).length (Lib.byteCells (l++Sh.bytesOf n many))∧Below base w w':=by
  obtain ⟨i0,hi,hz0,hz1,hz2⟩:=info_parts info5
  go_enter Tryz.func120,Tryz.ntmps120
  go_wp2
  go_loopw [0,9] (fun v i wr=>∃k:Nat,k≤many∧i=.int .i64 k∧wr.ownsRow base 5 1 v (l.length+k) (Lib.byteCells (l++(List.range k).map (Sh.nb n many)))∧Below base w wr) (fun _ i _=>many - (intOf i).toNat)
  case atStart=>exact ⟨0,by omega,rfl,by simpa using ho,Below.refl _ _⟩
  case round =>
    obtain ⟨k,hk,rfl,hown,hnx⟩:=hrel
    by_cases hlt:k<many
    · have q1:(0:Int)≤(many:Int) - 1 - k:=by omega
      have q2:(k:Int)<(many:Int):=by omega
      have hbs:=own_block_le hown
      have hsz:=hnx.size
      have HO:Hid (wr.ownsRow _ _ _ _ _ _):=hown
      have HBS:Hid (∀k,_→_):=hbs
      clear ho hown hbs
      go_wp2_with (first | (at_builtin;refine wpList_append_own _ rfl _ _ 61 rfl base 5 i0 (.int .u8 0) 1 1 Tryz.underlying61 hi hz0 hz1 hz2 rfl (by decide) _ _ _ rfl (HO.out.alloc _) ⟨wr.heap.size,0,none⟩ 1 1 [.int .u8 ((n:Int) / 2 ^ (8*(many - 1 - k)) % 256)] rfl rfl (cell_new _ _ _) ?c2 ?c3 ?c4 ?c5 ?_))
      case c2=>intro u hu;simp at hu;subst hu;rfl
      case c3=>unfold maxLen;omega
      case c4=>omega
      case c5=>simp;omega
      · intro v' w1 hown' hgrow _
        have R1:w1.ownsRow base 5 1 v' (l.length+(k+1)) (Lib.byteCells (l++(List.range (k+1)).map (Sh.nb n many))):=by
          have e:Lib.byteCells (l++(List.range (k+1)).map (Sh.nb n many))=Lib.byteCells (l++(List.range k).map (Sh.nb n many))++[.int .u8 ((n:Int) / 2 ^ (8*(many - 1 - k)) % 256)]:=by
            rw [List.range_succ,List.map_append,←List.append_assoc,←Sh.nb_eq]
            simp [Lib.byteCells]
          rw [e]
          exact hown'
        have R2:Below base w w1:=(hnx.alloc (by omega) _).grown hgrow (by simp;omega) HBS.out
        have H1:Hid (w1.ownsRow _ _ _ _ _ _):=R1
        have H2:Hid (Below base w w1):=R2
        clear hown' hgrow R1 R2 hnx
        go_wp2
        go_roundw
        case rel=>exact ⟨k+1,by omega,by go_num,H1.out,H2.out⟩
        case measure=>simp [intOf];omega
    · have hk8:k=many:=by omega
      subst hk8
      go_wp2
      go_ret
      refine ⟨_,rfl,?_,hnx⟩
      have e:(l++Sh.bytesOf n k).length=l.length+k:=by simp [Sh.bytesOf]
      rw [e]
      exact hown
end Go.Proofs.YtggnfejjcgbebaaGreatDoor
/- What sha.padding lays behind a text of so many bytes. -/
namespace Go.Proofs.YtggnfejjcgbebaaGreatDoor
open Go.RowKit
namespace Sh
def nz (c:Nat):Nat:=(119 - c % 64) % 64
def pad (c:Nat):List UInt8:=([128]++List.replicate (nz c) 0)++bytesOf (8*c) 8
end Sh
theorem ret_str {a b:ByteArray} (h:a=b):Ending.returned (.string a)=.returned (.string b):=by rw [h]
theorem own_string {w:World} {base:Nat} {v:Value} {l:List UInt8} (h:w.ownsRow base 5 1 v l.length (Lib.byteCells l)) (hl:l≠[]) :
    ∃g n cap str,v=.slice (some ⟨g,0,none⟩) n cap∧(Go.convert 61 9 (.slice (some ⟨g,0,none⟩) n cap)).run Tryz.prog w=.ok (.string str) w∧Hid (str=⟨l.toArray⟩):=by
  have h0:l.length≠0:=fun e=>hl (List.eq_nil_of_length_eq_zero e)
  rcases h.2 with ⟨_,h'⟩ | ⟨g,cap,cur,rfl,_⟩
  · exact absurd h' h0
  · refine ⟨g,l.length,cap,_,rfl,run_convert_bytes_back w 61 9 5 ⟨g,0,none⟩ cap l Tryz.underlying61 Tryz.underlying5 Tryz.underlying9 (fun j hj=>?_),rfl⟩
    have e:(⟨g,0,none⟩:Addr).add j=⟨g,j,none⟩:=by rw [Addr.add_mid];simp
    rw [e,h.cellAt j (by omega)]
    simp [Lib.byteCells,hj]
theorem append26_8 (base:Nat) (v:Value) (l:List UInt8) (n:Nat) (N:Int) (hN:N=(n:Int)) (hn:n<18446744073709551616) (hl:l.length≤4294967296) (w:World) (hB:base≤w.heap.size)
    (ho:w.ownsRow base 5 1 v l.length (Lib.byteCells l)) :
    Calls Tryz.prog 120 #[v,.int .u64 N,.int .i64 8] w fun e w'=>∃v',e=.returned v'∧w'.ownsRow base 5 1 v' (l++Sh.bytesOf n 8).length (Lib.byteCells (l++Sh.bytesOf n 8))∧Below base w w':=by
  subst hN
  exact append26 base v l n 8 (by omega) hn hl w hB ho
theorem append26_4 (base:Nat) (v:Value) (l:List UInt8) (n:Nat) (N:Int) (hN:N=(n:Int)) (hn:n<18446744073709551616) (hl:l.length≤4294967296) (w:World) (hB:base≤w.heap.size)
    (ho:w.ownsRow base 5 1 v l.length (Lib.byteCells l)) :
    Calls Tryz.prog 120 #[v,.int .u64 N,.int .i64 4] w fun e w'=>∃v',e=.returned v'∧w'.ownsRow base 5 1 v' (l++Sh.bytesOf n 4).length (Lib.byteCells (l++Sh.bytesOf n 4))∧Below base w w':=by
  subst hN
  exact append26 base v l n 4 (by omega) hn hl w hB ho
theorem pad_own (w:World) (z:Nat) (hz:z<64) (M:Array Value) (hM:M.toList=List.replicate (9+z) (.int .u8 0)) :
    (w.alloc (.cells (M.setIfInBounds 0 (.int .u8 128)) 5)).ownsRow w.heap.size 5 1 (.slice (some ⟨w.heap.size,0,none⟩) (1+z) (9+z)) ([(128:UInt8)]++List.replicate z 0).length (Lib.byteCells ([128]++List.replicate z 0)):=by
  have hs:M.size=9+z:=by rw [←Array.length_toList,hM];simp
  have hln:([(128:UInt8)]++List.replicate z 0:List UInt8).length=z+1:=by simp
  refine ⟨by simp [Lib.byteCells],Or.inr ⟨w.heap.size,9+z,M.setIfInBounds 0 (.int .u8 128),?_,Nat.le_refl _,heap_alloc_new w _,by simp;omega,?_,by simp [hs],?_⟩⟩
  · rw [hln,Nat.add_comm]
  · unfold maxLen;omega
  · rw [Array.toList_setIfInBounds,hM,show 9+z=(z+8)+1 by omega,List.replicate_succ,List.set_cons_zero,hln,Nat.mul_one,List.take_succ_cons,List.take_replicate,show min z (z+8)=z by omega]
    simp [Lib.byteCells]
set_option maxHeartbeats 1000000 in
theorem padding25 (c:Nat) (hc:c<1152921504606846976) (w:World) :
    Calls Tryz.prog 119 #[.int .u64 c] w fun e w'=>e=.returned (.string ⟨(Sh.pad c).toArray⟩)∧Below w.heap.size w w':=by
  obtain ⟨i0,hi,hz0,hz1,hz2⟩:=info_parts info5
  obtain ⟨z,hz⟩:∃z,z=Sh.nz c:=⟨_,rfl⟩
  have hzz:(119 - (c:Int)) % 64=z:=by rw [hz];unfold Sh.nz;omega
  have hz64:z<64:=by rw [hz];unfold Sh.nz;omega
  obtain ⟨M,hM⟩:∃M,M=madeCells (Value.int .u8 0).cells ((1+(119 - (c:Int)) % 64+8).toNat*i0.size):=⟨_,rfl⟩
  have hMl:M.toList=List.replicate (9+z) (.int .u8 0):=by
    rw [hM,hz1,hzz,show (1+(z:Int)+8).toNat*1=9+z by omega]
    exact toList_madeCells_one (.int .u8 0) (9+z)
  have hmk:∀u:World,(Instr.makeSlice 61 (.int .u64 (1+(119 - (c:Int)) % 64)) (.int .u64 (1+(119 - (c:Int)) % 64+8))).run Tryz.prog u=.ok (.slice (some ⟨u.heap.size,0,none⟩) (1+z) (9+z)) (u.alloc (.cells M 5)):=fun u=>by
    have h:=run_make (P:=Tryz.prog) u 61 5 i0 (.int .u8 0) Tryz.underlying61 hi hz0 .u64 .u64 (1+(119 - (c:Int)) % 64) (1+(119 - (c:Int)) % 64+8) (by omega) (by omega) (by rw [hz2];omega) (by omega)
    rw [←hM,show (1+(119 - (c:Int)) % 64).toNat=1+z by omega,show (1+(119 - (c:Int)) % 64+8).toNat=9+z by omega] at h
    exact h
  have hMs:M.size=9+z:=by rw [←Array.length_toList,hMl];simp
  have hM0:M[0]?=some (.int .u8 0):=by rw [←Array.getElem?_toList,hMl,List.getElem?_replicate];simp
  have HO:Hid ((w.alloc (.cells (M.setIfInBounds 0 (.int .u8 128)) 5)).ownsRow w.heap.size 5 1 (.slice (some ⟨w.heap.size,0,none⟩) (1+z) (9+z)) ([(128:UInt8)]++List.replicate z 0).length (Lib.byteCells ([128]++List.replicate z 0))):=pad_own w z hz64 M hMl
  have HZ:Hid (z=Sh.nz c):=hz
  have hlen:Hid (([(128:UInt8)]++List.replicate z 0).length≤4294967296):=by show _≤_;simp;omega
  clear hz hM hMl hzz hi hz0 hz1 hz2
  have q1:(0:Int)<1+(z:Int):=by omega
  go_enter Tryz.func119,Tryz.ntmps119
  go_wp2_with fail
  refine (append26_8 w.heap.size _ ([(128:UInt8)]++List.replicate z 0) (8*c) _ (by omega) (by omega) hlen.out _ (by simp) HO.out).mono ?_
  rintro e w1 ⟨v',rfl,ho',hb'⟩
  obtain ⟨g,n,cap,str,hv,hconv,hstr⟩:=own_string ho' (by simp)
  rw [hv]
  have hB1:Below w.heap.size w w1:=(((Below.refl _ w).alloc (Nat.le_refl _) _)).trans hb'
  have HB:Hid (Below w.heap.size w w1):=hB1
  clear ho' hb' hB1 hv
  go_wp2
  go_ret
  exact ⟨ret_str (by rw [hstr.out,Sh.pad,←HZ.out]),HB.out⟩
end Go.Proofs.YtggnfejjcgbebaaGreatDoor
/- What sha.finish makes of words, of the rest behind them and of a count: the digest's 32 bytes. -/
namespace Go.Proofs.YtggnfejjcgbebaaGreatDoor
open Go.RowKit
attribute [local go_sem ↓] Go.wp_at_zero Go.wp_at_succ
namespace Sh
def dig (l:List Nat):List UInt8:=l.flatMap fun x=>bytesOf x 4
def chgAll (s:S8) (t:List UInt8):S8:=chg s t (t.length / 64)
def fin (s:S8) (rest:List UInt8) (c:Nat):List UInt8:=dig (chgAll s (rest++pad c)).list
theorem pad_length (c:Nat):(pad c).length=nz c+9:=by simp [pad,bytesOf]
theorem nz_lt (c:Nat):nz c<64:=Nat.mod_lt _ (by decide)
theorem bytesOf_length (n m:Nat):(bytesOf n m).length=m:=by simp [bytesOf]
theorem dig_length (l:List Nat):(dig l).length=4*l.length:=by
  induction l with
  | nil=>rfl
  | cons x r ih=>simp only [dig,List.flatMap_cons,List.length_append,bytesOf_length,List.length_cons] at *;omega
theorem dig_take (l:List Nat) (k:Nat) (h:k<l.length):dig (l.take (k+1))=dig (l.take k)++bytesOf (l.getD k 0) 4:=by
  have e:l.getD k 0=l[k]:=by rw [List.getD_eq_getElem?_getD,List.getElem?_eq_getElem h];rfl
  unfold dig
  rw [List.take_succ_eq_append_getElem h,List.flatMap_append,e]
  simp
end Sh
def BI (w wr:World) (v:List Nat):Prop:=wr.heap[w.heap.size]?=some (.cells (Sh.arr v) 100 (0,0))∧w.heap.size+1≤wr.heap.size∧Below w.heap.size w wr
theorem BI.put {w wr:World} {v:List Nat} (h:BI w wr v) (i x:Nat):BI w (wr.setCell ⟨w.heap.size,i,none⟩ (.int .u32 (x:Int))) (v.set i x):=by
  obtain ⟨h1,h3,h4⟩:=h
  exact ⟨row_put h1 i x,by simpa using h3,h4.setCell (p:=⟨w.heap.size,i,none⟩) (by simp) _⟩
theorem BI.drew {w wr:World} {v:List Nat} (h:BI w wr v):BI w wr.drew v:=⟨h.1,h.2.1,h.2.2.drew⟩
theorem BI.call {w wr w1:World} {v:List Nat} (h:BI w wr v) (hb:Below wr.heap.size wr w1):BI w w1 v:=by
  obtain ⟨h1,h3,h4⟩:=h
  exact ⟨(hb.block _ (by omega)).trans h1,Nat.le_trans h3 hb.size,h4.trans (hb.mono (by omega))⟩
theorem BI.cells {w wr:World} {v:Sh.S8} (h:BI w wr v.list) :
    wr.cell? ⟨w.heap.size,0,none⟩=some (.int .u32 (v.a:Int))∧wr.cell? ⟨w.heap.size,1,none⟩=some (.int .u32 (v.b:Int))∧wr.cell? ⟨w.heap.size,2,none⟩=some (.int .u32 (v.c:Int))∧wr.cell? ⟨w.heap.size,3,none⟩=some (.int .u32 (v.d:Int)) ∧
    wr.cell? ⟨w.heap.size,4,none⟩=some (.int .u32 (v.e:Int))∧wr.cell? ⟨w.heap.size,5,none⟩=some (.int .u32 (v.f:Int))∧wr.cell? ⟨w.heap.size,6,none⟩=some (.int .u32 (v.g:Int))∧wr.cell? ⟨w.heap.size,7,none⟩=some (.int .u32 (v.h:Int)) :=
  ⟨row_cell h.1 0 (show 0<8 by decide),row_cell h.1 1 (show 1<8 by decide),row_cell h.1 2 (show 2<8 by decide),row_cell h.1 3 (show 3<8 by decide),row_cell h.1 4 (show 4<8 by decide),row_cell h.1 5 (show 5<8 by decide),row_cell h.1 6 (show 6<8 by decide),row_cell h.1 7 (show 7<8 by decide)⟩
theorem BI.stored {w wr:World} {v:Sh.S8} (h:BI w wr v.list) (m:Sh.S8) :
    BI w ((((((((wr.setCell ⟨w.heap.size,0,none⟩ (.int .u32 (m.a:Int))).setCell ⟨w.heap.size,1,none⟩ (.int .u32 (m.b:Int))).setCell ⟨w.heap.size,2,none⟩ (.int .u32 (m.c:Int))).setCell ⟨w.heap.size,3,none⟩ (.int .u32 (m.d:Int))).setCell ⟨w.heap.size,4,none⟩ (.int .u32 (m.e:Int))).setCell ⟨w.heap.size,5,none⟩ (.int .u32 (m.f:Int))).setCell ⟨w.heap.size,6,none⟩ (.int .u32 (m.g:Int))).setCell ⟨w.heap.size,7,none⟩ (.int .u32 (m.h:Int))) m.list :=
  (((((((h.put 0 m.a).put 1 m.b).put 2 m.c).put 3 m.d).put 4 m.e).put 5 m.f).put 6 m.g).put 7 m.h
theorem box_start (w:World) (v:List Nat):BI w (w.alloc (.cells (Sh.arr v) 100)) v:=⟨heap_alloc_new w _,by simp,(Below.refl _ w).alloc (Nat.le_refl _) _⟩
theorem change20' (v m:Sh.S8) (hv:v.ok) (t:ByteArray) (ht:t.size≤1125899906842624) (hm:Hid (m=Sh.chgAll v t.data.toList)) (w:World) (hK:HasK w) :
    Calls Tryz.prog 91 #[.agg #[.int .u32 v.a,.int .u32 v.b,.int .u32 v.c,.int .u32 v.d,.int .u32 v.e,.int .u32 v.f,.int .u32 v.g,.int .u32 v.h],.string t] w
      fun e w'=>e=.returned (.agg #[.int .u32 m.a,.int .u32 m.b,.int .u32 m.c,.int .u32 m.d,.int .u32 m.e,.int .u32 m.f,.int .u32 m.g,.int .u32 m.h])∧Below w.heap.size w w':=by
  have:=change20 v hv t ht w hK
  rw [show Sh.chg v t.data.toList (t.size / 64)=m from (by rw [hm.out,Sh.chgAll,←Lib.size_eq])] at this
  exact this
theorem index_words (m:Sh.S8) (k:Nat) (hk:k<8) (wx:World):(Instr.index 100 (.agg (Sh.arr m.list)) (.int .i64 (k:Int))).run Tryz.prog wx=.ok (.int .u32 ((m.list.getD k 0:Nat):Int)) wx:=by
  match k,hk with
  | 0,_=>show _=_;kernel_rfl
  | 1,_=>show _=_;kernel_rfl
  | 2,_=>show _=_;kernel_rfl
  | 3,_=>show _=_;kernel_rfl
  | 4,_=>show _=_;kernel_rfl
  | 5,_=>show _=_;kernel_rfl
  | 6,_=>show _=_;kernel_rfl
  | 7,_=>show _=_;kernel_rfl
theorem made_own (w:World) (M:Array Value) (n:Nat) (hM:M.size=n) (hn:n≤4294967296):(w.alloc (.cells M 5)).ownsRow w.heap.size 5 1 (.slice (some ⟨w.heap.size,0,none⟩) 0 n) 0 [] :=
  ⟨rfl,Or.inr ⟨w.heap.size,n,M,rfl,Nat.le_refl _,heap_alloc_new w _,Nat.zero_le _,by unfold maxLen;omega,by omega,by simp⟩⟩
theorem S8.getD_lt {m:Sh.S8} (h:m.ok) (k:Nat):m.list.getD k 0<4294967296:=by
  apply Sh.getD_lt
  intro x hx
  simp only [Sh.S8.list,List.mem_cons,List.mem_nil_iff,or_false] at hx
  obtain ⟨ha,hb,hc,hd,he,hf,hg,hh⟩:=h
  rcases hx with rfl | rfl | rfl | rfl | rfl | rfl | rfl | rfl<;>assumption
set_option maxHeartbeats 2000000 in
set_option maxRecDepth 10000 in
theorem finish19 (s:Sh.S8) (hs:s.ok) (t:ByteArray) (ht:t.size≤1125899906842000) (c:Nat) (hc:c<1152921504606846976) (w:World) (hK:HasK w) :
    Calls Tryz.prog 90 #[.agg (Sh.arr s.list),.string t,.int .u64 c] w fun e w'=>e=.returned (.string ⟨(Sh.fin s t.data.toList c).toArray⟩)∧Below w.heap.size w w':=by
  show Calls Tryz.prog 90 #[.agg #[.int .u32 s.a,.int .u32 s.b,.int .u32 s.c,.int .u32 s.d,.int .u32 s.e,.int .u32 s.f,.int .u32 s.g,.int .u32 s.h],.string t,.int .u64 c] w _
  obtain ⟨i0,hi,hz0,hz1,hz2⟩:=info_parts info5
  obtain ⟨p,hp⟩:∃p:ByteArray,p=⟨(Sh.pad c).toArray⟩:=⟨_,rfl⟩
  have hps:p.size≤100:=by
    rw [Lib.size_eq,hp]
    have:=Sh.pad_length c
    have:=Sh.nz_lt c
    show (Sh.pad c).length≤100
    omega
  obtain ⟨tp,htp⟩:∃tp,tp=t++p:=⟨_,rfl⟩
  have htl:tp.data.toList=t.data.toList++Sh.pad c:=by rw [htp,hp];simp
  have hts:tp.size≤1125899906842624:=by rw [htp];simp;omega
  obtain ⟨m,hm⟩:∃m,m=Sh.chgAll s tp.data.toList:=⟨_,rfl⟩
  have hp25:∀W,Calls Tryz.prog 119 #[.int .u64 c] W fun e w'=>e=.returned (.string p)∧Below W.heap.size W w':=fun W=>by rw [hp];exact padding25 c hc W
  have HP:Hid (∀W,_):=hp25
  have hadd:∀W,(Op.stringOp .add t p).run Tryz.prog W=.ok (.string tp) W:=fun W=>by rw [htp];exact run_string_add_sum W t p (by omega)
  have HK:Hid (HasK w):=hK
  have hs0:Hid s.ok:=hs
  have HM:Hid (m=_):=hm
  have hB:2<w.heap.size:=hK.1
  obtain ⟨M,hM⟩:∃M,M=madeCells (Value.int .u8 0).cells (32*i0.size):=⟨_,rfl⟩
  have hmk:∀u:World,(Instr.makeSlice 61 (.int .i64 0) (.int .i64 32)).run Tryz.prog u=.ok (.slice (some ⟨u.heap.size,0,none⟩) 0 32) (u.alloc (.cells M 5)):=fun u=>by
    have h:=run_make (P:=Tryz.prog) u 61 5 i0 (.int .u8 0) Tryz.underlying61 hi hz0 .i64 .i64 0 32 (by omega) (by omega) (by rw [hz2];omega) (by omega)
    rw [show (32:Int).toNat=32 from rfl,←hM] at h
    exact h
  have hMs:M.size=32:=by rw [hM,size_madeCells,hz1]
  have HMO:Hid m.ok:=by show m.ok;rw [hm];exact Sh.chg_ok hs _ _
  have HTL:Hid (tp.data.toList=t.data.toList++Sh.pad c):=htl
  clear hK hs hm htl hp htp hp25 hM
  go_enter Tryz.func90,Tryz.ntmps90
  go_wp2
  have HI:Hid (BI w (w.alloc (.cells #[.int .u32 s.a,.int .u32 s.b,.int .u32 s.c,.int .u32 s.d,.int .u32 s.e,.int .u32 s.f,.int .u32 s.g,.int .u32 s.h] 100)) s.list):=box_start w s.list
  go_region_with (first | (go_at_call 119;refine (HP.out _).mono ?_;rintro e w1 ⟨rfl,hb1⟩;have hI1:Hid (BI w w1 s.list):=HI.out.drew.call (by exact hb1);obtain ⟨d0,d1,d2,d3,d4,d5,d6,d7⟩:=hI1.out.cells) | (go_at_call 91;refine (change20' s m hs0.out tp hts HM _ (HK.out.below hB hI1.out.2.2)).mono ?_;rintro e w2 ⟨rfl,hb2⟩;have hI2:Hid (BI w w2 s.list):=hI1.out.call (by exact hb2);obtain ⟨e0,e1,e2,e3,e4,e5,e6,e7⟩:=hI2.out.cells;have fz:∀j,w2.frozen? ⟨w.heap.size,j,none⟩=false:=row_free hI2.out.1))
  all_goals
    obtain ⟨W3,hW3⟩:∃W3,((((((((w2.setCell ⟨w.heap.size,0,none⟩ (.int .u32 (m.a:Int))).setCell ⟨w.heap.size,1,none⟩ (.int .u32 (m.b:Int))).setCell ⟨w.heap.size,2,none⟩ (.int .u32 (m.c:Int))).setCell ⟨w.heap.size,3,none⟩ (.int .u32 (m.d:Int))).setCell ⟨w.heap.size,4,none⟩ (.int .u32 (m.e:Int))).setCell ⟨w.heap.size,5,none⟩ (.int .u32 (m.f:Int))).setCell ⟨w.heap.size,6,none⟩ (.int .u32 (m.g:Int))).setCell ⟨w.heap.size,7,none⟩ (.int .u32 (m.h:Int)))=W3:=⟨_,rfl⟩
    have hI3:BI w W3 m.list:=by rw [←hW3];exact hI2.out.stored m
    rw [hW3]
    clear hW3 hI2 hI1 HI d0 d1 d2 d3 d4 d5 d6 d7 e0 e1 e2 e3 e4 e5 e6 e7 fz hb1 hb2
    have hz3:W3.heap.size<W3.heap.size+1:=by omega
    obtain ⟨D,hD⟩:∃D,D=Sh.arr m.list:=⟨_,rfl⟩
    have hl8:D.size=8:=by rw [hD];rfl
    have hb:(W3.alloc (.cells M 5)).heap[w.heap.size]?=some (.cells D 100 (0,0)):=by
      rw [Below.heap_alloc _ _ _ (by have:=hI3.2.1;omega),hD];exact hI3.1
    have hidx:∀k:Nat,k<8→∀wx,(Instr.index 100 (.agg D) (.int .i64 (k:Int))).run Tryz.prog wx=.ok (.int .u32 ((m.list.getD k 0:Nat):Int)) wx:=by rw [hD];exact index_words m
    have HIX:Hid (∀k:Nat,k<8→∀wx,(Instr.index 100 (.agg D) (.int .i64 (k:Int))).run Tryz.prog wx=.ok (.int .u32 ((m.list.getD k 0:Nat):Int)) wx):=hidx
    have HO:Hid ((W3.alloc (.cells M 5)).ownsRow W3.heap.size 5 1 (.slice (some ⟨W3.heap.size,0,none⟩) 0 32) 0 []):=made_own W3 M 32 hMs (by omega)
    have hBW:Hid (Below w.heap.size w (W3.alloc (.cells M 5))):=hI3.2.2.alloc (by have:=hI3.2.1;omega) _
    have hWle:w.heap.size≤W3.heap.size:=by have:=hI3.2.1;omega
    clear hD hidx hI3
    go_wp2_with (first | (refine wpList_load_row rfl 100 _ rfl w.heap.size rfl 100 D (0,0) _ hb Tryz.underlying100 rfl (by rw [hl8];exact info26) ?_))
    go_loopw [7,18] (fun v i wr=>∃k:Nat,k≤8∧i=.int .i64 k∧wr.ownsRow W3.heap.size 5 1 v (Sh.dig (m.list.take k)).length (Lib.byteCells (Sh.dig (m.list.take k)))∧Below W3.heap.size (W3.alloc (.cells M 5)) wr∧W3.heap.size+1≤wr.heap.size) (fun _ i _=>8 - (intOf i).toNat)
    case atStart=>exact ⟨0,by omega,rfl,HO.out,Below.refl _ _,by simp⟩
    case round =>
      obtain ⟨k,hk,rfl,hown,hnx,hsz⟩:=hrel
      have hml:m.list.length=8:=rfl
      by_cases hlt:k<8
      · obtain ⟨x,hx⟩:∃x,x=m.list.getD k 0:=⟨_,rfl⟩
        have hix:∀wx,(Instr.index 100 (.agg D) (.int .i64 (k:Int))).run Tryz.prog wx=.ok (.int .u32 (x:Int)) wx:=by rw [hx];exact HIX.out k hlt
        have hxl:x<4294967296:=by rw [hx];exact S8.getD_lt HMO.out k
        have hdl:Hid ((Sh.dig (m.list.take k)).length≤4294967296):=by
          show _≤_
          rw [Sh.dig_length,List.length_take];omega
        have hnext:Hid (Sh.dig (m.list.take (k+1))=Sh.dig (m.list.take k)++Sh.bytesOf x 4):=by
          show _=_
          rw [hx];exact Sh.dig_take _ _ (by omega)
        have HOW:Hid (wr.ownsRow _ _ _ _ _ _):=hown
        have HNX:Hid (Below _ _ wr):=hnx
        clear hown hnx hx hml
        go_wp2_with (first | (go_at_call 120;refine (append26_4 W3.heap.size _ _ x _ rfl (by omega) hdl.out _ (by omega) HOW.out).mono ?_;rintro e w4 ⟨v',rfl,ho',hb'⟩;have R1:Hid (w4.ownsRow W3.heap.size 5 1 v' (Sh.dig (m.list.take (k+1))).length (Lib.byteCells (Sh.dig (m.list.take (k+1))))):=(by rw [hnext.out];exact ho');have R2:Hid (Below W3.heap.size (W3.alloc (.cells M 5)) w4):=HNX.out.trans hb';have R3:W3.heap.size+1≤w4.heap.size:=Nat.le_trans hsz hb'.size;clear ho' hb'))
        go_roundw
        case rel=>exact ⟨k+1,by omega,by go_num,R1.out,R2.out,R3⟩
        case measure=>simp [intOf];omega
      · have hk8:k=8:=by omega
        subst hk8
        rw [show m.list.take 8=m.list from rfl] at hown
        obtain ⟨g,n,cap,str,hv,hconv,hstr⟩:=own_string hown (by intro h;have:=congrArg List.length h;rw [Sh.dig_length,hml] at this;simp at this)
        have HBB:Hid (Below w.heap.size w wr):=hBW.out.trans (hnx.mono hWle)
        rw [hv]
        clear hown hnx hv
        go_wp2
        go_ret
        exact ⟨ret_str (by rw [hstr.out,HM.out,HTL.out];rfl),HBB.out⟩
end Go.Proofs.YtggnfejjcgbebaaGreatDoor
/- What sha.Start and sha.Sum answer. -/
namespace Go.Proofs.YtggnfejjcgbebaaGreatDoor
open Go.RowKit
namespace Sh
def S0:S8:=⟨1779033703,3144134277,1013904242,2773480762,1359893119,2600822924,528734635,1541459225⟩
theorem S0_ok:S0.ok:=⟨by decide,by decide,by decide,by decide,by decide,by decide,by decide,by decide⟩
def restOf (t:List UInt8):List UInt8:=t.drop (t.length - t.length % 64)
def sum (t:List UInt8):List UInt8:=fin (chgAll S0 t) (restOf t) t.length
theorem fin_length (s:S8) (r:List UInt8) (c:Nat):(fin s r c).length=32:=by rw [fin,dig_length];rfl
end Sh
theorem start17 (s0:Sh.S8) (h:Hid (s0=Sh.S0)) (w:World) :
    Calls Tryz.prog 92 #[] w fun e w'=>e=.returned (.agg #[.int .u32 s0.a,.int .u32 s0.b,.int .u32 s0.c,.int .u32 s0.d,.int .u32 s0.e,.int .u32 s0.f,.int .u32 s0.g,.int .u32 s0.h,.int .u64 0,.string ⟨#[]⟩])∧Below w.heap.size w w':=by
  have e:(.agg #[.int .u32 s0.a,.int .u32 s0.b,.int .u32 s0.c,.int .u32 s0.d,.int .u32 s0.e,.int .u32 s0.f,.int .u32 s0.g,.int .u32 s0.h,.int .u64 0,.string ⟨#[]⟩]:Value) =
      .agg #[.int .u32 1779033703,.int .u32 3144134277,.int .u32 1013904242,.int .u32 2773480762,.int .u32 1359893119,.int .u32 2600822924,.int .u32 528734635,.int .u32 1541459225,.int .u64 0,.string ⟨#[]⟩]:=by
    rw [h.out]
    rfl
  rw [e]
  clear e
  go_enter Tryz.func92,Tryz.ntmps92
  go_wp2
  exact bodyPost_ret (v:=.agg #[.int .u32 1779033703,.int .u32 3144134277,.int .u32 1013904242,.int .u32 2773480762,.int .u32 1359893119,.int .u32 2600822924,.int .u32 528734635,.int .u32 1541459225,.int .u64 0,.string ⟨#[]⟩]) (by simp [results,Tryz.results92,go_sem]) rfl ⟨rfl,(Below.refl _ _).alloc (Nat.le_refl _) _⟩
theorem finish19' (m:Sh.S8) (hm:m.ok) (t:ByteArray) (ht:t.size≤1125899906842000) (c:Nat) (C:Int) (hC:C=(c:Int)) (hc:c<1152921504606846976) (d:ByteArray) (hd:Hid (d=⟨(Sh.fin m t.data.toList c).toArray⟩)) (w:World) (hK:HasK w) :
    Calls Tryz.prog 90 #[.agg #[.int .u32 m.a,.int .u32 m.b,.int .u32 m.c,.int .u32 m.d,.int .u32 m.e,.int .u32 m.f,.int .u32 m.g,.int .u32 m.h],.string t,.int .u64 C] w fun e w'=>e=.returned (.string d)∧Below w.heap.size w w':=by
  rw [hC,hd.out]
  exact finish19 m hm t ht c hc w hK
theorem field0 (x0 x1 x2 x3 x4 x5 x6 x7 x8 x9:Value) (wx:World):(Instr.field 102 (.agg #[x0,x1,x2,x3,x4,x5,x6,x7,x8,x9]) 0).run Tryz.prog wx=.ok (.agg #[x0,x1,x2,x3,x4,x5,x6,x7]) wx:=by kernel_rfl
set_option maxHeartbeats 1000000 in
theorem sum9 (t:ByteArray) (ht:t.size≤1125899906842000) (w:World) (hK:HasK w) :
    Calls Tryz.prog 55 #[.string t] w fun e w'=>e=.returned (.string ⟨(Sh.sum t.data.toList).toArray⟩)∧Below w.heap.size w w':=by
  obtain ⟨s0,hs0⟩:∃s,s=Sh.S0:=⟨_,rfl⟩
  obtain ⟨m,hm⟩:∃m,m=Sh.chgAll s0 t.data.toList:=⟨_,rfl⟩
  have hmo:m.ok:=by rw [hm,hs0];exact Sh.chg_ok Sh.S0_ok _ _
  have hso:s0.ok:=by rw [hs0];exact Sh.S0_ok
  obtain ⟨r,hr⟩:∃r,r=t.extract (t.size - t.size % 64) t.size:=⟨_,rfl⟩
  have hrl:r.data.toList=Sh.restOf t.data.toList:=by
    rw [hr,Lib.extract_data,Sh.restOf,←Lib.size_eq]
    exact List.take_of_length_le (by rw [List.length_drop,←Lib.size_eq];exact Nat.le_refl _)
  have hrs:r.size≤1125899906842000:=by
    rw [Lib.size_eq,hrl,Sh.restOf,List.length_drop,←Lib.size_eq];omega
  obtain ⟨d,hd⟩:∃d:ByteArray,d=⟨(Sh.fin m r.data.toList t.size).toArray⟩:=⟨_,rfl⟩
  have HE:Hid (d=⟨(Sh.sum t.data.toList).toArray⟩):=by
    show _=_
    rw [hd,hrl,hm,hs0,Lib.size_eq]
    rfl
  have HS:Hid (s0=Sh.S0):=hs0
  have HM:Hid (m=Sh.chgAll s0 t.data.toList):=hm
  have HD:Hid (d=⟨(Sh.fin m r.data.toList t.size).toArray⟩):=hd
  have HR:Hid (r=t.extract (t.size - t.size % 64) t.size):=hr
  have HK:Hid (HasK w):=hK
  have HMO:Hid m.ok:=hmo
  have HSO:Hid s0.ok:=hso
  have hB:2<w.heap.size:=hK.1
  clear hs0 hm hr hrl hd hK hmo hso
  have hf:=fun wx=>field0 (.int .u32 s0.a) (.int .u32 s0.b) (.int .u32 s0.c) (.int .u32 s0.d) (.int .u32 s0.e) (.int .u32 s0.f) (.int .u32 s0.g) (.int .u32 s0.h) (.int .u64 0) (.string ⟨#[]⟩) wx
  go_enter Tryz.func55,Tryz.ntmps55
  go_wp2_with fail
  refine (start17 s0 HS _).mono ?_
  rintro e w1 ⟨rfl,hb1⟩
  have K1:Hid (HasK w1):=HK.out.below hB hb1
  have B1:Hid (Below w.heap.size w w1):=hb1
  clear hb1
  go_wp2_with fail
  refine (change20' s0 m HSO.out t (by omega) HM _ K1.out).mono ?_
  rintro e w2 ⟨rfl,hb2⟩
  have K2:Hid (HasK w2):=K1.out.below K1.out.1 hb2
  have B2:Hid (Below w.heap.size w w2):=B1.out.trans (hb2.mono B1.out.size)
  clear hb2
  go_wp2_with fail
  rw [←HR.out]
  refine (finish19' m HMO.out r hrs t.size _ rfl (by omega) d HD _ K2.out).mono ?_
  rintro e w3 ⟨rfl,hb3⟩
  have B3:Hid (Below w.heap.size w w3):=B2.out.trans (hb3.mono B2.out.size)
  clear hb3
  go_wp2
  go_ret
  exact ⟨ret_str HE.out,B3.out⟩
namespace Sh
def rightB (c n:Nat):Bool:=decide (c<1152921504606846976) && (n==c % 64)
end Sh
end Go.Proofs.YtggnfejjcgbebaaGreatDoor
