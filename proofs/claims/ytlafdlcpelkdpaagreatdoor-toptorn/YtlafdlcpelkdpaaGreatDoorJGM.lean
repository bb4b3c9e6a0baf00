/- Several texts, joined: ShMath, ShRot, ShHeap -/
import Derived.Laws.BitsAllLaws
import Derived.Laws.BitsLemmas
import Derived.Test.YtlafdlcpelkdpaaGreatDoorRows
import Derived.WalkKit
import Derived.WalkLawsBesides
import Derived.Deep.QuietTactic
import Derived.BigQuiet
import Derived.Outline
import Derived.Deep.RegionHeld3
import Derived.Deep.MidRow
import Derived.Deep.DrawnRows
import Derived.LoopTactic
import Derived.WalkSpells
import Derived.BigRegion
/- Plain mathematics of the digest: the rotation, the schedule, a round, a block, all on natural numbers; nothing of the program is in it. -/
namespace Go.Proofs.YtlafdlcpelkdpaaGreatDoor
open Go
namespace Sh

/-- a word turned right by n places -/
def rotr (x n : Nat) : Nat := (x * 2 ^ (32 - n) % 4294967296) ||| (x / 2 ^ n)

theorem or_lt {a b : Nat} (ha : a < 4294967296) (hb : b < 4294967296) : (a ||| b) < 4294967296 := Nat.or_lt_two_pow (n := 32) ha hb
theorem and_lt {a b : Nat} (ha : a < 4294967296) : (a &&& b) < 4294967296 := Nat.lt_of_le_of_lt Nat.and_le_left ha
theorem xor_lt {a b : Nat} (ha : a < 4294967296) (hb : b < 4294967296) : (a ^^^ b) < 4294967296 := Nat.xor_lt_two_pow (n := 32) ha hb
theorem rotr_lt {x : Nat} (n : Nat) (hx : x < 4294967296) : rotr x n < 4294967296 :=
  or_lt (Nat.mod_lt _ (by decide)) (Nat.lt_of_le_of_lt (Nat.div_le_self _ _) hx)

theorem mask31 (n : Int) (h0 : 0 < n) (h1 : n < 32) : bits .and .u64 (IntKind.u64.wrap (-n)) 31 = 32 - n := by
  have hw : IntKind.u64.wrap (-n) = 18446744073709551616 - n := by
    simp only [IntKind.wrap, IntKind.bits, IntKind.signed]
    simp
    omega
  rw [hw, show (31 : Int) = ((31 : Nat) : Int) from rfl]
  rw [u64_and _ _ (by omega) (by omega) (by omega) (by omega)]
  rw [show ((31 : Nat) : Int).toNat = 31 from rfl, nat_mask5]
  omega

theorem shl_eq (x m : Nat) : ((x : Int) * 2 ^ m % 4294967296) = ((x * 2 ^ m % 4294967296 : Nat) : Int) := by
  rw [Int.natCast_emod, Int.natCast_mul, Int.natCast_pow]
  rfl
theorem shr_eq (x m : Nat) : ((x : Int) / 2 ^ m) = ((x / 2 ^ m : Nat) : Int) := by
  rw [Int.natCast_ediv, Int.natCast_pow]
  rfl
theorem rot_eq (x : Nat) (n : Int) (hx : x < 4294967296) (h0 : 0 < n) (h1 : n < 32) :
    bits .or .u32 ((x : Int) * 2 ^ (32 - n).toNat % 4294967296) ((x : Int) / 2 ^ (32 - (32 - n)).toNat) = ((rotr x n.toNat : Nat) : Int) := by
  have e : (32 - (32 - n)).toNat = n.toNat := by omega
  have e2 : (32 - n).toNat = 32 - n.toNat := by omega
  rw [e, e2, shl_eq, shr_eq, u32_or_nat _ _ (Nat.mod_lt _ (by decide)) (Nat.lt_of_le_of_lt (Nat.div_le_self _ _) hx)]
  rfl
theorem rot_eq' (x : Nat) (n : Int) (hx : x < 4294967296) (h0 : 0 < n) (h1 : n < 32) :
    bits .or .u32 ((x : Int) / 2 ^ n.toNat) ((x : Int) * 2 ^ (32 - n).toNat % 4294967296) = ((rotr x n.toNat : Nat) : Int) := by
  have e2 : (32 - n).toNat = 32 - n.toNat := by omega
  rw [e2, shl_eq, shr_eq, u32_or_nat _ _ (Nat.lt_of_le_of_lt (Nat.div_le_self _ _) hx) (Nat.mod_lt _ (by decide)), Nat.or_comm]
  rfl

/-- four bytes as a number, the highest one first -/
def be32 (s : List UInt8) (i : Nat) : Nat :=
  (((s.getD i 0).toNat * 256 + (s.getD (i + 1) 0).toNat) * 256 + (s.getD (i + 2) 0).toNat) * 256 + (s.getD (i + 3) 0).toNat
theorem be32_lt (s : List UInt8) (i : Nat) : be32 s i < 4294967296 := by
  have h0 := (s.getD i 0).toNat_lt
  have h1 := (s.getD (i + 1) 0).toNat_lt
  have h2 := (s.getD (i + 2) 0).toNat_lt
  have h3 := (s.getD (i + 3) 0).toNat_lt
  unfold be32
  omega

/-- what the schedule adds, of the word two and of the word fifteen places before -/
def sig1 (x : Nat) : Nat := rotr x 17 ^^^ rotr x 19 ^^^ x / 2 ^ 10
def sig0 (x : Nat) : Nat := rotr x 7 ^^^ rotr x 18 ^^^ x / 2 ^ 3
def grow (p16 p15 p7 p2 : Nat) : Nat := (((p16 + sig0 p15) % 4294967296 + p7) % 4294967296 + sig1 p2) % 4294967296
/-- the next word of the schedule -/
def nextW (s : List UInt8) (l : List Nat) : Nat :=
  if l.length < 16 then be32 s (4 * l.length) else grow (l.getD (l.length - 16) 0) (l.getD (l.length - 15) 0) (l.getD (l.length - 7) 0) (l.getD (l.length - 2) 0)
/-- the first k words of the schedule -/
def ws (s : List UInt8) : Nat → List Nat
  | 0 => []
  | k + 1 => ws s k ++ [nextW s (ws s k)]
theorem ws_length (s : List UInt8) (k : Nat) : (ws s k).length = k := by
  induction k with
  | zero => rfl
  | succ k ih => simp [ws, ih]
theorem nextW_lt (s : List UInt8) (l : List Nat) : nextW s l < 4294967296 := by
  unfold nextW
  split
  · exact be32_lt _ _
  · exact Nat.mod_lt _ (by decide)
theorem ws_lt (s : List UInt8) (k : Nat) : ∀ x ∈ ws s k, x < 4294967296 := by
  induction k with
  | zero => simp [ws]
  | succ k ih =>
    intro x hx
    simp only [ws, List.mem_append, List.mem_singleton] at hx
    rcases hx with h | h
    · exact ih x h
    · rw [h]; exact nextW_lt _ _
theorem getD_lt {l : List Nat} (h : ∀ x ∈ l, x < 4294967296) (j : Nat) : l.getD j 0 < 4294967296 := by
  rw [List.getD_eq_getElem?_getD]
  cases e : l[j]? with
  | none => simp
  | some v => simpa using h v (List.mem_of_getElem? e)

/-- words as cells -/
def arr (L : List Nat) : Array Value := (L.map fun n : Nat => Value.int .u32 (n : Int)).toArray
theorem arr_size (L : List Nat) : (arr L).size = L.length := by simp [arr]
theorem arr_get (L : List Nat) (j : Nat) (h : j < L.length) : (arr L)[j]? = some (Value.int .u32 ((L.getD j 0 : Nat) : Int)) := by
  simp [arr, h]
theorem arr_set (L : List Nat) (j x : Nat) : (arr L).setIfInBounds j (Value.int .u32 (x : Int)) = arr (L.set j x) := by
  simp [arr, List.map_set]
/-- the schedule's first k words, and noughts up to 64 -/
def wz (s : List UInt8) (k : Nat) : List Nat := ws s k ++ List.replicate (64 - k) 0
theorem wz_length (s : List UInt8) (k : Nat) (h : k ≤ 64) : (wz s k).length = 64 := by simp [wz, ws_length]; omega
theorem wz_getD (s : List UInt8) (k j : Nat) (h : j < k) : (wz s k).getD j 0 = (ws s k).getD j 0 := by
  unfold wz
  rw [List.getD_eq_getElem?_getD, List.getD_eq_getElem?_getD, List.getElem?_append_left (by rw [ws_length]; exact h)]
theorem wz_set (s : List UInt8) (k : Nat) (h : k < 64) : (wz s k).set k (nextW s (ws s k)) = wz s (k + 1) := by
  unfold wz
  rw [List.set_append_right _ _ (by rw [ws_length]; exact Nat.le_refl _), ws_length]
  rw [show 64 - k = (64 - (k + 1)) + 1 by omega, List.replicate_succ]
  simp [ws]
theorem wz_lt (s : List UInt8) (k : Nat) (j : Nat) : (wz s k).getD j 0 < 4294967296 := by
  apply getD_lt
  intro x hx
  simp only [wz, List.mem_append, List.mem_replicate] at hx
  rcases hx with h | h
  · exact ws_lt s k x h
  · rw [h.2]; decide
theorem wz_64 (s : List UInt8) : wz s 64 = ws s 64 := by simp [wz]
theorem wz_0 (s : List UInt8) : wz s 0 = List.replicate 64 0 := by simp [wz, ws]

theorem or4 (b0 b1 b2 b3 : Nat) (h0 : b0 < 256) (h1 : b1 < 256) (h2 : b2 < 256) (h3 : b3 < 256) :
    bits .or .u32 (bits .or .u32 (bits .or .u32 ((b0 : Int) * 16777216) ((b1 : Int) * 65536)) ((b2 : Int) * 256)) (b3 : Int) = (((((b0 * 256 + b1) * 256 + b2) * 256 + b3 : Nat)) : Int) := by
  rw [show ((b0 : Int) * 16777216) = ((b0 * 16777216 : Nat) : Int) by omega, show ((b1 : Int) * 65536) = ((b1 * 65536 : Nat) : Int) by omega, show ((b2 : Int) * 256) = ((b2 * 256 : Nat) : Int) by omega]
  rw [u32_or_nat _ _ (by omega) (by omega), nat_join 24 _ _ (by omega) (by omega)]
  rw [u32_or_nat _ _ (by omega) (by omega), nat_join 16 _ _ (by omega) (by omega)]
  rw [u32_or_nat _ _ (by omega) (by omega), nat_join 8 _ _ (by omega) (by omega)]
  omega

/-- the word that the program lays from four words before, in the walk's own spelling -/
theorem grow_eq (p16 p15 p7 p2 : Nat) (h15 : p15 < 4294967296) (h2 : p2 < 4294967296) :
    ((((p16 : Int) + bits .xor .u32 (bits .xor .u32 ((rotr p15 7 : Nat) : Int) ((rotr p15 18 : Nat) : Int)) ((p15 : Int) / 8)) % 4294967296 + (p7 : Int)) % 4294967296 + bits .xor .u32 (bits .xor .u32 ((rotr p2 17 : Nat) : Int) ((rotr p2 19 : Nat) : Int)) ((p2 : Int) / 1024)) % 4294967296 = ((grow p16 p15 p7 p2 : Nat) : Int) := by
  rw [show ((p15 : Int) / 8) = ((p15 / 2 ^ 3 : Nat) : Int) by omega, show ((p2 : Int) / 1024) = ((p2 / 2 ^ 10 : Nat) : Int) by omega]
  rw [u32_xor_nat _ _ (rotr_lt _ h15) (rotr_lt _ h15), u32_xor_nat _ _ (xor_lt (rotr_lt _ h15) (rotr_lt _ h15)) (by omega)]
  rw [u32_xor_nat _ _ (rotr_lt _ h2) (rotr_lt _ h2), u32_xor_nat _ _ (xor_lt (rotr_lt _ h2) (rotr_lt _ h2)) (by omega)]
  unfold grow sig0 sig1
  omega

/-- the constants -/
def K : List Nat := [1116352408, 1899447441, 3049323471, 3921009573, 961987163, 1508970993, 2453635748, 2870763221, 3624381080, 310598401, 607225278, 1426881987, 1925078388, 2162078206, 2614888103, 3248222580, 3835390401, 4022224774, 264347078, 604807628, 770255983, 1249150122, 1555081692, 1996064986, 2554220882, 2821834349, 2952996808, 3210313671, 3336571891, 3584528711, 113926993, 338241895, 666307205, 773529912, 1294757372, 1396182291, 1695183700, 1986661051, 2177026350, 2456956037, 2730485921, 2820302411, 3259730800, 3345764771, 3516065817, 3600352804, 4094571909, 275423344, 430227734, 506948616, 659060556, 883997877, 958139571, 1322822218, 1537002063, 1747873779, 1955562222, 2024104815, 2227730452, 2361852424, 2428436474, 2756734187, 3204031479, 3329325298]
theorem K_lt : ∀ x ∈ K, x < 4294967296 := by decide

/-- eight words -/
structure S8 where
  a : Nat
  b : Nat
  c : Nat
  d : Nat
  e : Nat
  f : Nat
  g : Nat
  h : Nat
def S8.list (s : S8) : List Nat := [s.a, s.b, s.c, s.d, s.e, s.f, s.g, s.h]
def S8.ok (s : S8) : Prop := s.a < 4294967296 ∧ s.b < 4294967296 ∧ s.c < 4294967296 ∧ s.d < 4294967296 ∧ s.e < 4294967296 ∧ s.f < 4294967296 ∧ s.g < 4294967296 ∧ s.h < 4294967296
def tOf (e f g h k w : Nat) : Nat :=
  ((((h + (rotr e 6 ^^^ rotr e 11 ^^^ rotr e 25)) % 4294967296 + ((e &&& f) ^^^ ((4294967295 - e) &&& g))) % 4294967296 + k) % 4294967296 + w) % 4294967296
def uOf (a b c : Nat) : Nat := ((rotr a 2 ^^^ rotr a 13 ^^^ rotr a 22) + ((a &&& b) ^^^ (a &&& c) ^^^ (b &&& c))) % 4294967296
/-- one round -/
def step (s : S8) (k w : Nat) : S8 :=
  ⟨(tOf s.e s.f s.g s.h k w + uOf s.a s.b s.c) % 4294967296, s.a, s.b, s.c, (s.d + tOf s.e s.f s.g s.h k w) % 4294967296, s.e, s.f, s.g⟩
/-- k rounds -/
def rounds (s : S8) (l : List Nat) : Nat → S8
  | 0 => s
  | k + 1 => step (rounds s l k) (K.getD k 0) (l.getD k 0)
/-- the words behind a block -/
def plus (s v : S8) : S8 :=
  ⟨(s.a + v.a) % 4294967296, (s.b + v.b) % 4294967296, (s.c + v.c) % 4294967296, (s.d + v.d) % 4294967296, (s.e + v.e) % 4294967296, (s.f + v.f) % 4294967296, (s.g + v.g) % 4294967296, (s.h + v.h) % 4294967296⟩
def mixed (s : S8) (l : List Nat) : S8 := plus s (rounds s l 64)
theorem step_ok {s : S8} (k w : Nat) (h : s.ok) : (step s k w).ok :=
  ⟨Nat.mod_lt _ (by decide), h.1, h.2.1, h.2.2.1, Nat.mod_lt _ (by decide), h.2.2.2.2.1, h.2.2.2.2.2.1, h.2.2.2.2.2.2.1⟩
theorem rounds_ok {s : S8} (l : List Nat) (h : s.ok) (k : Nat) : (rounds s l k).ok := by
  induction k with
  | zero => exact h
  | succ k ih => exact step_ok _ _ ih
theorem plus_ok (s v : S8) : (plus s v).ok :=
  ⟨Nat.mod_lt _ (by decide), Nat.mod_lt _ (by decide), Nat.mod_lt _ (by decide), Nat.mod_lt _ (by decide), Nat.mod_lt _ (by decide), Nat.mod_lt _ (by decide), Nat.mod_lt _ (by decide), Nat.mod_lt _ (by decide)⟩

theorem not_eq (e : Nat) (he : e < 4294967296) : 4294967295 ^^^ e = 4294967295 - e := by
  have h1 : (~~~ (BitVec.ofNat 32 e)).toNat = 4294967295 - e := by
    rw [BitVec.toNat_not, BitVec.toNat_ofNat, Nat.mod_eq_of_lt he]
  rw [BitVec.not_def, BitVec.toNat_xor, BitVec.toNat_allOnes, BitVec.toNat_ofNat, Nat.mod_eq_of_lt he] at h1
  exact h1
theorem max_u32 : IntKind.u32.max = ((4294967295 : Nat) : Int) := rfl
theorem xor3 (a b c : Nat) (ha : a < 4294967296) (hb : b < 4294967296) (hc : c < 4294967296) : bits .xor .u32 (bits .xor .u32 (a : Int) (b : Int)) (c : Int) = ((a ^^^ b ^^^ c : Nat) : Int) := by
  rw [u32_xor_nat _ _ ha hb, u32_xor_nat _ _ (xor_lt ha hb) hc]
theorem ch_eq (e f g : Nat) (he : e < 4294967296) (hf : f < 4294967296) (hg : g < 4294967296) :
    bits .xor .u32 (bits .and .u32 (e : Int) (f : Int)) (bits .and .u32 (bits .xor .u32 IntKind.u32.max (e : Int)) (g : Int)) = (((e &&& f) ^^^ ((4294967295 - e) &&& g) : Nat) : Int) := by
  rw [max_u32, u32_xor_nat _ _ (by decide) he, not_eq e he, u32_and_nat _ _ he hf, u32_and_nat _ _ (by omega) hg, u32_xor_nat _ _ (and_lt he) (and_lt (by omega))]
theorem maj_eq (a b c : Nat) (ha : a < 4294967296) (hb : b < 4294967296) (hc : c < 4294967296) :
    bits .xor .u32 (bits .xor .u32 (bits .and .u32 (a : Int) (b : Int)) (bits .and .u32 (a : Int) (c : Int))) (bits .and .u32 (b : Int) (c : Int)) = (((a &&& b) ^^^ (a &&& c) ^^^ (b &&& c) : Nat) : Int) := by
  rw [u32_and_nat _ _ ha hb, u32_and_nat _ _ ha hc, u32_and_nat _ _ hb hc, xor3 _ _ _ (and_lt ha) (and_lt ha) (and_lt hb)]
theorem first_eq (v : S8) (k w : Nat) (hv : v.ok) :
    ((v.h : Int) + bits .xor .u32 (bits .xor .u32 ((rotr v.e 6 : Nat) : Int) ((rotr v.e 11 : Nat) : Int)) ((rotr v.e 25 : Nat) : Int) +
      bits .xor .u32 (bits .and .u32 (v.e : Int) (v.f : Int)) (bits .and .u32 (bits .xor .u32 IntKind.u32.max (v.e : Int)) (v.g : Int)) + (k : Int) + (w : Int) +
      (bits .xor .u32 (bits .xor .u32 ((rotr v.a 2 : Nat) : Int) ((rotr v.a 13 : Nat) : Int)) ((rotr v.a 22 : Nat) : Int) +
        bits .xor .u32 (bits .xor .u32 (bits .and .u32 (v.a : Int) (v.b : Int)) (bits .and .u32 (v.a : Int) (v.c : Int))) (bits .and .u32 (v.b : Int) (v.c : Int)))) % 4294967296 = ((((tOf v.e v.f v.g v.h k w + uOf v.a v.b v.c) % 4294967296 : Nat)) : Int) := by
  obtain ⟨ha, hb, hc, hd, he, hf, hg, hh⟩ := hv
  rw [xor3 _ _ _ (rotr_lt _ he) (rotr_lt _ he) (rotr_lt _ he), ch_eq _ _ _ he hf hg, xor3 _ _ _ (rotr_lt _ ha) (rotr_lt _ ha) (rotr_lt _ ha), maj_eq _ _ _ ha hb hc]
  unfold tOf uOf
  omega
theorem fifth_eq (v : S8) (k w : Nat) (hv : v.ok) :
    ((v.d : Int) + ((v.h : Int) + bits .xor .u32 (bits .xor .u32 ((rotr v.e 6 : Nat) : Int) ((rotr v.e 11 : Nat) : Int)) ((rotr v.e 25 : Nat) : Int) +
      bits .xor .u32 (bits .and .u32 (v.e : Int) (v.f : Int)) (bits .and .u32 (bits .xor .u32 IntKind.u32.max (v.e : Int)) (v.g : Int)) + (k : Int) + (w : Int))) % 4294967296 = ((((v.d + tOf v.e v.f v.g v.h k w) % 4294967296 : Nat)) : Int) := by
  obtain ⟨ha, hb, hc, hd, he, hf, hg, hh⟩ := hv
  rw [xor3 _ _ _ (rotr_lt _ he) (rotr_lt _ he) (rotr_lt _ he), ch_eq _ _ _ he hf hg]
  unfold tOf
  omega
/-- words added one by one -/
def addTo (s v : List Nat) : Nat → List Nat
  | 0 => s
  | k + 1 => (addTo s v k).set k (((addTo s v k).getD k 0 + v.getD k 0) % 4294967296)
theorem addTo_length (s v : List Nat) (k : Nat) : (addTo s v k).length = s.length := by
  induction k with
  | zero => rfl
  | succ k ih => simp [addTo, ih]
theorem addTo_8 (s v : S8) : addTo s.list v.list 8 = (plus s v).list := rfl

/-- the block k of a text -/
def blk (t : List UInt8) (k : Nat) : List UInt8 := (t.drop (64 * k)).take 64
/-- the words behind a block -/
def chg1 (s : S8) (b : List UInt8) : S8 := mixed s (ws b 64)
/-- the words behind the first k blocks -/
def chg (s : S8) (t : List UInt8) : Nat → S8
  | 0 => s
  | k + 1 => chg1 (chg s t k) (blk t k)
theorem chg_ok {s : S8} (h : s.ok) (t : List UInt8) (k : Nat) : (chg s t k).ok := by
  cases k with
  | zero => exact h
  | succ k => exact plus_ok _ _

/-- the byte k of so many of a number, the highest one first -/
def nb (n many k : Nat) : UInt8 := UInt8.ofNat (n / 2 ^ (8 * (many - 1 - k)))
/-- so many bytes of a number -/
def bytesOf (n many : Nat) : List UInt8 := (List.range many).map (nb n many)
theorem nb_eq (n many k : Nat) : (((nb n many k).toNat : Nat) : Int) = (n : Int) / 2 ^ (8 * (many - 1 - k)) % 256 := by
  unfold nb
  rw [UInt8.toNat_ofNat', shr_eq]
  omega
end Sh
end Go.Proofs.YtlafdlcpelkdpaaGreatDoor
/- The rotation of a word, by the program and by the reference: both are the plain one. -/
namespace Go.Proofs.YtlafdlcpelkdpaaGreatDoor
open Go.RowKit
theorem ret_u32 {a b : Int} (h : a = b) : Ending.returned (.int .u32 a) = .returned (.int .u32 b) := by rw [h]
set_option maxHeartbeats 400000 in
theorem rot34 (x : Nat) (n : Int) (w : World) (hx : x < 4294967296) (h0 : 0 < n) (h1 : n < 32) :
    Calls Tryz.prog 93 #[.int .u32 x, .int .i64 (-n)] w fun e w' => e = .returned (.int .u32 (Sh.rotr x n.toNat : Nat)) ∧ w' = w := by
  have hm := Sh.mask31 n h0 h1
  go_enter Tryz.func93, Tryz.ntmps93
  go_wp2
  go_ret
  exact ⟨ret_u32 (Sh.rot_eq x n hx h0 h1), rfl⟩
set_option maxHeartbeats 400000 in
theorem rot31 (x : Nat) (n : Int) (w : World) (hx : x < 4294967296) (h0 : 0 < n) (h1 : n < 32) :
    Calls Tryz.prog 70 #[.int .u32 x, .int .i64 n] w fun e w' => e = .returned (.int .u32 (Sh.rotr x n.toNat : Nat)) ∧ w' = w := by
  go_enter Tryz.func70, Tryz.ntmps70
  go_wp2_with (go_at_call 93; refine (rot34 x n _ hx h0 h1).mono ?_; rintro e w' ⟨rfl, rfl⟩)
  go_ret
  exact ⟨rfl, rfl⟩
end Go.Proofs.YtlafdlcpelkdpaaGreatDoor
/- Small laws on blocks of words in memory: a cell of a row, a row behind a store, a whole row stored and read, what stays below. -/
namespace Go.Proofs.YtlafdlcpelkdpaaGreatDoor
open Go.RowKit
theorem cell_other {W : World} {b i j : Nat} (h : i ≠ j) (v : Value) : (W.setCell ⟨b, i, none⟩ v).cell? ⟨b, j, none⟩ = W.cell? ⟨b, j, none⟩ :=
  World.cell?_setCell_other _ ⟨b, i, none⟩ ⟨b, j, none⟩ _ (fun e => h (congrArg Addr.off e))
theorem row_cell {W : World} {b : Nat} {L : List Nat} {t : TypeId} {fr : Nat × Nat} (h : W.heap[b]? = some (.cells (Sh.arr L) t fr)) (j : Nat) (hj : j < L.length) :
    W.cell? ⟨b, j, none⟩ = some (.int .u32 ((L.getD j 0 : Nat) : Int)) := by
  rw [cell_of_row W b j _ t fr h]
  exact Sh.arr_get L j hj
theorem row_free {W : World} {b : Nat} {C : Array Value} {t : TypeId} (h : W.heap[b]? = some (.cells C t (0, 0))) (j : Nat) : W.frozen? ⟨b, j, none⟩ = false := by
  simp [World.frozen?, h]
theorem row_put {W : World} {b : Nat} {L : List Nat} {t : TypeId} (h : W.heap[b]? = some (.cells (Sh.arr L) t (0, 0))) (i x : Nat) :
    (W.setCell ⟨b, i, none⟩ (.int .u32 (x : Int))).heap[b]? = some (.cells (Sh.arr (L.set i x)) t (0, 0)) := by
  rw [heap_setCell_same W b i _ t _ h, Sh.arr_set]
theorem arr_one (L : List Nat) : (Sh.arr L).all (·.oneCell') = true := by
  rw [Array.all_eq_true]
  intro i hi
  simp [Sh.arr, Value.oneCell']
theorem row_there {W : World} {b n : Nat} {C : Array Value} {t : TypeId} (h : W.heap[b]? = some (.cells C t (0, 0))) (hn : n ≤ C.size) : W.there b 0 n := by
  intro j hj
  refine ⟨?_, ?_⟩
  · rw [cell_of_row W b _ C t _ h]
    simp; omega
  · exact row_free h _
theorem below_setCells {B b : Nat} (hb : B ≤ b) {A : World} : ∀ (vs : List Value) (o : Nat) {W : World}, Below B A W → Below B A (W.setCells b o vs)
  | [], _, _, h => h
  | v :: r, o, _, h => below_setCells hb r (o + 1) (h.setCell (p := ⟨b, o, none⟩) hb v)
theorem size_setCells' (b : Nat) : ∀ (vs : List Value) (o : Nat) (W : World), (W.setCells b o vs).heap.size = W.heap.size
  | [], _, _ => rfl
  | v :: r, o, W => by rw [World.setCells, size_setCells' b r]; simp
theorem heap_setCells_ne (b k : Nat) (hk : k ≠ b) : ∀ (vs : List Value) (o : Nat) (W : World), (W.setCells b o vs).heap[k]? = W.heap[k]?
  | [], _, _ => rfl
  | v :: r, o, W => by rw [World.setCells, heap_setCells_ne b k hk r]; exact heap_setCell_other _ _ _ _ hk
theorem heap_setCells_at (b : Nat) (t : TypeId) : ∀ (vs : List Value) (o : Nat) (W : World) (pre post : List Value), pre.length = o → vs.length = post.length →
    W.heap[b]? = some (.cells (pre ++ post).toArray t (0, 0)) → (W.setCells b o vs).heap[b]? = some (.cells (pre ++ vs).toArray t (0, 0))
  | [], o, W, pre, post, _, hl, h => by
    have : post = [] := List.eq_nil_of_length_eq_zero (by simpa using hl.symm)
    subst this
    exact h
  | v :: r, o, W, pre, [], _, hl, _ => by simp at hl
  | v :: r, o, W, pre, p :: post, ho, hl, h => by
    rw [World.setCells]
    have h1 : (W.setCell ⟨b, o, none⟩ v).heap[b]? = some (.cells ((pre ++ [v]) ++ post).toArray t (0, 0)) := by
      rw [heap_setCell_same W b o _ t v h]
      subst ho
      simp
    have := heap_setCells_at b t r (o + 1) _ (pre ++ [v]) post (by simp [ho]) (by simpa using hl) h1
    simpa using this
theorem row_stored {W : World} {b : Nat} {C : Array Value} {t : TypeId} (h : W.heap[b]? = some (.cells C t (0, 0))) (D : Array Value) (hd : D.size = C.size) :
    (W.setCells b 0 D.toList).heap[b]? = some (.cells D t (0, 0)) := by
  have := heap_setCells_at b t D.toList 0 W [] C.toList rfl (by simpa using hd) (by simpa using h)
  simpa using this
end Go.Proofs.YtlafdlcpelkdpaaGreatDoor
