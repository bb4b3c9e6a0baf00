/- Several texts, joined: MkC, MkD, MkE -/
import Derived.Test.YtggnfejjcgbebaaGreatDoorJIM
import Derived.Test.YtggnfejjcgbebaaGreatDoorShelf
import Derived.Shelf.SlicesE.Kit
import Derived.Lib.OwnBridge
import Derived.Deep.AppendLies
import Derived.Deep.RegionLaw
import Derived.Deep.CutRange
/- The greatest power of 2 below a number; the turns to a text, and to what was there. -/
namespace Go.Proofs.YtggnfejjcgbebaaGreatDoor
open Go.RowKit
theorem bitLen_log:∀x:Fin 1024,x.val=0∨Lib.bitLen x.val=Nat.log2 x.val+1:=by decide +kernel
theorem log_le:∀x:Fin 1024,Nat.log2 x.val≤9:=by decide +kernel
theorem pow_wrap:∀k:Fin 10,wrap64 ((2:Int) ^ k.val)=((2 ^ k.val:Nat):Int):=by decide +kernel
set_option maxHeartbeats 1000000 in
theorem half_c (n:Nat) (h2:2≤n) (hn:n≤1024) (w:World) :
    Calls Tryz.prog 141 #[.int .i64 (n:Int)] w fun e w'=>e=.returned (.int .i64 ((Mk.half n:Nat):Int))∧w=w':=by
  obtain ⟨k,hk⟩:∃k,k=Nat.log2 (n - 1):=⟨_,rfl⟩
  have hk9:k≤9:=by rw [hk];exact log_le ⟨n - 1,by omega⟩
  have hb:Lib.bitLen (n - 1)=k+1:=by
    have:=bitLen_log ⟨n - 1,by omega⟩
    rw [hk];rcases this with h | h
    · simp at h;omega
    · exact h
  have C:Hid (∀W,Calls Tryz.prog 154 #[.int .u64 ((n:Int) - 1)] W fun e w'=>e=.returned (.int .i64 ((k:Int)+1))∧W=w'):=fun W =>
    (Tryz.bits_Len ((n:Int) - 1) W (by omega) (by omega)).mono (fun e w' h=>by
      rw [show ((n:Int) - 1).toNat=n - 1 by omega,hb] at h
      exact ⟨h.1.trans (by simp),h.2.symm⟩)
  have HH:Hid (Mk.half n=2 ^ k):=by show _=_;rw [Mk.half,hk]
  clear hk hb
  go_enter Tryz.func141,Tryz.ntmps141
  go_wp2_with fail
  refine (C.out _).mono ?_
  rintro e w1 ⟨rfl,rfl⟩
  go_wp2
  go_ret
  refine ⟨?_,rfl⟩
  rw [HH.out]
  exact congrArg (fun z=>Ending.returned (.int .i64 z)) (pow_wrap ⟨k,by omega⟩)
end Go.Proofs.YtggnfejjcgbebaaGreatDoor
/- Rows that are turned round; turns in the order in which digests are put together. -/
namespace Go.Proofs.YtggnfejjcgbebaaGreatDoor
open Go.RowKit
open Go.Sort (Holds putRow)
def scs (l:List (List UInt8)):List Value:=l.map encS
theorem scs_length (l:List (List UInt8)):(scs l).length=l.length:=by simp [scs]
theorem own_sl {w:World} {base:Nat} {v:Value} {l:List (List UInt8)} (h:w.ownsRow base 9 1 v l.length (scs l)):Sl w w.heap.size v l:=by
  rcases h.2 with ⟨rfl,h2⟩ | ⟨g,cap,cur,rfl,hg,hc,h3,h4,h5,h6⟩
  · exact .inl ⟨List.eq_nil_of_length_eq_zero h2,none,0,rfl⟩
  · refine .inr ⟨g,0,cap,rfl,(Array.getElem?_eq_some_iff.1 hc).1,fun k x hk=>?_⟩
    have hkl:=(List.getElem?_eq_some_iff.1 hk).1
    rw [Nat.zero_add,h.cellAt k (by omega)]
    simp [scs,hk]
theorem own_stays {w w':World} {base t sz n:Nat} {v:Value} {xs:List Value} (h:w.ownsRow base t sz v n xs) (hb:Below w.heap.size w w'):w'.ownsRow base t sz v n xs:=by
  refine ⟨h.1,?_⟩
  rcases h.2 with h2 | ⟨g,cap,cur,h1,hg,hc,h3⟩
  · exact .inl h2
  · exact .inr ⟨g,cap,cur,h1,hg,(hb.block g (Array.getElem?_eq_some_iff.1 hc).1).trans hc,h3⟩
end Go.Proofs.YtggnfejjcgbebaaGreatDoor
/- What a text and its path make, from the leaf up. -/
namespace Go.Proofs.YtggnfejjcgbebaaGreatDoor
open Go.RowKit
attribute [local go_sem ↓] Go.wp_at_zero Go.wp_at_succ
namespace Mk
end Mk
theorem own_mono {w:World} {base base' t sz n:Nat} {v:Value} {xs:List Value} (h:w.ownsRow base t sz v n xs) (hb:base'≤base):w.ownsRow base' t sz v n xs:=by
  refine ⟨h.1,?_⟩
  rcases h.2 with h2 | ⟨g,cap,cur,h1,hg,h3⟩
  · exact .inl h2
  · exact .inr ⟨g,cap,cur,h1,by omega,h3⟩
end Go.Proofs.YtggnfejjcgbebaaGreatDoor
