/- Several texts, joined: BinCur, BinCT, BinLS, VKept -/
import Derived.Test.YtggnfejjcgbebaaGreatDoorJCM
import Derived.Test.YtggnfejjcgbebaaGreatDoorJDM
import Derived.Test.YtggnfejjcgbebaaGreatDoorRepAM
import Derived.Test.YtggnfejjcgbebaaGreatDoorJNM
/- A cursor in memory: what is left of a text, and whether it was not as it must be; fail, take, number, unfolded. -/
namespace Go.Proofs.YtggnfejjcgbebaaGreatDoor
open Go.RowKit
open Vl (V)
structure Cur (c:Nat) (s:ByteArray) (bad:Bool) (w:World):Prop where
  lt:c<w.heap.size
  row:w.heap[c]?=some (.cells #[.string s,.bool bad] 118 (0,0))
structure Curw (c:Nat) (w w':World):Prop where
  os:w'.os=w.os
  tape:w'.tape=w.tape
  output:w'.output=w.output
  size:w.heap.size≤w'.heap.size
  block:∀k,k<w.heap.size→k≠c→w'.heap[k]?=w.heap[k]?
theorem Curw.refl (c:Nat) (w:World):Curw c w w:=⟨rfl,rfl,rfl,Nat.le_refl _,fun _ _ _=>rfl⟩
theorem Curw.trans {c:Nat} {w w' w'':World} (h:Curw c w w') (k:Curw c w' w''):Curw c w w'' :=
  ⟨k.os.trans h.os,k.tape.trans h.tape,k.output.trans h.output,Nat.le_trans h.size k.size,fun i hi hc=>(k.block i (Nat.lt_of_lt_of_le hi h.size) hc).trans (h.block i hi hc)⟩
theorem Curw.of {c:Nat} {w w':World} (h:Below w.heap.size w w'):Curw c w w':=⟨h.os,h.tape,h.output,h.size,fun k hk _=>h.block k hk⟩
theorem Curw.below {c B:Nat} {w w':World} (h:Curw c w w') (hB:B≤c) (hs:B≤w.heap.size):Below B w w':=⟨h.os,h.tape,h.output,h.size,fun k hk=>h.block k (by omega) (by omega)⟩
theorem Curw.set {c o:Nat} {w w':World} (h:Curw c w w') (v:Value):Curw c w (w'.setCell ⟨c,o,none⟩ v) :=
  ⟨h.os,h.tape,h.output,by simpa using h.size,fun k hk hc=>(heap_setCell_other _ _ _ _ hc).trans (h.block k hk hc)⟩
theorem Cur.call {c:Nat} {s:ByteArray} {bad:Bool} {w w':World} (h:Cur c s bad w) (b:Below w.heap.size w w'):Cur c s bad w' :=
  ⟨Nat.lt_of_lt_of_le h.lt b.size,(b.block c h.lt).trans h.row⟩
theorem Cur.cells {c:Nat} {s:ByteArray} {bad:Bool} {w:World} (h:Cur c s bad w):w.cell? ⟨c,0,none⟩=some (.string s)∧w.cell? ⟨c,1,none⟩=some (.bool bad)∧w.frozen? ⟨c,0,none⟩=false∧w.frozen? ⟨c,1,none⟩=false :=
  ⟨block_cells h.row 0 _ rfl,block_cells h.row 1 _ rfl,row_freeV h.row 0,row_freeV h.row 1⟩
theorem Cur.set0 {c:Nat} {s:ByteArray} {bad:Bool} {w:World} (h:Cur c s bad w) (t:ByteArray):Cur c t bad (w.setCell ⟨c,0,none⟩ (.string t)) :=
  ⟨by simpa using h.lt,heap_setCell_same w c 0 _ 118 (.string t) h.row⟩
theorem Cur.set1 {c:Nat} {s:ByteArray} {bad:Bool} {w:World} (h:Cur c s bad w) (b:Bool):Cur c s b (w.setCell ⟨c,1,none⟩ (.bool b)) :=
  ⟨by simpa using h.lt,heap_setCell_same w c 1 _ 118 (.bool b) h.row⟩
theorem fail86 (c:Nat) (s:ByteArray) (bad:Bool) (w:World) (h:Cur c s bad w) :
    Calls Tryz.prog 132 #[.pointer (some ⟨c,0,none⟩)] w fun e w'=>e=.returned (.tuple #[])∧Cur c ⟨#[]⟩ true w'∧Curw c w w':=by
  obtain ⟨c0,c1,f0,f1⟩:=h.cells
  have H:Hid (Cur c ⟨#[]⟩ true ((w.setCell ⟨c,0,none⟩ (.string ⟨#[]⟩)).setCell ⟨c,1,none⟩ (.bool true))∧Curw c w ((w.setCell ⟨c,0,none⟩ (.string ⟨#[]⟩)).setCell ⟨c,1,none⟩ (.bool true))):=⟨(h.set0 ⟨#[]⟩).set1 true,((Curw.refl c w).set _).set _⟩
  clear h
  go_enter Tryz.func132,Tryz.ntmps132
  go_wp2
  go_end0
  exact ⟨rfl,H.out⟩
namespace Bn
theorem extract_take (s:ByteArray) (n:Nat):(s.extract 0 n).data.toList=s.data.toList.take n:=by
  simp [ByteArray.data_extract]
theorem extract_drop (s:ByteArray) (n:Nat):(s.extract n s.size).data.toList=s.data.toList.drop n:=by
  have e:s.size=s.data.toList.length:=Lib.size_eq s
  rw [e]
  simp only [ByteArray.data_extract,Array.toList_extract,List.extract_eq_take_drop]
  exact List.take_of_length_le (by simp)
theorem slice_u (s:ByteArray) (j:Int) (h0:0≤j) (h2:j≤s.size) (wx:World) :
    (Instr.slice 9 (.string s) none (some (.int .u64 j)) none).run Tryz.prog wx=.ok (.string (s.extract 0 j.toNat)) wx:=by
  rw [run_slice_string_to_if (P:=Tryz.prog) wx 9 s .u64 j Tryz.underlying9,if_pos ⟨h0,h2⟩]
end Bn
set_option maxHeartbeats 1000000 in
theorem take78 (c:Nat) (s:ByteArray) (hs:s.size≤4294967296) (bad:Bool) (n:Nat) (hn:n<18446744073709551616) (w:World) (h:Cur c s bad w) :
    Calls Tryz.prog 124 #[.pointer (some ⟨c,0,none⟩),.int .u64 (n:Int)] w fun e w'=>Curw c w w'∧((s.size<n∧e=.returned (.string ⟨#[]⟩)∧Cur c ⟨#[]⟩ true w')∨(n≤s.size∧e=.returned (.string (s.extract 0 n))∧Cur c (s.extract n s.size) bad w')):=by
  obtain ⟨c0,c1,f0,f1⟩:=h.cells
  have q1:(s.size:Int)<18446744073709551616:=by omega
  by_cases hlt:s.size<n
  · have C86:Hid (Calls Tryz.prog 132 #[.pointer (some ⟨c,0,none⟩)] w fun e w'=>e=.returned (.tuple #[])∧Cur c ⟨#[]⟩ true w'∧Curw c w w'):=fail86 c s bad w h
    clear h
    go_enter Tryz.func124,Tryz.ntmps124
    go_wp2_with (first
      | (go_at_call 132;refine C86.out.mono ?_;rintro e w2 ⟨rfl,h1,h2⟩
         have H1:Hid (Cur c ⟨#[]⟩ true w2):=h1
         have H2:Hid (Curw c w w2):=h2
         clear h1 h2))
    go_ret
    exact ⟨H2.out,Or.inl ⟨hlt,rfl,H1.out⟩⟩
  · have S1:=Bn.slice_u s (n:Int) (by omega) (by omega)
    have H:Hid (Cur c (s.extract n s.size) bad (w.setCell ⟨c,0,none⟩ (.string (s.extract n s.size)))∧Curw c w (w.setCell ⟨c,0,none⟩ (.string (s.extract n s.size)))):=⟨h.set0 _,(Curw.refl c w).set _⟩
    clear h
    go_enter Tryz.func124,Tryz.ntmps124
    go_wp2
    go_ret
    exact ⟨H.out.2,Or.inr ⟨by omega,rfl,H.out.1⟩⟩
set_option maxHeartbeats 1000000 in
theorem number80 (c:Nat) (s:ByteArray) (hs:s.size≤4294967296) (bad:Bool) (w:World) (h:Cur c s bad w) :
    Calls Tryz.prog 126 #[.pointer (some ⟨c,0,none⟩)] w fun e w'=>Curw c w w'∧∃(n:Nat) (s':ByteArray) (bad':Bool),n<18446744073709551616∧e=.returned (.int .u64 (n:Int))∧Cur c s' bad' w' ∧
      ((s.data.toList=Bn.num n++s'.data.toList∧bad'=bad)∨(n=0∧s'=⟨#[]⟩∧bad'=true∧Bn.noNum s.data.toList)):=by
  have C23:Hid (Calls Tryz.prog 150 #[.string s] w fun e w'=>Bn.Reads s.data.toList e∧Below w.heap.size w w'):=read23 s w
  obtain ⟨c0,c1,f0,f1⟩:=h.cells
  have H:Hid (Cur c s bad w):=h
  have hsl:s.size=s.data.toList.length:=Lib.size_eq s
  clear h
  by_cases hnum:∃n,n<18446744073709551616∧Bn.num n <+: s.data.toList
  · obtain ⟨n,hn,hp⟩:=hnum
    obtain ⟨r,hr⟩:=hp
    obtain ⟨m,hm⟩:∃m,m=(Bn.num n).length:=⟨_,rfl⟩
    have hms:m≤s.size:=by rw [hsl,←hr,List.length_append];omega
    have D23:Hid (Calls Tryz.prog 150 #[.string s] w fun e w'=>e=.returned (.tuple #[.int .u64 (n:Int),.int .i64 (m:Int),.int .i64 0])∧Below w.heap.size w w'):=C23.out.mono (fun e w' ⟨h1,h2⟩=>by
      refine ⟨?_,h2⟩
      rcases h1 with ⟨n',hn',hp',e'⟩ | ⟨hno,_⟩
      · obtain rfl:=Bn.num_prefix_eq hp' (hr ▸ List.prefix_append _ _)
        rw [e',hm]
      · exact absurd (hr ▸ List.prefix_append _ _) (hno n hn))
    have HD:Hid (s.data.toList=Bn.num n++(s.extract m s.size).data.toList):=by
      show _=_
      rw [Bn.extract_drop,←hr,hm,List.drop_left]
    have C78:Hid (∀W,Cur c s bad W→Calls Tryz.prog 124 #[.pointer (some ⟨c,0,none⟩),.int .u64 (m:Int)] W fun e w'=>e=.returned (.string (s.extract 0 m))∧Curw c W w'∧Cur c (s.extract m s.size) bad w'):=fun W hW=>(take78 c s hs bad m (by omega) W hW).mono (fun e w' ⟨h1,h2⟩=>by
      rcases h2 with ⟨h3,_⟩ | ⟨_,h4,h5⟩
      · omega
      · exact ⟨h4,h1,h5⟩)
    have q1:(m:Int)<18446744073709551616:=by omega
    have HN:Hid (n<18446744073709551616):=hn
    clear C23 hr hm hsl hms hs
    go_enter Tryz.func126,Tryz.ntmps126
    go_wp2_with (first
      | (go_at_call 150;refine D23.out.mono ?_;rintro e w2 ⟨rfl,hb⟩
         have H2:Hid (Cur c s bad w2):=H.out.call hb
         have K2:Hid (Curw c w w2):=Curw.of hb
         clear hb)
      | (go_at_call 124;refine (C78.out _ H2.out).mono ?_;rintro e w3 ⟨rfl,h1,h2⟩
         have H3:Hid (Cur c (s.extract m s.size) bad w3):=h2
         have K3:Hid (Curw c w w3):=K2.out.trans h1
         clear h1 h2))
    go_ret
    exact ⟨K3.out,n,_,bad,HN.out,rfl,H3.out,Or.inl ⟨HD.out,rfl⟩⟩
  · have HNO:Hid (Bn.noNum s.data.toList):=fun n hn hp=>hnum ⟨n,hn,hp⟩
    have D23:Hid (Calls Tryz.prog 150 #[.string s] w fun e w'=>e=.returned (.tuple #[.int .u64 0,.int .i64 0,.int .i64 11])∧Below w.heap.size w w'):=C23.out.mono (fun e w' ⟨h1,h2⟩=>by
      refine ⟨?_,h2⟩
      rcases h1 with ⟨n',hn',hp',e'⟩ | ⟨_,e'⟩
      · exact absurd ⟨n',hn',hp'⟩ hnum
      · exact e')
    have C86:Hid (∀W,Cur c s bad W→Calls Tryz.prog 132 #[.pointer (some ⟨c,0,none⟩)] W fun e w'=>e=.returned (.tuple #[])∧Cur c ⟨#[]⟩ true w'∧Curw c W w'):=fun W hW=>fail86 c s bad W hW
    have C78:Hid (∀W,Cur c ⟨#[]⟩ true W→Calls Tryz.prog 124 #[.pointer (some ⟨c,0,none⟩),.int .u64 0] W fun e w'=>e=.returned (.string ⟨#[]⟩)∧Curw c W w'∧Cur c ⟨#[]⟩ true w'):=fun W hW=>(take78 c ⟨#[]⟩ (by decide) true 0 (by omega) W hW).mono (fun e w' ⟨h1,h2⟩=>by
      rcases h2 with ⟨h3,_⟩ | ⟨_,h4,h5⟩
      · omega
      · exact ⟨h4,h1,h5⟩)
    clear C23 hsl hs hnum
    go_enter Tryz.func126,Tryz.ntmps126
    go_wp2_with (first
      | (go_at_call 150;refine D23.out.mono ?_;rintro e w2 ⟨rfl,hb⟩
         have H2:Hid (Cur c s bad w2):=H.out.call hb
         have K2:Hid (Curw c w w2):=Curw.of hb
         clear hb)
      | (go_at_call 132;refine (C86.out _ H2.out).mono ?_;rintro e w3 ⟨rfl,h1,h2⟩
         have H3:Hid (Cur c ⟨#[]⟩ true w3):=h1
         have K3:Hid (Curw c w w3):=K2.out.trans h2
         clear h1 h2)
      | (go_at_call 124;refine (C78.out _ H3.out).mono ?_;rintro e w4 ⟨rfl,h1,h2⟩
         have H4:Hid (Cur c ⟨#[]⟩ true w4):=h2
         have K4:Hid (Curw c w w4):=K3.out.trans h1
         clear h1 h2))
    go_ret
    exact ⟨K4.out,0,_,true,by omega,rfl,H4.out,Or.inr ⟨rfl,rfl,rfl,HNO.out⟩⟩
def Bn.zag (n:Nat):Int:=if n % 2=0 then ((n / 2:Nat):Int) else -((n / 2:Nat):Int) - 1
theorem Bn.zag_fold {n:Nat} (h:n<18446744073709551616):Bn.fold (Bn.zag n)=n∧-9223372036854775808≤Bn.zag n∧Bn.zag n≤9223372036854775807:=by
  unfold Bn.zag Bn.fold
  split<;>split<;>omega
theorem Bn.zag_eq {n:Nat} (hn:n<18446744073709551616):bits .xor .i64 ((n:Int) / 2) (wrap64 (-wrap64 (bits .and .u64 (n:Int) 1)))=Bn.zag n:=by
  have e1:bits .and .u64 (n:Int) 1=((n % 2:Nat):Int):=by
    rw [show (1:Int)=((1:Nat):Int) from rfl,u64_and_nat n 1 hn (by decide),nat_mask1]
  have e2:(n:Int) / 2=((n / 2:Nat):Int):=by omega
  rw [e1,e2]
  have hb:∀x y:Int,bits .xor .i64 x y=IntKind.i64.wrap ((BitVec.ofInt 64 x ^^^ BitVec.ofInt 64 y).toNat:Int):=fun x y=>rfl
  rw [Bn.zag]
  rcases Nat.mod_two_eq_zero_or_one n with h | h
  · rw [if_pos h,h]
    have e3:wrap64 (-wrap64 ((0:Nat):Int))=((0:Nat):Int):=by unfold wrap64;omega
    rw [e3,hb,BitVec.toNat_xor,ofInt_u64 _ (by omega),ofInt_u64 _ (by omega),Nat.xor_zero,IntKind.wrap_i64]
    omega
  · rw [if_neg (by omega),h]
    have e3:wrap64 (-wrap64 ((1:Nat):Int))=-1:=by unfold wrap64;omega
    have e4:(BitVec.ofInt 64 (-1)).toNat=18446744073709551615:=by decide
    rw [e3,hb,BitVec.toNat_xor,ofInt_u64 _ (by omega),e4,Bn.xor_ones _ (by omega),IntKind.wrap_i64]
    omega
theorem unfolded79 (n:Nat) (hn:n<18446744073709551616) (w:World) :
    Calls Tryz.prog 125 #[.int .u64 (n:Int)] w fun e w'=>e=.returned (.int .i64 (Bn.zag n))∧w'=w:=by
  go_enter Tryz.func125,Tryz.ntmps125
  go_wp2
  go_ret
  refine ⟨?_,rfl⟩
  rw [←Bn.zag_eq hn]
  rfl
end Go.Proofs.YtggnfejjcgbebaaGreatDoor
/- The cursor's text, walked. -/
namespace Go.Proofs.YtggnfejjcgbebaaGreatDoor
open Go.RowKit
open Vl (V)
theorem Bn.text_of {s:ByteArray} {n:Nat} {r:ByteArray} (h:s.data.toList=Bn.num n++r.data.toList) (hn:n≤r.size):s.data.toList=Bn.text (r.extract 0 n)++(r.extract n r.size).data.toList∧(r.extract 0 n).size=n:=by
  have e1:(r.extract 0 n).size=n:=by
    rw [Lib.size_eq,Bn.extract_take,List.length_take,←Lib.size_eq];omega
  refine ⟨?_,e1⟩
  rw [Bn.text,e1,Bn.extract_take,Bn.extract_drop,List.append_assoc,List.take_append_drop]
  exact h
set_option maxHeartbeats 2000000 in
set_option maxRecDepth 10000 in
theorem text81 (c:Nat) (s:ByteArray) (hs:s.size≤65536) (bad:Bool) (w:World) (h:Cur c s bad w) :
    Calls Tryz.prog 127 #[.pointer (some ⟨c,0,none⟩)] w fun e w'=>Curw c w w'∧∃(t s':ByteArray) (bad':Bool),t.size≤65536∧e=.returned (.string t)∧Cur c s' bad' w' ∧
      ((s.data.toList=Bn.text t++s'.data.toList∧bad'=bad)∨(s'=⟨#[]⟩∧bad'=true∧Bn.noText s.data.toList)):=by
  have C80:Hid (∀W,Below w.heap.size w W→Calls Tryz.prog 126 #[.pointer (some ⟨c,0,none⟩)] W fun e w'=>Curw c w w'∧∃(n:Nat) (s':ByteArray) (bad':Bool),n<18446744073709551616∧e=.returned (.int .u64 (n:Int))∧Cur c s' bad' w' ∧
      ((s.data.toList=Bn.num n++s'.data.toList∧bad'=bad)∨(n=0∧s'=⟨#[]⟩∧bad'=true∧Bn.noNum s.data.toList))):=fun W hW=>(number80 c s (by omega) bad W (h.call hW)).mono (fun e w' ⟨h1,h2⟩=>⟨(Curw.of hW).trans h1,h2⟩)
  have C78:Hid (∀(n:Nat) (s':ByteArray) (bad':Bool) W,n<18446744073709551616→Cur c s' bad' W→((s.data.toList=Bn.num n++s'.data.toList∧bad'=bad)∨(n=0∧s'=⟨#[]⟩∧bad'=true∧Bn.noNum s.data.toList))→Calls Tryz.prog 124 #[.pointer (some ⟨c,0,none⟩),.int .u64 (n:Int)] W fun e w'=>Curw c W w'∧∃(t s2:ByteArray) (bad2:Bool),t.size≤65536∧e=.returned (.string t)∧Cur c s2 bad2 w' ∧
      ((s.data.toList=Bn.text t++s2.data.toList∧bad2=bad)∨(s2=⟨#[]⟩∧bad2=true∧Bn.noText s.data.toList))):=fun n s' bad' W hn hW hor=>by
    have hs':s'.size≤s.size:=by
      rcases hor with ⟨e,_⟩ | ⟨_,e,_⟩
      · rw [Lib.size_eq,Lib.size_eq,e,List.length_append];omega
      · rw [e];exact Nat.zero_le _
    refine (take78 c s' (by omega) bad' n hn W hW).mono (fun e w' ⟨h1,h2⟩=>⟨h1,?_⟩)
    rcases h2 with ⟨h3,h4,h5⟩ | ⟨h3,h4,h5⟩
    · refine ⟨_,_,_,by decide,h4,h5,Or.inr ⟨rfl,rfl,?_⟩⟩
      rcases hor with ⟨e,_⟩ | ⟨e,_⟩
      · rw [e];exact Bn.noText_short (by rw [←Lib.size_eq];exact h3)
      · omega
    · refine ⟨_,_,_,?_,h4,h5,?_⟩
      · rw [Lib.size_eq,Bn.extract_take,List.length_take,←Lib.size_eq];omega
      · rcases hor with ⟨e,e2⟩ | ⟨e,e2,e3,e4⟩
        · exact Or.inl ⟨(Bn.text_of e h3).1,e2⟩
        · exact Or.inr ⟨by rw [e,e2];rfl,e3,Bn.noText_num e4⟩
  have C60:Hid (∀(t:ByteArray) W,t.size≤65536→Calls Tryz.prog 77 #[.string t] W fun e w'=>e=.returned (.string t)∧Below W.heap.size W w'):=fun t W ht=>text50 t W (by omega)
  clear h hs
  go_enter Tryz.func127,Tryz.ntmps127
  go_wp2
  go_region_law (first
    | (go_simp;go_at_call 126;refine (C80.out _ ?_).mono ?_;(first | exact Below.refl _ _ | exact (Below.refl _ _).drew);rintro e w2 ⟨k1,n,s1,b1,hn,rfl,h1,h2⟩
       have H1:Hid (Cur c s1 b1 w2):=h1
       have H2:Hid ((s.data.toList=Bn.num n++s1.data.toList∧b1=bad)∨(n=0∧s1=⟨#[]⟩∧b1=true∧Bn.noNum s.data.toList)):=h2
       have K1:Hid (Curw c w w2):=k1
       have HN:Hid (n<18446744073709551616):=hn
       clear h1 h2 k1 hn)
    | (go_simp;go_at_call 124;refine (C78.out _ _ _ _ HN.out H1.out H2.out).mono ?_;rintro e w3 ⟨k1,t,s2,b2,ht,rfl,h1,h2⟩
       have H3:Hid (Cur c s2 b2 w3):=h1
       have H4:Hid ((s.data.toList=Bn.text t++s2.data.toList∧b2=bad)∨(s2=⟨#[]⟩∧b2=true∧Bn.noText s.data.toList)):=h2
       have K2:Hid (Curw c w w3):=K1.out.trans k1
       have HT:Hid (t.size≤65536):=ht
       clear h1 h2 k1 ht)
    | (go_simp;go_at_call 77;refine (C60.out _ _ HT.out).mono ?_;rintro e w4 ⟨rfl,hb⟩
       have H5:Hid (Cur c s2 b2 w4):=H3.out.call hb
       have K3:Hid (Curw c w w4):=K2.out.trans (Curw.of hb)
       clear hb))
  all_goals
    go_wp2
    go_ret
    exact ⟨K3.out,t,s2,b2,HT.out,rfl,H5.out,H4.out⟩
end Go.Proofs.YtggnfejjcgbebaaGreatDoor
/- A list that is read part by part: the variable, its row, and what the parts are. -/
namespace Go.Proofs.YtggnfejjcgbebaaGreatDoor
open Go.RowKit
open Vl (V)
def PV (s:ByteArray) (x:V) (s':ByteArray) (bad:Bool):Prop:=(bad=false∧Bn.fit x∧s.data.toList=Bn.bytes x++s'.data.toList)∨(bad=true∧s'=⟨#[]⟩∧Bn.noV s.data.toList)
structure LSv (w0 W:World) (c B v:Nat) (lv:Value) (l:List V):Prop where
  keep:Curw c w0 W
  cl:c<w0.heap.size
  hB:w0.heap.size≤B
  hv:B+1<v
  box:W.heap[B]?=some (.cells #[.pointer (some ⟨c,0,none⟩)] 166 (0,0))
  res:Z6 W (B+1)
  row:Row6 W v (.int .u8 5) (.bool false) (.int .i64 0) (.string ⟨#[]⟩) lv (.slice none 0 0)
  parts:∃cs,W.ownsRow (v+1) 32 6 lv l.length cs∧EL W (fun g=>v+1≤g∧some g≠lv.ownBlock∧g<W.heap.size) l cs
theorem own_keep {W W':World} {B n size:Nat} {t:TypeId} {v:Value} {L:List Value} (h:W.ownsRow B t size v n L) (hb:∀g,B≤g→g<W.heap.size→W'.heap[g]?=W.heap[g]?):W'.ownsRow B t size v n L:=by
  refine ⟨h.1,?_⟩
  rcases h.2 with h1 | ⟨g,cap,cur,e,h2,h3,h4⟩
  · exact Or.inl h1
  · exact Or.inr ⟨g,cap,cur,e,h2,(hb g h2 (Array.getElem?_eq_some_iff.1 h3).1).trans h3,h4⟩
theorem Row6.keep {W W':World} {g:Nat} {v0 v1 v2 v3 v4 v5:Value} (h:Row6 W g v0 v1 v2 v3 v4 v5) (hs:W.heap.size≤W'.heap.size) (hb:W'.heap[g]?=W.heap[g]?):Row6 W' g v0 v1 v2 v3 v4 v5:=⟨Nat.lt_of_lt_of_le h.1 hs,hb.trans h.2⟩
theorem LSv.call {w0 W W':World} {c B v:Nat} {lv:Value} {l:List V} (h:LSv w0 W c B v lv l) (k:Curw c W W'):LSv w0 W' c B v lv l:=by
  obtain ⟨cs,h1,h2⟩:=h.parts
  have a1:=h.cl
  have a2:=h.hB
  have a3:=h.hv
  have a4:=h.row.1
  refine ⟨h.keep.trans k,h.cl,h.hB,h.hv,(k.block B (by omega) (by omega)).trans h.box,h.res.keep k.size (k.block _ (by omega) (by omega)),h.row.keep k.size (k.block _ (by omega) (by omega)),cs,own_keep h1 (fun g hg hl=>k.block g hl (by omega)),?_⟩
  exact EL.stays (fun g hg=>k.block g hg.2.2 (by omega)) (fun g hg=>⟨hg.1,hg.2.1,Nat.lt_of_lt_of_le hg.2.2 k.size⟩) _ _ h2
theorem own_last {W:World} {base gg n cap size:Nat} {t:TypeId} {xs zs ds:List Value} (h:W.ownsRow base t size (.slice (some ⟨gg,0,none⟩) (n+1) cap) (n+1) (xs++zs)) (hx:xs.length=n*size) (hz:zs.length=size) (hd:ds.length=size) :
    (W.setCells gg (n*size) ds).ownsRow base t size (.slice (some ⟨gg,0,none⟩) (n+1) cap) (n+1) (xs++ds):=by
  refine ⟨by have:=h.1;rw [List.length_append] at this ⊢;omega,?_⟩
  rcases h.2 with ⟨e,_⟩ | ⟨g,cap',cur,e,h1,h2,h3,h4,h5,h6⟩
  · cases e
  · injection e with e1 e2 e3
    injection e1 with e1
    injection e1 with e1 _ _
    subst e1 e3
    have h6':(n+1)*size=n*size+size:=by rw [Nat.add_mul,Nat.one_mul]
    have hle:n*size+ds.length≤cur.size:=by
      have:(n+1)*size≤cap*size:=Nat.mul_le_mul_right _ h3
      omega
    refine Or.inr ⟨gg,cap,putAll cur (n*size) ds,rfl,h1,heap_setCells_put gg t ds (n*size) W cur h2,h3,h4,by rw [putAll_size];exact h5,?_⟩
    apply List.ext_getElem?
    intro i
    by_cases hi:i<n*size
    · rw [List.getElem?_take_of_lt (by omega),Array.getElem?_toList,putAll_other ds cur (n*size) i (Or.inl hi),List.getElem?_append_left (by omega)]
      have this:(cur.toList.take ((n+1)*size))[i]?=(xs++zs)[i]?:=by rw [h6]
      rw [List.getElem?_take_of_lt (by omega),Array.getElem?_toList,List.getElem?_append_left (by omega)] at this
      exact this
    · by_cases hi2:i<n*size+size
      · obtain ⟨q,rfl⟩:∃q,i=n*size+q:=⟨i - n*size,by omega⟩
        have hq:q<ds.length:=by omega
        rw [List.getElem?_take_of_lt (by omega),Array.getElem?_toList,putAll_at ds cur (n*size) q _ hle (List.getElem?_eq_getElem hq),List.getElem?_append_right (by omega),hx]
        rw [show n*size+q - n*size=q by omega,List.getElem?_eq_getElem hq]
      · rw [List.getElem?_eq_none (by rw [List.length_take];omega),List.getElem?_eq_none (by rw [List.length_append];omega)]
theorem setCells_block {W:World} {gg p k:Nat} (hk:k≠gg) (ds:List Value):(W.setCells gg p ds).heap[k]?=W.heap[k]?:=heap_setCells_neV gg k hk ds p W
set_option maxHeartbeats 2000000 in
theorem LSv.next {w0 W w3 w4 w5:World} {c B v n lc:Nat} {la:Option Addr} {l:List V} {x:V} {s':ByteArray} {bad':Bool} {d0 d1 d2 d3 d4 d5:Value} {gg cap:Nat} {cs zs:List Value}
    (h:LSv w0 W c B v (.slice la n lc) l) (hl:n=l.length) (ho:W.ownsRow (v+1) 32 6 (.slice la n lc) n cs) (he:EL W (fun g=>v+1≤g∧some g≠(Value.slice la n lc).ownBlock∧g<W.heap.size) l cs)
    (k3:Curw c W w3) (hr:RepA w3 (fun g=>W.heap.size≤g∧g<w3.heap.size) x (.agg #[d0,d1,d2,d3,d4,d5])) (hc:Cur c s' bad' w3) (h4:Below w3.heap.size w3 w4) (hg:w4.grownBy w5 (Value.slice la n lc).ownBlock)
    (hn:w5.ownsRow (v+1) 32 6 (.slice (some ⟨gg,0,none⟩) (n+1) cap) (n+1) (cs++zs)) (hz:zs.length=6) (hat:(Value.slice la n lc).ownBlock=some gg∨gg=w4.heap.size) :
    gg≠v∧Row6 w5 v (.int .u8 5) (.bool false) (.int .i64 0) (.string ⟨#[]⟩) (.slice la n lc) (.slice none 0 0)∧(∀j u,zs[j]?=some u→w5.cell? ⟨gg,n*6+j,none⟩=some u)∧(∀j,w5.frozen? ⟨gg,j,none⟩=false) ∧
    LSv w0 ((w5.setCells gg (n*6) [d0,d1,d2,d3,d4,d5]).setCell ⟨v,4,none⟩ (.slice (some ⟨gg,0,none⟩) (n+1) cap)) c B v (.slice (some ⟨gg,0,none⟩) (n+1) cap) (l++[x]) ∧
    Cur c s' bad' ((w5.setCells gg (n*6) [d0,d1,d2,d3,d4,d5]).setCell ⟨v,4,none⟩ (.slice (some ⟨gg,0,none⟩) (n+1) cap)):=by
  have hlv:∀k,(Value.slice la n lc).ownBlock=some k→v+1≤k∧k<W.heap.size:=ho.lt
  have a1:=h.cl
  have a2:=h.hB
  have a3:=h.hv
  have a4:=h.row.1
  have s3:=k3.size
  have s4:=h4.size
  have s5:=hg.size
  have hgb:v+1≤gg∧gg<w5.heap.size:=hn.lt gg rfl
  have hgn:∀k,k<w4.heap.size→some k≠(Value.slice la n lc).ownBlock→k≠gg:=fun k hk hne e=>by
    rcases hat with e2 | e2
    · exact hne (by rw [e,e2])
    · omega
  have hcs:cs.length=n*6:=ho.1
  have st:∀k,k<W.heap.size→k≠c→some k≠(Value.slice la n lc).ownBlock→w5.heap[k]?=W.heap[k]?:=fun k hk hkc hne=>(hg.block k (by omega) hne).trans ((h4.block k (by omega)).trans (k3.block k hk hkc))
  have sn:∀k,W.heap.size≤k→k<w3.heap.size→w5.heap[k]?=w3.heap[k]?:=fun k hk hk2=>(hg.block k (by omega) (fun e=>by have:=(hlv k e.symm).2;omega)).trans (h4.block k hk2)
  have nb:∀k,k≤v→some k≠(Value.slice la n lc).ownBlock:=fun k hk e=>by have:=(hlv k e.symm).1;omega
  have sc:w5.heap[c]?=w3.heap[c]?:=(hg.block c (by omega) (nb c (by omega))).trans (h4.block c (by omega))
  have hrow:Row6 w5 v (.int .u8 5) (.bool false) (.int .i64 0) (.string ⟨#[]⟩) (.slice la n lc) (.slice none 0 0):=h.row.keep (by omega) (st v a4 (by omega) (nb v (Nat.le_refl _)))
  have hnew:=own_last (ds:=[d0,d1,d2,d3,d4,d5]) hn hcs hz rfl
  have b6:Below 0 w5 (w5.setCells gg (n*6) [d0,d1,d2,d3,d4,d5]):=below_setCellsV (Nat.zero_le gg) _ _ (Below.refl 0 w5)
  have k6:∀k,k≠gg→(w5.setCells gg (n*6) [d0,d1,d2,d3,d4,d5]).heap[k]?=w5.heap[k]?:=fun k hk=>setCells_block hk _
  have s6:(w5.setCells gg (n*6) [d0,d1,d2,d3,d4,d5]).heap.size=w5.heap.size:=size_setCellsV' _ _ _ _
  obtain ⟨w6,hw6⟩:∃w6,w6=w5.setCells gg (n*6) [d0,d1,d2,d3,d4,d5]:=⟨_,rfl⟩
  rw [←hw6] at hnew b6 k6 s6 ⊢
  clear hw6
  obtain ⟨nv,hnv⟩:∃nv:Value,nv=.slice (some ⟨gg,0,none⟩) (n+1) cap:=⟨_,rfl⟩
  have hend:∀k,k≠gg→k≠v→(w6.setCell ⟨v,4,none⟩ nv).heap[k]?=w5.heap[k]?:=fun k h1 h2=>(heap_setCell_other _ _ _ _ h2).trans (k6 k h1)
  have hsz:(w6.setCell ⟨v,4,none⟩ nv).heap.size=w5.heap.size:=by simp [s6]
  have hnb:nv.ownBlock=some gg:=by rw [hnv];rfl
  have cell5:∀j u,zs[j]?=some u→w5.cell? ⟨gg,n*6+j,none⟩=some u:=by
    intro j u hu
    have hcell:=hn.cells (g:=gg) rfl (n*6+j) u
    rw [Addr.add_mid,Nat.zero_add] at hcell
    refine hcell ?_
    rw [List.getElem?_append_right (by omega),hcs,show n*6+j - n*6=j by omega]
    exact hu
  have free5:∀j,w5.frozen? ⟨gg,j,none⟩=false:=by
    intro j
    rcases hn.2 with ⟨e,_⟩ | ⟨g',cap',cur,e,_,h2,_⟩
    · cases e
    · cases e
      exact row_freeV h2 j
  rw [←hnv] at hnew ⊢
  have keep6:Curw c w0 (w6.setCell ⟨v,4,none⟩ nv):=by
    refine ⟨b6.os.trans (hg.os.trans (h4.os.trans (k3.os.trans h.keep.os))),b6.tape.trans (hg.tape.trans (h4.tape.trans (k3.tape.trans h.keep.tape))),b6.output.trans (hg.output.trans (h4.output.trans (k3.output.trans h.keep.output))),by rw [hsz];have:=h.keep.size;omega,fun k hk hkc=>?_⟩
    have:=h.keep.size
    exact (hend k (by omega) (by omega)).trans ((st k (by omega) hkc (nb k (by omega))).trans (h.keep.block k hk hkc))
  refine ⟨by omega,hrow,cell5,free5,⟨keep6,h.cl,h.hB,h.hv,?_,?_,?_,cs++[d0,d1,d2,d3,d4,d5],?_,?_⟩,?_,?_⟩
  · exact (hend B (by omega) (by omega)).trans ((st B (by omega) (by omega) (nb B (by omega))).trans h.box)
  · exact h.res.keep (by rw [hsz];omega) ((hend (B+1) (by omega) (by omega)).trans (st (B+1) (by omega) (by omega) (nb (B+1) (by omega))))
  · exact Row6.set4 (hrow.keep (by omega) (k6 v (by omega)))
  · rw [List.length_append,List.length_singleton,←hl]
    exact own_set hnew (fun e=>by rw [hnb] at e;injection e with e;omega)
  · refine EL.snoc ?_ _ _ ?_
    · refine repA_stays (fun k hk=>?_) (fun k hk=>?_) x _ hr
      · exact (hend k (hgn k (by omega) (fun e=>by have:=(hlv k e.symm).2;omega)) (by omega)).trans (sn k hk.1 hk.2)
      · exact ⟨by omega,fun e=>hgn k (by omega) (fun e=>by have:=(hlv k e.symm).2;omega) (by rw [hnb] at e;injection e),by rw [hsz];omega⟩
    · refine EL.stays (fun k hk=>?_) (fun k hk=>?_) _ _ he
      · exact (hend k (hgn k (by omega) hk.2.1) (by omega)).trans (st k hk.2.2 (by omega) hk.2.1)
      · exact ⟨hk.1,fun e=>hgn k (by omega) hk.2.1 (by rw [hnb] at e;injection e),by rw [hsz];omega⟩
  · rw [hsz];have:=hc.lt;omega
  · exact (hend c (by omega) (by omega)).trans (sc.trans hc.row)
theorem modify_comm {α:Type} (A:Array α) (a b:Nat) (f g:α→α) (h:a≠b):(A.modify a f).modify b g=(A.modify b g).modify a f:=by
  apply Array.ext_getElem?
  intro i
  simp only [Array.getElem?_modify]
  by_cases h1:a=i
  · by_cases h2:b=i
    · omega
    · simp [h1,h2]
  · by_cases h2:b=i
    · simp [h1,h2]
    · simp [h1,h2]
theorem setCell_comm (w:World) (a o b p:Nat) (u v:Value) (h:a≠b):(w.setCell ⟨a,o,none⟩ u).setCell ⟨b,p,none⟩ v=(w.setCell ⟨b,p,none⟩ v).setCell ⟨a,o,none⟩ u:=by
  unfold World.setCell
  dsimp only
  rw [modify_comm _ _ _ _ _ h]
theorem setCells_comm (a o b:Nat) (u:Value) (h:a≠b):∀(ds:List Value) (p:Nat) (w:World),(w.setCell ⟨a,o,none⟩ u).setCells b p ds=(w.setCells b p ds).setCell ⟨a,o,none⟩ u
  | [],_,_=>rfl
  | d :: r,p,w=>by rw [World.setCells,World.setCells,setCell_comm w a o b p u d h,setCells_comm a o b u h r (p+1)]
theorem sets6at (W:World) (B p:Nat) (v0 v1 v2 v3 v4 v5:Value):((((((W.setCell ⟨B,p,none⟩ v0).setCell ⟨B,p+1,none⟩ v1).setCell ⟨B,p+2,none⟩ v2).setCell ⟨B,p+3,none⟩ v3).setCell ⟨B,p+4,none⟩ v4).setCell ⟨B,p+5,none⟩ v5)=W.setCells B p [v0,v1,v2,v3,v4,v5]:=rfl
theorem sets7at (W:World) (B p:Nat) (v0 v1 v2 v3 v4 v5 v6:Value):(((((((W.setCell ⟨B,p,none⟩ v0).setCell ⟨B,p+1,none⟩ v1).setCell ⟨B,p+2,none⟩ v2).setCell ⟨B,p+3,none⟩ v3).setCell ⟨B,p+4,none⟩ v4).setCell ⟨B,p+5,none⟩ v5).setCell ⟨B,p+6,none⟩ v6)=W.setCells B p [v0,v1,v2,v3,v4,v5,v6]:=rfl
end Go.Proofs.YtggnfejjcgbebaaGreatDoor
/- Values that are kept in a row. -/
namespace Go.Proofs.YtggnfejjcgbebaaGreatDoor
open Go.RowKit
open Vl (V)
def Kept (w:World) (H:Nat) (cs:List Value) (K:List V):Prop :=
  cs.length=K.length*6∧∀j t,K[j]?=some t→∃c0 c1 c2 c3 c4 c5,cs[j*6]?=some c0∧cs[j*6+1]?=some c1∧cs[j*6+2]?=some c2∧cs[j*6+3]?=some c3∧cs[j*6+4]?=some c4∧cs[j*6+5]?=some c5∧Rep w H t (.agg #[c0,c1,c2,c3,c4,c5])
theorem Kept.none (w:World) (H:Nat):Kept w H [] []:=⟨rfl,fun j t h=>by simp at h⟩
theorem Kept.more {w:World} {H:Nat} {cs:List Value} {K:List V} {t:V} {c0 c1 c2 c3 c4 c5:Value} (h:Kept w H cs K) (hr:Rep w H t (.agg #[c0,c1,c2,c3,c4,c5])):Kept w H (cs++[c0,c1,c2,c3,c4,c5]) (K++[t]):=by
  refine ⟨by simp [h.1];omega,fun j u hj=>?_⟩
  rcases Nat.lt_or_ge j K.length with hlt | hge
  · rw [List.getElem?_append_left hlt] at hj
    obtain ⟨d0,d1,d2,d3,d4,d5,e0,e1,e2,e3,e4,e5,hd⟩:=h.2 j u hj
    have hl:=h.1
    exact ⟨d0,d1,d2,d3,d4,d5,by rw [List.getElem?_append_left (by omega)];exact e0,by rw [List.getElem?_append_left (by omega)];exact e1,by rw [List.getElem?_append_left (by omega)];exact e2,by rw [List.getElem?_append_left (by omega)];exact e3,by rw [List.getElem?_append_left (by omega)];exact e4,by rw [List.getElem?_append_left (by omega)];exact e5,hd⟩
  · have hj2:j=K.length:=by
      have:=(List.getElem?_eq_some_iff.1 hj).1
      simp at this;omega
    subst hj2
    rw [List.getElem?_append_right (Nat.le_refl _),Nat.sub_self] at hj
    simp at hj
    subst hj
    have hl:=h.1
    refine ⟨c0,c1,c2,c3,c4,c5,?_,?_,?_,?_,?_,?_,hr⟩
    all_goals
      rw [List.getElem?_append_right (by omega),←hl]
      simp
theorem own_apart {W W':World} {base base' e e' sz sz' n n':Nat} {v v':Value} {xs xs':List Value} (h:W.ownsRow base e sz v n xs) (h':W.ownsRow base' e' sz' v' n' xs') (he:e≠e') (hg:W.grownBy W' v'.ownBlock):W'.ownsRow base e sz v n xs:=by
  refine ⟨h.1,?_⟩
  rcases h.2 with h2 | ⟨g,cap,cur,h1,h3,h4,h5⟩
  · exact .inl h2
  · refine .inr ⟨g,cap,cur,h1,h3,(hg.block g (Array.getElem?_eq_some_iff.1 h4).1 (fun q=>?_)).trans h4,h5⟩
    rcases h'.2 with ⟨rfl,_⟩ | ⟨g',cap',cur',rfl,_,k4,_⟩
    · simp [Value.ownBlock] at q
    · simp [Value.ownBlock] at q
      subst q
      rw [k4] at h4
      simp at h4
      exact he h4.2.symm
theorem own_cell {W:World} {base e sz g n cap q:Nat} {xs:List Value} {x:Value} (h:W.ownsRow base e sz (.slice (some ⟨g,0,none⟩) n cap) n xs) (hq:xs[q]?=some x):W.cell? ⟨g,q,none⟩=some x:=by
  rcases h.2 with ⟨h1,_⟩ | ⟨g',cap',cur,h1,_,h4,_,_,_,h7⟩
  · cases h1
  · injection h1 with h1
    injection h1 with h1
    injection h1 with h1
    subst h1
    rw [cell_of_row W _ _ _ _ _ h4]
    rw [←h7,List.getElem?_take] at hq
    split at hq
    · simpa using hq
    · cases hq
end Go.Proofs.YtggnfejjcgbebaaGreatDoor
