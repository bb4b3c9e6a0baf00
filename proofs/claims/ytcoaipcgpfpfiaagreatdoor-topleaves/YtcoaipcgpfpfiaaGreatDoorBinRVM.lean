/- The cursor's value, whatever is left. -/
import Derived.Test.YtcoaipcgpfpfiaaGreatDoorBinV1M
import Derived.Test.YtcoaipcgpfpfiaaGreatDoorBinFRM
namespace Go.Proofs.YtcoaipcgpfpfiaaGreatDoor
open Go.RowKit
open Vl (V)
theorem value46 (c : Nat) : ∀ (N : Nat) (s : ByteArray) (bad : Bool), s.size ≤ N → s.size ≤ 65536 → (bad = true → s = ⟨#[]⟩) → ∀ w, Cur c s bad w → Calls Tryz.prog 22 #[.pointer (some ⟨c, 0, none⟩)] w (Gave s c w) := by
  intro N
  induction N with
  | zero =>
    intro s bad hN hs hb w h
    exact value46_one c s bad hs hb w h (fun s1 _ _ _ h1 => by omega) (fun s1 _ _ _ h1 => by omega)
  | succ N ih =>
    intro s bad hN hs hb w h
    refine value46_one c s bad hs hb w h (fun s1 W B v h1 hL hc => ?_) (fun s1 W B v h1 hL hc => ?_)
    · exact parts82L w c B v s1 (by omega) W hL hc (fun lv l s2 W2 hl h2 hL2 hc2 => part83 w c B v lv l hl s2 W2 hL2 hc2 (fun W' hW' => ih s2 false (by omega) (by omega) (fun e => by cases e) W' (hc2.call hW')))
    · exact parts82F w c B v s1 (by omega) W hL hc (fun lv l s2 W2 hl h2 hL2 hc2 => part84 w c B v lv l hl s2 W2 hL2 hc2 (fun W' hW' =>
        field85 c s2 (by omega) W' (hc2.call hW') (fun s3 b3 W3 hb3 hs3 hc3 => by
          have hz : s3.size ≤ N ∧ s3.size ≤ 65536 := by
            rcases hs3 with e | e
            · omega
            · rw [e]; exact ⟨Nat.zero_le _, by decide⟩
          exact ih s3 b3 hz.1 hz.2 hb3 W3 hc3)))
end Go.Proofs.YtcoaipcgpfpfiaaGreatDoor
