/- Plain mathematics of tokens: letters, digits, words, keywords, signs; nothing of the program is in it. -/
import Derived.Lib.Bytealg
import Derived.Lib.Small
import GoSem.Claim
namespace Go.Proofs.YtdejnphiejkglaaGreatDoor.Lx
abbrev Bs := List UInt8
def isL (b : Nat) : Bool := decide (97 ≤ b ∧ b ≤ 122) || decide (65 ≤ b ∧ b ≤ 90) || decide (b = 95)
def isD (b : Nat) : Bool := decide (48 ≤ b ∧ b ≤ 57)
def isW (b : UInt8) : Bool := isL b.toNat || isD b.toNat
/-- how many letters, digits and _ a text begins with -/
def wsz : Bs → Nat
  | [] => 0
  | b :: r => if isW b then wsz r + 1 else 0
def up (b : UInt8) : UInt8 := if 97 ≤ b.toNat ∧ b.toNat ≤ 122 then UInt8.ofNat (b.toNat - 32) else b
def great (s : Bs) : Bs := s.map up
def kws : List Bs := [[65, 76, 76], [65, 78, 68], [65, 83], [66, 89], [67, 82, 69, 65, 84, 69], [68, 69, 76, 69, 84, 69], [68, 69, 83, 67], [70, 65, 76, 83, 69], [70, 82, 79, 77], [72, 73, 83, 84, 79, 82, 89], [73, 78], [73, 78, 68, 69, 88], [73, 78, 83, 69, 82, 84], [73, 78, 84, 79], [73, 83], [78, 79, 84], [78, 85, 76, 76], [79, 78], [79, 82], [79, 82, 68, 69, 82], [83, 69, 76, 69, 67, 84], [83, 69, 84], [84, 65, 66, 76, 69], [84, 82, 85, 69], [85, 80, 68, 65, 84, 69], [87, 72, 69, 82, 69]]
def isKey (s : Bs) : Bool := decide (s.length ≤ 7) && kws.contains (great s)
theorem wsz_le : ∀ s : Bs, wsz s ≤ s.length
  | [] => Nat.le_refl _
  | b :: r => by
    rw [wsz]
    split
    · have := wsz_le r; simp; omega
    · exact Nat.zero_le _
/-- the first that is none -/
theorem wsz_of : ∀ (s : Bs) (n : Nat), (∀ i, i < n → ∃ b, s[i]? = some b ∧ isW b = true) → (∀ b, s[n]? = some b → isW b = false) → wsz s = n
  | [], n, h, _ => by
    cases n with
    | zero => rfl
    | succ n => obtain ⟨b, hb, _⟩ := h 0 (by omega); simp at hb
  | b :: r, 0, _, h2 => by rw [wsz, if_neg (by rw [h2 b rfl]; decide)]
  | b :: r, n + 1, h, h2 => by
    obtain ⟨b', hb, hw⟩ := h 0 (by omega)
    simp at hb
    subst hb
    rw [wsz, if_pos hw, wsz_of r n (fun i hi => by have := h (i + 1) (by omega); simpa using this) (fun c hc => h2 c (by simpa using hc))]
end Go.Proofs.YtdejnphiejkglaaGreatDoor.Lx
