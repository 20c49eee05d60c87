import Derived.Test.YtlfiakpmnkhcdaaGreatLJd
import Derived.Test.YtlfiakpmnkhcdaaGreatShelf
import Derived.Laws.Bits64b
/- math/bits: Rem64, for a divisor below 2^31. -/
namespace Go.Proofs.YtlfiakpmnkhcdaaGreat.Mo
open Go.RowKit
set_option linter.unusedVariables false

/-- The numbers of the division. -/
structure DivN (hi lo y s S d H lh U V qa ra u2 qb rb : Nat) : Prop where
  S_ : 2 ^ s = S
  T_ : lo / 2 ^ (64 - s) = lh
  yS : y * S = d * 4294967296
  d0 : 1 ≤ d
  d1 : d < 4294967296
  H_ : hi * S = H
  Hlt : H < 18446744073709551616
  lt : lh < 18446744073709551616
  or_ : (H ||| lh) = U
  Ult : U < 18446744073709551616
  V_ : lo * S % 18446744073709551616 = V
  Vlt : V < 18446744073709551616
  qa_ : U / d = qa
  qad : qa * d + ra = U
  qal : qa < 4294967296
  ral : ra < 4294967296
  u2_ : U * 4294967296 + V / 4294967296 = qa * (d * 4294967296) + u2
  u2l : u2 < 18446744073709551616
  qb_ : u2 / d = qb
  qbd : qb * d + rb = u2
  qbl : qb < 4294967296
  rbl : rb < 4294967296
  Z_ : u2 * 4294967296 + V % 4294967296 = qb * (d * 4294967296) + (rb * 4294967296 + V % 4294967296)
  R_ : (rb * 4294967296 + V % 4294967296) / S = (hi * 18446744073709551616 + lo) % y
/-- The remainder of a number of 128 bits. -/
def Rem (hi lo y : Nat) (w : World) (e : Ending) (w' : World) : Prop := ∃ q : Int, e = .returned (.tuple #[.int .u64 q, .int .u64 (((hi * 18446744073709551616 + lo) % y : Nat) : Int)]) ∧ w = w'
end Go.Proofs.YtlfiakpmnkhcdaaGreat.Mo
