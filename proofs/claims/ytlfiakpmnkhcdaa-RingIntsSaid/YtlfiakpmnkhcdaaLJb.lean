import Derived.Test.YtlfiakpmnkhcdaaLJa
namespace Oj
open Op Oq
set_option linter.unusedVariables false
def rowL (n : Nat) (f : Nat → Int) : List Int := (List.range n).map f
theorem rowL_len (n : Nat) (f : Nat → Int) : (rowL n f).length = n := by simp [rowL]
theorem rowL_at (n : Nat) (f : Nat → Int) {i : Nat} (hi : i < n) : cf (rowL n f) i = f i := by
  rw [← cf_at]; simp [rowL, hi]
theorem rowL_out (n : Nat) (f : Nat → Int) {i : Nat} (hi : n ≤ i) : cf (rowL n f) i = 0 := cf_out (by rw [rowL_len]; exact hi)
section
variable {m : Int} {f : List Int}
end
section
variable {n : Nat} {m : Int} {a b c : List Int}
end
end Oj
