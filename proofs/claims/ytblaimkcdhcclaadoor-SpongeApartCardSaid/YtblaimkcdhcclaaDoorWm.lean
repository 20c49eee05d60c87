/- Comparing two states. -/
import Derived.Test.YtblaimkcdhcclaaDoorWe
import Derived.Laws.StructEq
namespace Go.Proofs.YtblaimkcdhcclaaDoor
open Go.RowKit Oz
set_option linter.unusedVariables false
set_option linter.unusedSimpArgs false
theorem size_u64 : (Tryd.prog.info? 22).map (·.size) = some 1 := by kernel_rfl
theorem run_size_u64 (w : World) : (sizeOf 22).run Tryd.prog w = .ok 1 w := by
  have h := size_u64
  cases hi : Tryd.prog.info? 22 with
  | none => rw [hi] at h; cases h
  | some i =>
    rw [hi] at h
    have h1 : i.size = 1 := by simpa using h
    simp [sizeOf, typeInfo, hi, h1]
def eq5 (x y : St) : Bool := nv x.a == nv y.a && (nv x.b == nv y.b && (nv x.c == nv y.c && (nv x.d == nv y.d && nv x.e == nv y.e)))
theorem eq5_true {x y : St} (h : eq5 x y = true) : x = y := by
  simp only [eq5, Bool.and_eq_true, beq_iff_eq] at h
  exact St.eq (nv_inj h.1) (nv_inj h.2.1) (nv_inj h.2.2.1) (nv_inj h.2.2.2.1) (nv_inj h.2.2.2.2)
theorem eq5_refl (x : St) : eq5 x x = true := by simp [eq5]
theorem arr_eql (w : World) (x y : St) : (Op.equalIn 10000 23 (stv x) (stv y)).run Tryd.prog w = .ok (eq5 x y) w := by
  have hu := Tryd.underlying23
  have hs := run_size_u64
  have he := fun (d : Nat) (w : World) (a b : Int) => run_equalIn_int (P := Tryd.prog) w d 22 .u64 .u64 a b Tryd.underlying22
  unfold stv
  unfold Op.equalIn
  have hu2 := Tryd.underlying22
  have r5 : List.range' 0 5 = [0, 1, 2, 3, 4] := by decide
  simp [run_underlying hu, run_underlying hu2, hs, r5, List.forIn'_cons, part, isAgg]
  have h9 : ∀ (w : World) (a b : Int), (Op.equalIn 9999 22 (.int .u64 a) (.int .u64 b)).run Tryd.prog w = .ok (a == b) w := he 9998
  unfold eq5
  generalize ha : (nv x.a == nv y.a) = ra
  generalize hb : (nv x.b == nv y.b) = rb
  generalize hc : (nv x.c == nv y.c) = rc
  generalize hd : (nv x.d == nv y.d) = rd
  generalize hf : (nv x.e == nv y.e) = rf
  simp only [h9, ha, hb, hc, hd, hf, Result.andThen_ok]
  cases ra <;> cases rb <;> cases rc <;> cases rd <;> cases rf <;> simp
end Go.Proofs.YtblaimkcdhcclaaDoor
