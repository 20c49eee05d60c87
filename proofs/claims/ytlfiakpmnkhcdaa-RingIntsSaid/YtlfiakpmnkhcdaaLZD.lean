import Derived.Test.YtlfiakpmnkhcdaaLZC
import Derived.Test.YtlfiakpmnkhcdaaLWH
import Derived.Test.YtlfiakpmnkhcdaaLWG
namespace Go.Proofs.Ytlfiakpmnkhcdaa.Mo
open Go.RowKit
set_option linter.unusedVariables false
def Enters (n : Nat) : Prop := ∀ (args : Array Value) (w : World), (callFunc n args).run Try.prog w = .ok (.enter n args) w
theorem enters_of {n : Nat} {fn : Func} (hf : Try.prog.funcs[n]? = some fn) (hname : (fn.name == "runtime.NumGoroutine") = false) (hb : fn.body.isSome = true) : Enters n := fun args w => by
  obtain ⟨c, hb⟩ := Option.isSome_iff_exists.1 hb
  have h1 : fn.name ≠ "runtime.NumGoroutine" := by simpa using hname
  simp [callFunc, hf, h1, hb]
end Go.Proofs.Ytlfiakpmnkhcdaa.Mo
namespace Go.Proofs.Ytlfiakpmnkhcdaa.Mo
open Go.RowKit
set_option linter.unusedVariables false
end Go.Proofs.Ytlfiakpmnkhcdaa.Mo
namespace Go.Proofs.Ytlfiakpmnkhcdaa.Mo
open Go.RowKit
set_option linter.unusedVariables false
def JoinV (l r : List Int) (X : Int) : Prop := (-(Or.pr l) < 2 * X ∧ 2 * X < Or.pr l) ∧ ∀ j, j < l.length → Op.cf l j ∣ X - Op.cf r j
theorem JoinV.unique {l r : List Int} (hs : Sys l) {X Y : Int} (h : JoinV l r X) (k : JoinV l r Y) : X = Y :=
  Or.unique hs.2.2.1 h.1 k.1 (fun j hj => by
    have e : X - Y = (X - Op.cf r j) - (Y - Op.cf r j) := by omega
    rw [at_cf, e]; exact Int.dvd_sub (h.2 j hj) (k.2 j hj))
theorem joinV_of {l r ds : List Int} (hs : Sys l) (h : Or.DgI l r ds) (hn : ds.length = l.length) : JoinV l r (Or.mv l ds) := by
  have := h.value (fun p hp => by have := hs.1 p hp; omega) hn
  refine ⟨this.1, fun j hj => ?_⟩
  have h2 := this.2 j hj
  rwa [at_cf, at_cf] at h2
end Go.Proofs.Ytlfiakpmnkhcdaa.Mo
namespace Go.Proofs.Ytlfiakpmnkhcdaa.Mo
open Go.RowKit
set_option linter.unusedVariables false
end Go.Proofs.Ytlfiakpmnkhcdaa.Mo
namespace Go.Proofs.Ytlfiakpmnkhcdaa.Mo
open Go.RowKit
set_option linter.unusedVariables false
def wv (z : Int) : Value := .agg #[.bool (decide (z < 0)), .string (bstr z.natAbs)]
def InR (z : Int) : Prop := z.natAbs < Ow.R
theorem wof_any (n : Int) (w : World) (h : isW n) : Calls Try.prog 25 #[.int .i64 n] w (fun e w' => e = .returned (wv n) ∧ Gr w w') := by
  refine (of_any n w h.1 h.2).mono ?_
  rintro e w' ⟨rfl, hg⟩
  exact ⟨rfl, hg⟩
theorem wmul_any (x y : Int) (w : World) (hx : InR x) (hy : InR y) (hz : InR (x * y)) : Calls Try.prog 41 #[wv x, wv y] w (fun e w' => e = .returned (.tuple #[wv (x * y), .int .i64 0]) ∧ Gr w w') := by
  refine (Go.Proofs.Ytlfiakpmnkhcdaa.mul_ok _ _ _ _ w (form_bstr x hx) (form_bstr y hy)).mono ?_
  rintro e w' ⟨rfl, hg⟩
  rw [zOf_bstr, zOf_bstr, fNeg_in hz, fStr_in hz, fErr_in hz]
  exact ⟨rfl, hg⟩
theorem wadd_any (x y : Int) (w : World) (hx : InR x) (hy : InR y) (hz : InR (x + y)) : Calls Try.prog 42 #[wv x, wv y] w (fun e w' => e = .returned (.tuple #[wv (x + y), .int .i64 0]) ∧ Gr w w') := by
  refine (Go.Proofs.Ytlfiakpmnkhcdaa.add_ok _ _ _ _ w (form_bstr x hx) (form_bstr y hy)).mono ?_
  rintro e w' ⟨rfl, hg⟩
  rw [zOf_bstr, zOf_bstr, fNeg_in hz, fStr_in hz, fErr_in hz]
  exact ⟨rfl, hg⟩
end Go.Proofs.Ytlfiakpmnkhcdaa.Mo
namespace Go.Proofs.Ytlfiakpmnkhcdaa.Mo
open Go.RowKit
set_option linter.unusedVariables false
end Go.Proofs.Ytlfiakpmnkhcdaa.Mo
