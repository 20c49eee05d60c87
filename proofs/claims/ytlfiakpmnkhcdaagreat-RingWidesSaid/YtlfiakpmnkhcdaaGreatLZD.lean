import Derived.Test.YtlfiakpmnkhcdaaGreatLZC
import Derived.Test.YtlfiakpmnkhcdaaGreatLModua
import Derived.Test.YtlfiakpmnkhcdaaGreatLWG
namespace Go.Proofs.YtlfiakpmnkhcdaaGreat.Mo
open Go.RowKit
set_option linter.unusedVariables false
def Enters (n : Nat) : Prop := ∀ (args : Array Value) (w : World), (callFunc n args).run Tryz.prog w = .ok (.enter n args) w
theorem enters_of {n : Nat} {fn : Func} (hf : Tryz.prog.funcs[n]? = some fn) (hname : (fn.name == "runtime.NumGoroutine") = false) (hb : fn.body.isSome = true) : Enters n := fun args w => by
 obtain ⟨c, hb⟩ := Option.isSome_iff_exists.1 hb
 have h1 : fn.name ≠ "runtime.NumGoroutine" := by simpa using hname
 simp [callFunc, hf, h1, hb]
end Go.Proofs.YtlfiakpmnkhcdaaGreat.Mo
namespace Go.Proofs.YtlfiakpmnkhcdaaGreat.Mo
open Go.RowKit
set_option linter.unusedVariables false
end Go.Proofs.YtlfiakpmnkhcdaaGreat.Mo
namespace Go.Proofs.YtlfiakpmnkhcdaaGreat.Mo
open Go.RowKit
set_option linter.unusedVariables false
def JoinV (l r : List Int) (X : Int) : Prop := (-(Or.pr l) < 2 * X ∧ 2 * X < Or.pr l) ∧ ∀ j, j < l.length → Op.cf l j ∣ X - Op.cf r j
theorem JoinV.unique {l r : List Int} (hs : Sys l) {X Y : Int} (h : JoinV l r X) (k : JoinV l r Y) : X = Y :=
 Or.unique hs.2.2.1 h.1 k.1 (fun j hj => by
  have e : X - Y = (X - Op.cf r j) - (Y - Op.cf r j) := by omega
  rw [at_cf, e]; exact Int.dvd_sub (h.2 j hj) (k.2 j hj))
theorem joinV_of {l r ds : List Int} (hs : Sys l) (h : Or.DgI l r ds) (hn : ds.length = l.length) : JoinV l r (Or.mv l ds) := by
 have := h.value (fun p hp => by have := hs.1 p hp; omega) hn
 refine ⟨this.1, fun j hj => ?_⟩
 have h2 := this.2 j hj
 rwa [at_cf, at_cf] at h2
end Go.Proofs.YtlfiakpmnkhcdaaGreat.Mo
namespace Go.Proofs.YtlfiakpmnkhcdaaGreat.Mo
open Go.RowKit
set_option linter.unusedVariables false
end Go.Proofs.YtlfiakpmnkhcdaaGreat.Mo
namespace Go.Proofs.YtlfiakpmnkhcdaaGreat.Mo
open Go.RowKit
set_option linter.unusedVariables false
def wv (z : Int) : Value := .agg #[.bool (decide (z < 0)), .string (bstr z.natAbs)]
def InR (z : Int) : Prop := z.natAbs < Ow.R
theorem wof_any (n : Int) (w : World) (h : isW n) : Calls Tryz.prog 78 #[.int .i64 n] w (fun e w' => e = .returned (wv n) ∧ Gr w w') := by
 refine (of_any n w h.1 h.2).mono ?_
 rintro e w' ⟨rfl, hg⟩
 exact ⟨rfl, hg⟩
theorem wmul_any (x y : Int) (w : World) (hx : InR x) (hy : InR y) (hz : InR (x * y)) : Calls Tryz.prog 106 #[wv x, wv y] w (fun e w' => e = .returned (.tuple #[wv (x * y), .int .i64 0]) ∧ Gr w w') := by
 refine (Go.Proofs.YtlfiakpmnkhcdaaGreat.mul_ok _ _ _ _ w (form_bstr x hx) (form_bstr y hy)).mono ?_
 rintro e w' ⟨rfl, hg⟩
 rw [zOf_bstr, zOf_bstr, fNeg_in hz, fStr_in hz, fErr_in hz]
 exact ⟨rfl, hg⟩
theorem wadd_any (x y : Int) (w : World) (hx : InR x) (hy : InR y) (hz : InR (x + y)) : Calls Tryz.prog 107 #[wv x, wv y] w (fun e w' => e = .returned (.tuple #[wv (x + y), .int .i64 0]) ∧ Gr w w') := by
 refine (Go.Proofs.YtlfiakpmnkhcdaaGreat.add_ok _ _ _ _ w (form_bstr x hx) (form_bstr y hy)).mono ?_
 rintro e w' ⟨rfl, hg⟩
 rw [zOf_bstr, zOf_bstr, fNeg_in hz, fStr_in hz, fErr_in hz]
 exact ⟨rfl, hg⟩
theorem resU_mod (neg : Bool) (s : ByteArray) (h : Form neg s) {n : Nat} (hn : n ≠ 0) : ((resU neg (zOf neg s).natAbs n : Nat) : Int) = zOf neg s % (n : Int) := by
 have hz : zOf neg s = sg neg (zOf neg s).natAbs := by rw [zOf_abs]; rfl
 generalize (zOf neg s).natAbs = V at *
 rw [hz]
 have h1 := Nat.mod_lt V (Nat.pos_of_ne_zero hn)
 cases neg with
 | false => simp [resU, sg]
 | true =>
  simp only [resU, sg, true_and, if_true]
  by_cases h0 : 0 < V % n
  ·rw [if_pos h0]
   have e : (-(V : Int)) % (n : Int) = ((n - V % n : Nat) : Int) := by
    have h3 := Nat.div_add_mod V n
    have e2 : -(V : Int) = (n : Int) * (-((V / n : Nat) : Int) - 1) + ((n - V % n : Nat) : Int) := by
     rw [Int.mul_sub, Int.mul_neg, Int.mul_one, ← Int.natCast_mul]; omega
    rw [e2, Int.mul_add_emod_self_left]
    exact Int.emod_eq_of_lt (by omega) (by omega)
   exact e.symm
  ·rw [if_neg h0]
   have h2 : V % n = 0 := by omega
   have h3 : ((n : Nat) : Int) ∣ -(V : Int) := Int.dvd_neg.2 (Int.natCast_dvd_natCast.2 (Nat.dvd_of_mod_eq_zero h2))
   rw [Int.emod_eq_zero_of_dvd h3, h2]; rfl
end Go.Proofs.YtlfiakpmnkhcdaaGreat.Mo
namespace Go.Proofs.YtlfiakpmnkhcdaaGreat.Mo
open Go.RowKit
set_option linter.unusedVariables false
end Go.Proofs.YtlfiakpmnkhcdaaGreat.Mo
