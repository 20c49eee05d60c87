import Derived.Test.YtlfiakpmnkhcdaaGreatLZC
import Derived.Test.YtlfiakpmnkhcdaaGreatLModua
import Derived.Test.YtlfiakpmnkhcdaaGreatLWG
/- Package residue: division by the last prime. -/
namespace Go.Proofs.YtlfiakpmnkhcdaaGreat.Mo
open Go.RowKit
set_option linter.unusedVariables false

def Enters (n : Nat) : Prop := ∀ (args : Array Value) (w : World), (callFunc n args).run Tryz.prog w = .ok (.enter n args) w
theorem enters_of {n : Nat} {fn : Func} (hf : Tryz.prog.funcs[n]? = some fn) (hname : (fn.name == "runtime.NumGoroutine") = false) (hb : fn.body.isSome = true) : Enters n := fun args w => by
  obtain ⟨c, hb⟩ := Option.isSome_iff_exists.1 hb
  have h1 : fn.name ≠ "runtime.NumGoroutine" := by simpa using hname
  simp [callFunc, hf, h1, hb]
theorem dvd_of_gcd {u p x : Int} (h : Int.gcd u p = 1) (hd : p ∣ u * x) : p ∣ x := by
  have hc : Nat.Coprime p.natAbs u.natAbs := (show Nat.Coprime u.natAbs p.natAbs from h).symm
  have h1 : p.natAbs ∣ u.natAbs * x.natAbs := by
    rw [← Int.natAbs_mul]; exact Int.natAbs_dvd_natAbs.2 hd
  exact Int.natAbs_dvd_natAbs.1 (hc.dvd_of_dvd_mul_left h1)
theorem Quo.unique {v u p a b : Int} (hc : Int.gcd u p = 1) (h : Quo v u p a) (k : Quo v u p b) : a = b := by
  have h1 : p ∣ u * (a - b) := by
    have e : u * (a - b) = (u * a - v) - (u * b - v) := by rw [Int.mul_sub]; omega
    rw [e]; exact Int.dvd_sub h.2.2 k.2.2
  exact Op.dvd_small (dvd_of_gcd hc h1) ⟨h.1, h.2.1⟩ ⟨k.1, k.2.1⟩
theorem HasP.setAt {W : World} {v : Value} {l : List Int} {p : Addr} {u0 : Value} (h : HasP W v l) (hc : W.cell? p = some u0) (hu : ∀ n, u0 ≠ .int .u32 n) (u : Value) : HasP (W.setCell p u) v l := by
  obtain ⟨hd, a, cap, e, h1, h2, h3⟩ := h
  refine ⟨hd, a, cap, e, h1, h2, fun i hi => ?_⟩
  obtain ⟨g, o, e', hcell⟩ := h3 i hi
  refine ⟨g, o, e', (Lo.cell_far (fun e2 => ?_) u).trans hcell⟩
  rw [e2, hcell] at hc
  exact hu _ (Option.some.inj hc).symm
theorem Sys.two {l : List Int} (h : Sys l) {i j : Nat} (hi : i < l.length) (hj : j < l.length) (hij : i ≠ j) : Int.gcd (Op.cf l i) (Op.cf l j) = 1 := by
  rcases Nat.lt_or_gt_of_ne hij with hlt | hlt
  · have := h.2.2.1 j hj i hlt
    rwa [at_cf, at_cf] at this
  · have := h.2.2.1 i hi j hlt
    rw [at_cf, at_cf] at this
    rw [Int.gcd_comm]; exact this

end Go.Proofs.YtlfiakpmnkhcdaaGreat.Mo
/- Package residue: Drop and Scale. -/
namespace Go.Proofs.YtlfiakpmnkhcdaaGreat.Mo
open Go.RowKit
set_option linter.unusedVariables false

end Go.Proofs.YtlfiakpmnkhcdaaGreat.Mo
/- Package residue: Convert. -/
namespace Go.Proofs.YtlfiakpmnkhcdaaGreat.Mo
open Go.RowKit
set_option linter.unusedVariables false

/-- The integer for which a row stands. -/
def JoinV (l r : List Int) (X : Int) : Prop := (-(Or.pr l) < 2 * X ∧ 2 * X < Or.pr l) ∧ ∀ j, j < l.length → Op.cf l j ∣ X - Op.cf r j
theorem JoinV.unique {l r : List Int} (hs : Sys l) {X Y : Int} (h : JoinV l r X) (k : JoinV l r Y) : X = Y :=
  Or.unique hs.2.2.1 h.1 k.1 (fun j hj => by
    have e : X - Y = (X - Op.cf r j) - (Y - Op.cf r j) := by omega
    rw [at_cf, e]; exact Int.dvd_sub (h.2 j hj) (k.2 j hj))
theorem joinV_of {l r ds : List Int} (hs : Sys l) (h : Or.DgI l r ds) (hn : ds.length = l.length) : JoinV l r (Or.mv l ds) := by
  have := h.value (fun p hp => by have := hs.1 p hp; omega) hn
  refine ⟨this.1, fun j hj => ?_⟩
  have h2 := this.2 j hj
  rwa [at_cf, at_cf] at h2
end Go.Proofs.YtlfiakpmnkhcdaaGreat.Mo
/- Package residue: Moduli. -/
namespace Go.Proofs.YtlfiakpmnkhcdaaGreat.Mo
open Go.RowKit
set_option linter.unusedVariables false

end Go.Proofs.YtlfiakpmnkhcdaaGreat.Mo
/- What package residue uses of package wide. -/
namespace Go.Proofs.YtlfiakpmnkhcdaaGreat.Mo
open Go.RowKit
set_option linter.unusedVariables false

/-- The form of an integer. -/
def wv (z : Int) : Value := .agg #[.bool (decide (z < 0)), .string (bstr z.natAbs)]
def InR (z : Int) : Prop := z.natAbs < Ow.R
theorem wof_any (n : Int) (w : World) (h : isW n) : Calls Tryz.prog 78 #[.int .i64 n] w (fun e w' => e = .returned (wv n) ∧ Gr w w') := by
  refine (of_any n w h.1 h.2).mono ?_
  rintro e w' ⟨rfl, hg⟩
  exact ⟨rfl, hg⟩
theorem wmul_any (x y : Int) (w : World) (hx : InR x) (hy : InR y) (hz : InR (x * y)) : Calls Tryz.prog 106 #[wv x, wv y] w (fun e w' => e = .returned (.tuple #[wv (x * y), .int .i64 0]) ∧ Gr w w') := by
  refine (Go.Proofs.YtlfiakpmnkhcdaaGreat.mul_ok _ _ _ _ w (form_bstr x hx) (form_bstr y hy)).mono ?_
  rintro e w' ⟨rfl, hg⟩
  rw [zOf_bstr, zOf_bstr, fNeg_in hz, fStr_in hz, fErr_in hz]
  exact ⟨rfl, hg⟩
theorem wadd_any (x y : Int) (w : World) (hx : InR x) (hy : InR y) (hz : InR (x + y)) : Calls Tryz.prog 107 #[wv x, wv y] w (fun e w' => e = .returned (.tuple #[wv (x + y), .int .i64 0]) ∧ Gr w w') := by
  refine (Go.Proofs.YtlfiakpmnkhcdaaGreat.add_ok _ _ _ _ w (form_bstr x hx) (form_bstr y hy)).mono ?_
  rintro e w' ⟨rfl, hg⟩
  rw [zOf_bstr, zOf_bstr, fNeg_in hz, fStr_in hz, fErr_in hz]
  exact ⟨rfl, hg⟩
end Go.Proofs.YtlfiakpmnkhcdaaGreat.Mo
/- Package residue: Split. -/
namespace Go.Proofs.YtlfiakpmnkhcdaaGreat.Mo
open Go.RowKit
set_option linter.unusedVariables false

end Go.Proofs.YtlfiakpmnkhcdaaGreat.Mo
