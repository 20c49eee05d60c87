/- The law ModularAdds returns true for every input, and leaves its argument as it was. Conditions: none. -/
import Derived.Test.YtchhehncmpldhaaAdds
import Derived.ProofKit
import Derived.OpenShut
import Derived.Lib.SmallJoins
import Derived.Deep.Fields
namespace Go.Proofs.Ytchhehncmpldhaa.modularAdds
open Go.ChangeShapes Go.WideShapes Go.ChangeAt Go.RowKit Go.Joins Go.Deep
set_option linter.unusedVariables false

theorem own : ownKnob Try.prog.godebug = none := by kernel_rfl
theorem laidOut : laidOutB Try.prog = true := by kernel_rfl
theorem cellsTwo : Try.prog.cellsOf 48 = 5 := by kernel_rfl

theorem five {l : List Value} {x0 x1 x2 x3 x4 : Value} (hl : l.length = 5) (g0 : l[0]? = some x0) (g1 : l[1]? = some x1) (g2 : l[2]? = some x2) (g3 : l[3]? = some x3) (g4 : l[4]? = some x4) : l = [x0, x1, x2, x3, x4] := by
  match l, hl with
  | [y0, y1, y2, y3, y4], _ =>
    simp at g0 g1 g2 g3 g4
    simp [g0, g1, g2, g3, g4]

/-- The integer fields of a struct whose fields have a cell each. -/
theorem int_fields {H : Type} {enc : TypeId × Value → H} {P : Program} {w : World} {base : Nat} {spare : Nat → Bool} {held : Bool} {r : Reach} {b0 : Nat} {t : TypeId} {fs : Array Field} {v : Value} {d : DataW H} {p : List MemPlace}
    (hs : P.underlying t = some (.struct fs)) (hone : oneCellFields P fs = true) (hv : Value.okWide P w r b0 t v) (h : DataW.Trod enc P w base spare held t v d p) :
    ∃ l : List Value, v = .agg l.toArray ∧ l.length = P.cellsOf t ∧ ∀ (i : Nat) (f : Field) (k : IntKind), fs[i]? = some f → P.underlying f.type = some (.int k) → ∃ n, l[i]? = some (.int k n) ∧ (Lit.int k n).wf = true := by
  obtain ⟨⟨l⟩, rfl, hsz⟩ := okWide_struct hs hv
  refine ⟨l, rfl, hsz, fun i f k hf hk => ?_⟩
  obtain ⟨fuel, hr⟩ := h
  obtain ⟨xs, n, -, -, -, hlen, hall⟩ := DataW.trod_struct hs hr
  obtain ⟨ho, hc⟩ := hone_of hone i f hf
  have hi : i < xs.length := by
    rw [hlen]; exact (Array.getElem?_eq_some_iff.1 hf).1
  have h1 := hall i f hf
  rw [List.getElem?_eq_getElem hi, ho, hc] at h1
  obtain ⟨z, h2, -, hw⟩ := DataW.trod_int hk h1
  refine ⟨z, ?_, hw⟩
  have h3 := congrArg (fun x : List Value => x[0]?) h2
  simpa [Value.cells, List.getElem?_take, List.getElem?_drop] using h3

set_option maxRecDepth 100000 in
theorem lifted (os : Os) (started : os.Started) (H : Type) (enc : TypeId × Value → H) :
    ReturnsInHanded {} Try.checked os 9 .any (Rows.modularAddsSpec.pre6 enc Try.prog Try.f9 Rows.modularAddsRow.domain false) (Rows.modularAddsSpec.post enc Try.prog Try.f9 false true false false) := by
  refine returnsInHanded_of_change (C := Try.checked) own started (by kernel_rfl) Try.func9
    (ChangeSpec.witness6 (enc := enc) (C := Try.checked) false ⟨#[], #[.agg #[.int .u32 0, .int .u32 0, .int .u32 0, .int .u64 0, .int .u64 0]], []⟩ 8 (by kernel_rfl) (by kernel_rfl) (by kernel_rfl) (by kernel_rfl)) ?_
  intro W base args ds gs before hval0 hW hcnd _
  have hval : ∀ (j : Nat) t v, Try.f9.params[j]? = some t → args[j]? = some v → Value.okWide Try.prog W .any base t v := hval0
  have hW' := hW
  obtain ⟨p, q, hA0, hV, rfl, hfz, hnd⟩ := hW
  have hA : DataW.TrodAll enc Try.prog W 0 (fun _ => true) true Try.f9.params.toList args.toList ds p := hA0
  rw [Try.params9] at hA hval
  obtain ⟨v0, vs0, d0, ds0, p0, q0, hargs, rfl, rfl, h0, r0⟩ := trodAll_cons hA
  obtain ⟨rfl, rfl, rfl⟩ := trodAll_nil r0
  obtain rfl : args = #[v0] := by cases args; simp_all
  obtain ⟨rfl, rfl⟩ := trodVars_none hV
  have k0 := h0
  have lt0 : ∀ x ∈ p0, x.block < W.heap.size := by obtain ⟨m, hm⟩ := k0; exact DataW.trod_lt m _ _ _ hm
  obtain ⟨l, rfl, hl, hf⟩ := int_fields Try.underlying48 (by kernel_rfl) (hval 0 48 v0 rfl rfl) h0
  rw [cellsTwo] at hl
  obtain ⟨a, g0, wa⟩ := hf 0 _ _ rfl Try.underlying22
  obtain ⟨n, g1, wn⟩ := hf 1 _ _ rfl Try.underlying22
  obtain ⟨many, g2, wm⟩ := hf 2 _ _ rfl Try.underlying22
  obtain ⟨j, g3, wj⟩ := hf 3 _ _ rfl Try.underlying33
  obtain ⟨k, g4, wk⟩ := hf 4 _ _ rfl Try.underlying33
  clear hf
  obtain rfl := five hl g0 g1 g2 g3 g4
  clear hA0 hval0
  have ba := bounds_u32 wa
  have bn := bounds_u32 wn
  have bm := bounds_u32 wm
  have bj := bounds_u64 wj
  have bk := bounds_u64 wk
  obtain ⟨a', rfl⟩ := Int.eq_ofNat_of_zero_le ba.1
  obtain ⟨n', rfl⟩ := Int.eq_ofNat_of_zero_le bn.1
  obtain ⟨m', rfl⟩ := Int.eq_ofNat_of_zero_le bm.1
  obtain ⟨j', rfl⟩ := Int.eq_ofNat_of_zero_le bj.1
  obtain ⟨k', rfl⟩ := Int.eq_ofNat_of_zero_le bk.1
  refine (adds_all a' n' m' j' k' W (by omega) (by omega) (by omega) (by omega) (by omega)).mono fun e W' ⟨he, bel⟩ => ?_
  subst he
  exact ⟨_, rfl, _, _, _, [], _, [], hW', trodAll_mk1 (shut_bool Try.underlying4 _), trodAll_cons_mk (Below.trod laidOut (by kernel_rfl) (of_decide_eq_true (by kernel_rfl)) k0 bel lt0) trodAll_mk0, rfl, Below.frame bel _, fun h => by cases h⟩

theorem over : Rows.modularAddsRow.holds Try.pinned (OpenSpec.ofChange Rows.modularAddsSpec) :=
  OpenClaim.holds_of_wide 9 Try.f9 rfl rfl rfl rfl rfl rfl rfl ⟨rfl, rfl, rfl, rfl, rfl⟩ rfl rfl rfl rfl rfl (by kernel_rfl) Try.func9 (by kernel_rfl)
    (of_decide_eq_true (by kernel_rfl)) (by unfold Func.isWrapper; first | (rw [if_pos (by decide +kernel)]; kernel_rfl) | (rw [if_neg (by decide +kernel)]; exact ⟨rfl, rfl⟩))
    (fun os started H enc _ => lifted os started H enc)

theorem proved : Rows.ModularAddsSaid := over
end Go.Proofs.Ytchhehncmpldhaa.modularAdds
