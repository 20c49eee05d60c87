import Derived.Test.YtplfeeaocjgliaaLFG
/- The law Lifts. -/
namespace Go.Proofs.Ytplfeeaocjgliaa
open Go.RowKit
set_option linter.unusedVariables false

theorem Lo.own_empty (w : World) (base : Nat) (hb : base ≤ w.heap.size) : Lo.Own1 (w.alloc (.cells #[] 2)) base (.slice (some ⟨w.heap.size, 0, none⟩) 0 0) [] :=
  ⟨Lo.I64.nil, rfl, .inr ⟨w.heap.size, 0, #[], rfl, hb, heap_alloc_new w _, Nat.le_refl _, by unfold maxLen; omega, rfl, rfl⟩⟩
/-- The block of a Case. -/
def CB7 (W : World) (C : Nat) (u : Value) (p r t : Int) : Prop := W.heap[C]? = some (.cells #[u, .int .u32 p, .int .i64 r, .int .u32 t] 40 (0, 0))
theorem CB7.later {W W' : World} {C : Nat} {u : Value} {p r t : Int} (h : CB7 W C u p r t) (g : Gr W W') : CB7 W' C u p r t :=
  (g.block C (Array.getElem?_eq_some_iff.1 (show W.heap[C]? = _ from h)).1).trans h
theorem CB7.new (w : World) (u : Value) (p r t : Int) : CB7 (w.alloc (.cells #[u, .int .u32 p, .int .i64 r, .int .u32 t] 40)) w.heap.size u p r t := heap_alloc_new w _
theorem CB7.cells {W : World} {C : Nat} {u : Value} {p r t : Int} (h : CB7 W C u p r t) : W.cell? ⟨C, 0, none⟩ = some u ∧ W.cell? ⟨C, 1, none⟩ = some (.int .u32 p) ∧ W.cell? ⟨C, 2, none⟩ = some (.int .i64 r) ∧ W.cell? ⟨C, 3, none⟩ = some (.int .u32 t) := by
  have h' : W.heap[C]? = _ := h
  refine ⟨?_, ?_, ?_, ?_⟩ <;> simp [World.cell?, h']

set_option maxRecDepth 100000 in
set_option maxHeartbeats 4000000 in
theorem lifts7_all (a : List Int) (p : Nat) (r : Int) (t : Nat) (u : Value) (w : World) (hu : Lo.HasQ w u a) (hla : a.length ≤ 9223372036854775807) (hp : p ≤ 4294967295) (hr : -9223372036854775808 ≤ r ∧ r ≤ 9223372036854775807) (ht : t ≤ 4294967295) :
    Calls Try.prog 6 #[.agg #[u, .int .u32 p, .int .i64 r, .int .u32 t]] w (Truth w) := by
  have HU := Lib.hid hu
  have HR := Lib.hid hr
  obtain ⟨-, xa, ca, rfl, a1, a2, -⟩ := hu
  obtain ⟨la, hlen⟩ : ∃ la, la = a.length := ⟨_, rfl⟩
  have HLA := Lib.hid hlen
  rw [← hlen] at HU a1 hla ⊢
  clear hlen hr
  obtain ⟨W, hW⟩ : ∃ W, W = w.alloc (.cells #[.slice xa la ca, .int .u32 p, .int .i64 r, .int .u32 t] 40) := ⟨_, rfl⟩
  have HG0 := Lib.hid (show Gr w W from by rw [hW]; exact Gr.new _ _)
  have HCB := Lib.hid (show CB7 W w.heap.size (.slice xa la ca) p r t from by rw [hW]; exact CB7.new _ _ _ _ _)
  have HSZ := Lib.hid (show W.heap.size = w.heap.size + 1 from by rw [hW]; simp)
  obtain ⟨c0, c1, c2, c3⟩ := HCB.out.cells
  by_cases hcut : 300 < la ∨ (p < 65536 ∧ 3000000 < la * p)
  · by_cases hbig : 300 < la
    · have i1 : (la : Int) > 300 := by omega
      go_enter Try.func6, Try.ntmps6
      go_wp2_with fail
      rw [← hW]
      refine (awake7_any _).mono ?_
      rintro e w1 ⟨rfl, hg⟩
      have HG := Lib.hid (HG0.out.trans hg)
      clear hg
      go_wp2_with fail
      go_ret
      exact ⟨rfl, HG.out⟩
    · have i1 : ¬ (la : Int) > 300 := by omega
      obtain ⟨h1, h2⟩ : p < 65536 ∧ 3000000 < la * p := by omega
      have i2 : (p : Int) < 65536 := by omega
      have i3 : (la : Int) * (p : Int) > 3000000 := by rw [← Int.natCast_mul]; omega
      have i4 : (la : Int) * (p : Int) ≤ 300 * 65536 := Int.mul_le_mul (by omega) (by omega) (by omega) (by omega)
      have i5 : (0 : Int) ≤ (la : Int) * (p : Int) := mul_lo (by omega) (by omega)
      clear hcut h1 h2
      go_enter Try.func6, Try.ntmps6
      go_wp2_with fail
      rw [← hW]
      refine (awake7_any _).mono ?_
      rintro e w1 ⟨rfl, hg⟩
      have HG := Lib.hid (HG0.out.trans hg)
      clear hg
      go_wp2_with fail
      go_ret
      exact ⟨rfl, HG.out⟩
  · have hla3 : la ≤ 300 := by omega
    have i1 : ¬ (la : Int) > 300 := by omega
    have hsp : (¬ (p : Int) < 65536) ∨ ((p : Int) < 65536 ∧ ¬ (la : Int) * (p : Int) > 3000000 ∧ (la : Int) * (p : Int) ≤ 19660800 ∧ 0 ≤ (la : Int) * (p : Int)) := by
      rcases Nat.lt_or_ge p 65536 with h | h
      · refine .inr ⟨by omega, ?_, Int.le_trans (Int.mul_le_mul (show (la : Int) ≤ 300 by omega) (show (p : Int) ≤ 65536 by omega) (by omega) (by omega)) (by decide), mul_lo (by omega) (by omega)⟩
        rw [← Int.natCast_mul]; omega
      · exact .inl (by omega)
    have HOE := Lib.hid (show Lo.Own1 (W.alloc (.cells #[] 2)) (w.heap.size + 1) (.slice (some ⟨w.heap.size + 1, 0, none⟩) 0 0) [] from by
      have := Lo.own_empty W (w.heap.size + 1) (by rw [HSZ.out]; exact Nat.le_refl _)
      rwa [HSZ.out] at this)
    have HL1 := Lib.hid (show ([] : List Int).length + a.length ≤ 1000000 by simp; have := HLA.out; omega)
    have HBS := Lib.hid (show w.heap.size + 1 ≤ (W.alloc (.cells #[] 2)).heap.size by simp; have := HSZ.out; omega)
    have HL3 := Lib.hid hla3
    clear hcut hla3
    obtain ⟨M, hM⟩ : ∃ M, (la : Int) * (p : Int) = M := ⟨_, rfl⟩
    rw [hM] at hsp
    rcases hsp with i2 | ⟨i2, i3, i4, i5⟩
    all_goals
      go_enter Try.func6, Try.ntmps6
      go_wp2_with (at_builtin; (try rw [← hW]); refine Lo.wpList_app rfl (.tmp 29) (.tmp 31) rfl rfl (w.heap.size + 1) (.slice (some ⟨w.heap.size + 1, 0, none⟩) 0 0) [] rfl HOE.out (.slice xa la ca) a rfl (HU.out.later (HG0.out.alloc _)) HL1.out HBS.out ?_; intro v' w2 hown hgrow; rw [List.nil_append] at hown; have HO := Lib.hid hown; have HG1 := Lib.hid (show Gr W w2 from Lo.grown_own (Gr.new W _) HOE.out hgrow (Nat.le_of_eq HSZ.out)); obtain ⟨va, vc, hv, hv1, hv2⟩ := hown.form; rw [← HLA.out] at hv hv1; subst hv; obtain ⟨d0, d1, d2, d3⟩ := (HCB.out.later HG1.out).cells; have HV := Lib.hid (And.intro hv1 hv2); clear hv1 hv2 hown hgrow c0 c1 c2 c3 i1 i2 hM; (try clear i3 i4 i5))
      refine (lift_any a _ p r t _ HO.out.hasQ (Nat.le_trans (Nat.le_of_eq HLA.out.symm) hla) hp HR.out ht).mono ?_
      rintro e w3 ⟨x, E, rfl, hl, hg⟩
      have HL := Lib.hid hl
      have HG3 := Lib.hid ((HG0.out.trans HG1.out).trans hg)
      have HO3 := Lib.hid (HO.out.hasQ.later hg)
      have HU3 := Lib.hid (HU.out.later ((HG0.out.trans HG1.out).trans hg))
      have HCB3 := Lib.hid ((HCB.out.later HG1.out).later hg)
      clear hl hg d0 d1 d2 d3 hW HU HO
      go_wp2_with fail
      go_loopw [6] (fun t wr => ∃ k q : Nat, t = .int .i64 k ∧ k ≤ la ∧ wr = w3.drewN q) (fun t _ => la - (intOf t).toNat)
      case atStart => exact ⟨0, 0, rfl, by omega, rfl⟩
      case round =>
        obtain ⟨k, q, rfl, hk, rfl⟩ := hrel
        have d0 : ∀ n, (w3.drewN n).cell? ⟨w.heap.size, 0, none⟩ = some (.slice xa la ca) := fun n => HCB3.out.cells.1
        have d1 : ∀ n, (w3.drewN n).cell? ⟨w.heap.size, 1, none⟩ = some (.int .u32 p) := fun n => HCB3.out.cells.2.1
        have d2 : ∀ n, (w3.drewN n).cell? ⟨w.heap.size, 2, none⟩ = some (.int .i64 r) := fun n => HCB3.out.cells.2.2.1
        have d3 : ∀ n, (w3.drewN n).cell? ⟨w.heap.size, 3, none⟩ = some (.int .u32 t) := fun n => HCB3.out.cells.2.2.2
        by_cases hlt : k < la
        · have hka : (k : Int) < (la : Int) := by omega
          obtain ⟨-, ya, yc, ey, -, -, hy⟩ := HO3.out
          obtain ⟨-, za, zc, ez, -, -, hz⟩ := HU3.out
          obtain ⟨gy, oy, rfl, cy⟩ := hy k (by rw [← HLA.out]; exact hlt)
          obtain ⟨gz, oz, rfl, cz⟩ := hz k (by rw [← HLA.out]; exact hlt)
          simp only [Value.slice.injEq] at ey ez
          obtain ⟨rfl, -, rfl⟩ := ey
          obtain ⟨rfl, -, rfl⟩ := ez
          obtain ⟨X, hX⟩ : ∃ X, X = Op.cf a k := ⟨_, rfl⟩
          rw [← hX] at cy cz
          have ey : ∀ n, (w3.drewN n).cell? ⟨gy, oy + k, none⟩ = some (.int .i64 X) := fun n => cy
          have ez : ∀ n, (w3.drewN n).cell? ⟨gz, oz + k, none⟩ = some (.int .i64 X) := fun n => cz
          clear hX hy hz cy cz
          go_wp2_with fail
          go_quiet (fail)
          go_wp2_with fail
          go_roundw
          case rel => exact ⟨k + 1, _, by simp, by omega, rfl⟩
          case measure => simp [intOf]; omega
        · obtain rfl : k = la := by omega
          have hka : ¬ (k : Int) < (k : Int) := by omega
          go_wp2_with fail
          refine (rlift7_any a _ p r t _ (HU3.out.later ((Gr.refl w3).drewN q)) (Nat.le_trans (Nat.le_of_eq HLA.out.symm) hla) hp HR.out ht).mono ?_
          rintro e w4 ⟨x', E', rfl, hl, hg⟩
          obtain ⟨rfl, rfl⟩ := HL.out.unique hl
          have HG4 := Lib.hid (((Gr.refl w3).drewN q).trans hg)
          clear hl hg d0 d1 d2 d3
          go_wp2_with fail
          refine (awake7_any _).mono ?_
          rintro e w5 ⟨rfl, hg⟩
          have HG5 := Lib.hid hg
          clear hg
          go_wp2_with fail
          go_ret
          exact ⟨rfl, (HG3.out.trans HG4.out).trans HG5.out⟩
end Go.Proofs.Ytplfeeaocjgliaa
