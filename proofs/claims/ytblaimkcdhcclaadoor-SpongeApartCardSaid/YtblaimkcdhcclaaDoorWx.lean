/- Arguments: five words; slices of strings. -/
import Derived.Test.YtblaimkcdhcclaaDoorWe
import Derived.Test.YtblaimkcdhcclaaDoorWj
import Derived.ProofKit
import Derived.OpenShut
import Derived.Lib.SmallJoins
import Derived.ChangeMaps5
import Derived.SliceStrings
namespace Go.Proofs.YtblaimkcdhcclaaDoor
open Go.ChangeShapes Go.WideShapes Go.ChangeAt Go.RowKit Go.Joins Go.Deep Oz
set_option linter.unusedVariables false
set_option maxRecDepth 100000
theorem addr_flat {w : World} {a : Addr} {v : Value} (h : w.cell? (a.add 0) = some v) : ∃ g o, a = ⟨g, o, none⟩ := by
  obtain ⟨g, o, s⟩ := a
  cases s with
  | none => exact ⟨g, o, rfl⟩
  | some s =>
    have e : (⟨g, o, some s⟩ : Addr).add 0 = ⟨g, o, some s⟩ := rfl
    rw [e] at h
    simp only [World.cell?] at h
    split at h <;> simp_all
theorem word_of {H : Type} {enc : TypeId × Value → H} {w : World} {base : Nat} {spare : Nat → Bool} {held : Bool} {m : Nat} {c : Value} {x : DataW H × List MemPlace} (h : DataW.trod enc Tryd.prog w base spare held m 22 [c] = some x) : ∃ a : BitVec 64, c = .int .u64 (nv a) := by
  obtain ⟨z, k, _, hw⟩ := DataW.trod_int Tryd.underlying22 h
  simp only [List.cons.injEq, and_true] at k
  subst k
  have b := bounds_u64 hw
  obtain ⟨n, rfl⟩ := Int.eq_ofNat_of_zero_le b.1
  exact ⟨BitVec.ofNat 64 n, by rw [nv_of n (by omega)]⟩
theorem five {l : List Value} (hl : l.length = 5) : ∃ x0 x1 x2 x3 x4, l = [x0, x1, x2, x3, x4] := by
  match l, hl with
  | [y0, y1, y2, y3, y4], _ => exact ⟨_, _, _, _, _, rfl⟩
theorem open_words {H : Type} {enc : TypeId × Value → H} {w : World} {base : Nat} {spare : Nat → Bool} {held : Bool} {fuel : Nat} {cs : List Value} {x : DataW H × List MemPlace} (h : DataW.trod enc Tryd.prog w base spare held fuel 23 cs = some x) : ∃ s : St, cs = [.int .u64 (nv s.a), .int .u64 (nv s.b), .int .u64 (nv s.c), .int .u64 (nv s.d), .int .u64 (nv s.e)] := by
  obtain ⟨xs, m, _, _, hl, hxs, hall⟩ := DataW.trod_array Tryd.underlying23 h
  rw [show Tryd.prog.cellsOf 23 = 5 from by kernel_rfl] at hl
  rw [show Tryd.prog.cellsOf 22 = 1 from by kernel_rfl] at hall
  obtain ⟨c0, c1, c2, c3, c4, rfl⟩ := five hl
  have each : ∀ i, i < 5 → ∃ y, xs[i]? = some y := fun i hi => ⟨xs[i]'(by omega), List.getElem?_eq_getElem (by omega)⟩
  obtain ⟨y0, k0⟩ := each 0 (by omega)
  obtain ⟨y1, k1⟩ := each 1 (by omega)
  obtain ⟨y2, k2⟩ := each 2 (by omega)
  obtain ⟨y3, k3⟩ := each 3 (by omega)
  obtain ⟨y4, k4⟩ := each 4 (by omega)
  have h0 := (hall 0 (by omega)).trans k0
  have h1 := (hall 1 (by omega)).trans k1
  have h2 := (hall 2 (by omega)).trans k2
  have h3 := (hall 3 (by omega)).trans k3
  have h4 := (hall 4 (by omega)).trans k4
  obtain ⟨a0, rfl⟩ := word_of (c := c0) h0
  obtain ⟨a1, rfl⟩ := word_of (c := c1) h1
  obtain ⟨a2, rfl⟩ := word_of (c := c2) h2
  obtain ⟨a3, rfl⟩ := word_of (c := c3) h3
  obtain ⟨a4, rfl⟩ := word_of (c := c4) h4
  exact ⟨⟨a0, a1, a2, a3, a4⟩, rfl⟩
theorem open_state {H : Type} {enc : TypeId × Value → H} {w : World} {base : Nat} {spare : Nat → Bool} {held : Bool} {r : Reach} {b0 : Nat} {v : Value} {d : DataW H} {p : List MemPlace}
    (hv : Value.okWide Tryd.prog w r b0 23 v) (h : DataW.Trod enc Tryd.prog w base spare held 23 v d p) : ∃ s : St, v = stv s := by
  have hc : ∃ cs : Array Value, v = .agg cs := by
    simp only [Value.okWide, Tryd.underlying23] at hv
    obtain ⟨cs, h1, _⟩ := hv
    exact ⟨cs, h1⟩
  obtain ⟨⟨l⟩, rfl⟩ := hc
  obtain ⟨fuel, hf⟩ := h
  obtain ⟨s, hs⟩ := open_words hf
  have e : l = [.int .u64 (nv s.a), .int .u64 (nv s.b), .int .u64 (nv s.c), .int .u64 (nv s.d), .int .u64 (nv s.e)] := hs
  exact ⟨s, by rw [e]; rfl⟩
theorem open_strs {H : Type} {enc : TypeId × Value → H} {w : World} {base : Nat} {held : Bool} {r : Reach} {b0 : Nat} {v : Value} {d : DataW H} {p : List MemPlace}
    (hv : Value.okWide Tryd.prog w r b0 29 v) (h : DataW.Trod enc Tryd.prog w base (fun _ => true) held 29 v d p) : ∃ n S, HasStr w v n S ∧ ∀ i, (S i).size ≤ 9223372036854775807 := by
  obtain ⟨a, len, cap, rfl⟩ := okWide_slice Tryd.underlying29 hv
  obtain ⟨fuel, hf⟩ := h
  rcases open_strings Tryd.underlying29 Tryd.underlying9 (by kernel_rfl) hf with ⟨e, _⟩ | ⟨a', len', cap', ss, e, hb, hl, hm, hss, _, hcell, hsz⟩
  · simp [Value.cells] at e
    obtain ⟨rfl, rfl, rfl⟩ := e
    exact ⟨0, fun _ => ByteArray.empty, ⟨none, 0, rfl, Nat.le_refl _, by omega, fun i hi => absurd hi (by omega)⟩, fun i => by show ByteArray.empty.size ≤ 9223372036854775807; decide⟩
  · simp [Value.cells] at e
    obtain ⟨rfl, rfl, rfl⟩ := e
    unfold maxLen at hm hsz
    simp only [if_true] at hss
    refine ⟨len, fun i => ss.getD i ByteArray.empty, ⟨some a', cap, rfl, hl, by omega, fun i hi => ?_⟩, fun i => ?_⟩
    · have h0 := hcell 0 (by omega)
      obtain ⟨g, o, rfl⟩ := addr_flat h0
      refine ⟨g, o, rfl, ?_⟩
      have h1 := hcell i (by omega)
      rw [show (⟨g, o, none⟩ : Addr).add i = ⟨g, o + i, none⟩ from by unfold Addr.add; split <;> simp_all] at h1
      exact h1
    · show (ss.getD i ByteArray.empty).size ≤ _
      rw [List.getD_eq_getElem?_getD]
      cases hx : ss[i]? with
      | none => decide
      | some s => exact hsz s (List.mem_of_getElem? hx)
theorem thirteen {l : List Value} (hl : l.length = 13) : ∃ x0 x1 x2 x3 x4 x5 x6 x7 x8 x9 x10 x11 x12, l = [x0, x1, x2, x3, x4, x5, x6, x7, x8, x9, x10, x11, x12] := by
  match l, hl with
  | [y0, y1, y2, y3, y4, y5, y6, y7, y8, y9, y10, y11, y12], _ => exact ⟨_, _, _, _, _, _, _, _, _, _, _, _, _, rfl⟩
theorem open_pair {H : Type} {enc : TypeId × Value → H} {w : World} {base : Nat} {spare : Nat → Bool} {held : Bool} {r : Reach} {b0 : Nat} {v : Value} {d : DataW H} {p : List MemPlace}
    (hv : Value.okWide Tryd.prog w r b0 38 v) (h : DataW.Trod enc Tryd.prog w base spare held 38 v d p) :
    ∃ (x y : St) (m n : Int) (s : ByteArray), v = .agg #[.int .u64 (nv x.a), .int .u64 (nv x.b), .int .u64 (nv x.c), .int .u64 (nv x.d), .int .u64 (nv x.e), .int .u64 (nv y.a), .int .u64 (nv y.b), .int .u64 (nv y.c), .int .u64 (nv y.d), .int .u64 (nv y.e), .int .i64 m, .int .i64 n, .string s] ∧
      (-9223372036854775808 ≤ m ∧ m ≤ 9223372036854775807) ∧ (-9223372036854775808 ≤ n ∧ n ≤ 9223372036854775807) ∧ s.size ≤ 9223372036854775807 := by
  obtain ⟨⟨l⟩, rfl, hsz⟩ := okWide_struct Tryd.underlying38 hv
  obtain ⟨fuel, hf⟩ := h
  rw [show Tryd.prog.cellsOf 38 = 13 from by kernel_rfl] at hsz
  obtain ⟨c0, c1, c2, c3, c4, c5, c6, c7, c8, c9, c10, c11, c12, rfl⟩ := thirteen (show l.length = 13 from hsz)
  obtain ⟨xs, k, -, -, -, hlen, hall⟩ := DataW.trod_struct Tryd.underlying38 hf
  have each : ∀ i, i < 5 → ∃ y, xs[i]? = some y := fun i hi => ⟨xs[i]'(by rw [hlen]; exact hi), List.getElem?_eq_getElem _⟩
  obtain ⟨y0, k0⟩ := each 0 (by omega)
  obtain ⟨y1, k1⟩ := each 1 (by omega)
  obtain ⟨y2, k2⟩ := each 2 (by omega)
  obtain ⟨y3, k3⟩ := each 3 (by omega)
  obtain ⟨y4, k4⟩ := each 4 (by omega)
  have h0 : DataW.trod enc Tryd.prog w base spare held k 23 [c0, c1, c2, c3, c4] = some y0 := (hall 0 _ rfl).trans k0
  have h1 : DataW.trod enc Tryd.prog w base spare held k 23 [c5, c6, c7, c8, c9] = some y1 := (hall 1 _ rfl).trans k1
  have h2 : DataW.trod enc Tryd.prog w base spare held k 3 [c10] = some y2 := (hall 2 _ rfl).trans k2
  have h3 : DataW.trod enc Tryd.prog w base spare held k 3 [c11] = some y3 := (hall 3 _ rfl).trans k3
  have h4 : DataW.trod enc Tryd.prog w base spare held k 9 [c12] = some y4 := (hall 4 _ rfl).trans k4
  obtain ⟨x, hx⟩ := open_words h0
  obtain ⟨y, hy⟩ := open_words h1
  obtain ⟨m, e2, _, w2⟩ := DataW.trod_int Tryd.underlying3 h2
  obtain ⟨n, e3, _, w3⟩ := DataW.trod_int Tryd.underlying3 h3
  obtain ⟨s, e4, _, w4⟩ := DataW.trod_string Tryd.underlying9 h4
  simp only [List.cons.injEq, and_true] at hx hy e2 e3 e4
  obtain ⟨rfl, rfl, rfl, rfl, rfl⟩ := hx
  obtain ⟨rfl, rfl, rfl, rfl, rfl⟩ := hy
  subst e2 e3 e4
  have b2 := bounds_i64 w2
  have b3 := bounds_i64 w3
  unfold maxLen at w4
  exact ⟨x, y, m, n, s, rfl, by omega, by omega, by omega⟩
theorem own : ownKnob Tryd.prog.godebug = none := by kernel_rfl
theorem laidOut : laidOutB Tryd.prog = true := by kernel_rfl
end Go.Proofs.YtblaimkcdhcclaaDoor
