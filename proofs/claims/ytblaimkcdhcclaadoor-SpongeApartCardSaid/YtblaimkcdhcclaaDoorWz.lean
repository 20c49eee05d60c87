/- Regions that draw their order and end with an operation that waits for all others: a condition on the world is held behind all operations but that last one (it may write what the others read). -/
import Derived.Test.YtblaimkcdhcclaaDoorBase
import Derived.Deep.RegionHeld
import Derived.StillTail
namespace Oy
open Go
set_option linter.unusedVariables false
section
variable {P : Program} {ops : Array Oper} {Q : Exit → Act → World → Prop} {md : Region.Mode} {S : World → Prop} {z : Nat}
/-- Whatever comes up next; S holds behind each operation but number z. -/
def AnyBut (P : Program) (md : Region.Mode) (ops : Array Oper) (Q : Exit → Act → World → Prop) (S : World → Prop) (z : Nat) : Nat → Array Bool → Act → World → Prop
  | 0, listed, a, w => Region.ready md ops listed = [] ∧ Q .normal a w
  | n + 1, listed, a, w => (Region.ready md ops listed = [] → Q .normal a w) ∧
      ∀ j ∈ Region.ready md ops listed, wpOp P ops Q j (fun b u => (j = z ∨ S u) ∧ AnyBut P md ops Q S z n (listed.setIfInBounds j true) b u) a w
theorem AnyBut.any : ∀ {n : Nat} {listed : Array Bool} {a : Act} {w : World}, AnyBut P md ops Q S z n listed a w → wpAny P md ops Q n listed a w
  | 0, _, _, _, h => h
  | n + 1, _, _, _, h => ⟨h.1, fun j hj => wpOp_mono (fun _ _ k => k.2.any) (h.2 j hj)⟩
/-- What waits for i, which has not come up, can't come up. -/
theorem not_ready {i j : Nat} {listed : Array Bool} (hw : Region.waitsFor md ops j i = true) (hi : listed.getD i true = false) : j ∉ Region.ready md ops listed := fun hj => by
  obtain ⟨_, o, ho, hall⟩ := mem_ready.1 hj
  obtain ⟨o', ho', e, he, hb, hon⟩ := Region.waitsFor_spec hw
  obtain rfl : o = o' := Option.some.inj (ho.symm.trans ho')
  have h1 := hall e he hb
  rw [hon, getD_both hi] at h1
  cases h1
theorem AnyBut.take {i : Nat} {o : Oper} {v : Value} (hi : ops[i]? = some o) (hs : Region.noSelect ops = true) (hz : Region.waitsFor md ops z i = true)
    (hQ : ∀ c a w, Q (.panic c) (a.put o.dst v) w → Q (.panic c) a w) :
    ∀ {n : Nat} {listed : Array Bool} {a : Act} {w : World}, Region.free md ops listed i = true → (Region.ready md ops listed).contains i = true → YieldsIf P ops S o v a → S w →
      AnyBut P md ops Q S z n (listed.setIfInBounds i true) (a.put o.dst v) w → AnyBut P md ops Q S z (n + 1) listed a w := by
  have key : ∀ (n : Nat) (listed : Array Bool) (a : Act) (w : World),
      (∀ j oj, ops[j]? = some oj → j ≠ i → listed.getD j true = false → (∀ e ∈ oj.after, Region.binds md e = true → e.on ≠ i) → o.apart ops oj = true) → i ∈ Region.ready md ops listed → YieldsIf P ops S o v a → S w →
      AnyBut P md ops Q S z n (listed.setIfInBounds i true) (a.put o.dst v) w → AnyBut P md ops Q S z (n + 1) listed a w := by
    intro n
    induction n with
    | zero =>
      intro listed a w _ hr hy hw H
      refine ⟨fun h0 => absurd (h0 ▸ hr) List.not_mem_nil, fun j hj => ?_⟩
      by_cases hji : j = i
      · subst hji
        exact hy.wpOp hi hw ⟨.inr hw, H⟩
      · exact absurd (H.1 ▸ ready_mono hj hji) List.not_mem_nil
    | succ n ih =>
      intro listed a w hf hr hy hw H
      have hun := (mem_ready.1 hr).1
      refine ⟨fun h0 => absurd (h0 ▸ hr) List.not_mem_nil, fun j hj => ?_⟩
      by_cases hji : j = i
      · subst hji
        exact hy.wpOp hi hw ⟨.inr hw, H⟩
      · have hjz : j ≠ z := fun e => not_ready hz hun (e ▸ hj)
        obtain ⟨hju, oj, hoj, hall⟩ := mem_ready.1 hj
        have hno : ∀ e ∈ oj.after, Region.binds md e = true → e.on ≠ i := fun e he hb heq => by
          have h1 := hall e he hb
          rw [heq, getD_both hun] at h1
          cases h1
        have sel := Region.noSelect_spec hs
        refine wpOp_mono (fun b u k => ⟨.inr (k.2.1.resolve_left hjz), ?_⟩) (wpOp_putIf hoj (hf j oj hoj hji hju hno) (fun cs b => sel i o cs b hi) (fun cs b => sel j oj cs b hoj) hQ hy (H.2 j (ready_mono hj hji)))
        refine ih _ b u (fun k ok hk hki hku hkn => hf k ok hk hki ?_ hkn) (ready_mono hr (Ne.symm hji)) k.1 (k.2.1.resolve_left hjz) ?_
        · by_cases hkj : k = j
          · subst hkj
            exact hju
          · rwa [getD_set_ne true (Ne.symm hkj)] at hku
        · rw [Array.setIfInBounds_comm _ _ hji]
          exact k.2.2
  intro n listed a w hf hr hy hw H
  exact key n listed a w (Region.free_spec hi hf) (by simpa using hr) hy hw H
/-- The operations rs may come up next. -/
def ReadyBut (P : Program) (md : Region.Mode) (ops : Array Oper) (Q : Exit → Act → World → Prop) (S : World → Prop) (z n : Nat) (listed : Array Bool) (a : Act) (w : World) (rs : List Nat) : Prop :=
  ∀ j ∈ rs, wpOp P ops Q j (fun b u => (j = z ∨ S u) ∧ AnyBut P md ops Q S z n (listed.setIfInBounds j true) b u) a w
theorem ReadyBut.nil {n : Nat} {listed : Array Bool} {a : Act} {w : World} : ReadyBut P md ops Q S z n listed a w [] := fun _ h => by cases h
theorem ReadyBut.cons {n : Nat} {listed : Array Bool} {a : Act} {w : World} {j : Nat} {o : Oper} {rs : List Nat} (ho : ops[j]? = some o)
    (h : ∀ K : Act → World → Prop, Shut (∀ b u, S u → AnyBut P md ops Q S z n (listed.setIfInBounds j true) b u → K b u) → if Region.wanted o (yielded ops a.tmps) = true then Oper.wp P o a w K Q else K (a.put o.dst undef) w)
    (hs : ReadyBut P md ops Q S z n listed a w rs) : ReadyBut P md ops Q S z n listed a w (j :: rs) := fun k hk => by
  rcases List.mem_cons.1 hk with rfl | hk
  · exact wpOp_step ho fun K hK => h K fun b u hS hA => hK b u ⟨.inr hS, hA⟩
  · exact hs k hk
/-- The last one comes up: nothing is to be shown of the world behind it. -/
theorem ReadyBut.last {n : Nat} {listed : Array Bool} {a : Act} {w : World} {o : Oper} (ho : ops[z]? = some o)
    (h : ∀ K : Act → World → Prop, Shut (∀ b u, AnyBut P md ops Q S z n (listed.setIfInBounds z true) b u → K b u) → if Region.wanted o (yielded ops a.tmps) = true then Oper.wp P o a w K Q else K (a.put o.dst undef) w) :
    ReadyBut P md ops Q S z n listed a w [z] := fun k hk => by
  obtain rfl : k = z := by simpa using hk
  exact wpOp_step ho fun K hK => h K fun b u hA => hK b u ⟨.inl rfl, hA⟩
theorem AnyBut.ready {rs : List Nat} {n : Nat} {listed : Array Bool} {a : Act} {w : World} (hr : Region.ready md ops listed = rs) (hne : rs ≠ []) (h : ReadyBut P md ops Q S z n listed a w rs) : AnyBut P md ops Q S z (n + 1) listed a w :=
  ⟨fun h0 => absurd (hr ▸ h0) hne, hr ▸ h⟩
theorem AnyBut.done {listed : Array Bool} {a : Act} {w : World} (hr : Region.ready md ops listed = []) (h : Q .normal a w) : ∀ n, AnyBut P md ops Q S z n listed a w
  | 0 => ⟨hr, h⟩
  | _ + 1 => ⟨fun _ => h, by rw [hr]; simp⟩
theorem region_but (S : World → Prop) (z : Nat) {id : Nat} {a : Act} {w : World} (hm : P.follows .mixedOrders = true) (h : AnyBut P .any ops Q S z ops.size (Array.replicate ops.size false) a w.drew) : (Code.region id ops true).wp P Q a w :=
  wp_region_any hm h.any
end
end Oy
