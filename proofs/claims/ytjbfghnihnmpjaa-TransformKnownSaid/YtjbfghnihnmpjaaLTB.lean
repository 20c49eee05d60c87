import Derived.Test.YtjbfghnihnmpjaaLTA
/- Package transform: New and Root. -/
namespace Go.Proofs.Ytjbfghnihnmpjaa
open Go.RowKit
set_option linter.unusedVariables false

/-- The cells of a table. -/
def tcells (n q : Int) (P : List Int) (s : Int) (v : Value) : Array Value := (Value.int .i64 n :: Value.int .u32 q :: (P.map (Value.int .u32 ·) ++ [Value.int .u32 s, v])).toArray
theorem zero_table (w : World) : (zeroValue 41).run Try.prog w = .ok (.agg (tcells 0 0 (List.replicate 64 0) 0 (.pointer none))) w := by kernel_rfl
theorem tcells_size (n q : Int) (P : List Int) (s : Int) (v : Value) : (tcells n q P s v).size = P.length + 4 := by simp [tcells]
theorem tcells_0 (n q : Int) (P : List Int) (s : Int) (v : Value) : (tcells n q P s v)[0]? = some (.int .i64 n) := rfl
theorem tcells_1 (n q : Int) (P : List Int) (s : Int) (v : Value) : (tcells n q P s v)[1]? = some (.int .u32 q) := rfl
theorem tcells_at (n q : Int) (P : List Int) (s : Int) (v : Value) (k : Nat) (h : k < P.length) : (tcells n q P s v)[2 + k]? = some (.int .u32 (Op.cf P k)) := by
  rw [← Op.cf_at]
  simp only [tcells, List.getElem?_toArray, show 2 + k = k + 1 + 1 by omega, List.getElem?_cons_succ]
  rw [List.getElem?_append_left (by simpa using h)]
  simp [h]
theorem tcells_s (n q : Int) (P : List Int) (s : Int) (v : Value) (h : P.length = 64) : (tcells n q P s v)[66]? = some (.int .u32 s) := by
  simp only [tcells, List.getElem?_toArray, show 66 = 64 + 1 + 1 by omega, List.getElem?_cons_succ]
  rw [List.getElem?_append_right (by simp [h])]
  simp [h]
theorem tcells_v (n q : Int) (P : List Int) (s : Int) (v : Value) (h : P.length = 64) : (tcells n q P s v)[67]? = some v := by
  simp only [tcells, List.getElem?_toArray, show 67 = 65 + 1 + 1 by omega, List.getElem?_cons_succ]
  rw [List.getElem?_append_right (by simp [h])]
  simp [h]
theorem tcells_set0 (n q m : Int) (P : List Int) (s : Int) (v : Value) : (tcells n q P s v).setIfInBounds 0 (.int .i64 m) = tcells m q P s v := by simp [tcells]
theorem tcells_set1 (n q m : Int) (P : List Int) (s : Int) (v : Value) : (tcells n q P s v).setIfInBounds 1 (.int .u32 m) = tcells n m P s v := by simp [tcells]
theorem tcells_setP (n q x : Int) (P : List Int) (s : Int) (v : Value) (k : Nat) (h : k < P.length) : (tcells n q P s v).setIfInBounds (2 + k) (.int .u32 x) = tcells n q (P.set k x) s v := by
  simp only [tcells, List.setIfInBounds_toArray, show 2 + k = k + 1 + 1 by omega, List.set_cons_succ]
  rw [List.set_append_left _ _ (by simpa using h), List.map_set]
theorem tcells_setS (n q s' : Int) (P : List Int) (s : Int) (v : Value) (h : P.length = 64) : (tcells n q P s v).setIfInBounds 66 (.int .u32 s') = tcells n q P s' v := by
  simp only [tcells, List.setIfInBounds_toArray, show 66 = 64 + 1 + 1 by omega, List.set_cons_succ]
  rw [List.set_append_right _ _ (by simp [h])]
  simp [h]
theorem tcells_setV (n q s : Int) (P : List Int) (v u : Value) (h : P.length = 64) : (tcells n q P s v).setIfInBounds 67 u = tcells n q P s u := by
  simp only [tcells, List.setIfInBounds_toArray, show 67 = 65 + 1 + 1 by omega, List.set_cons_succ]
  rw [List.set_append_right _ _ (by simp [h])]
  simp [h]

/-- Block T holds a table's cells. -/
def TB (W : World) (T : Nat) (cs : Array Value) : Prop := W.heap[T]? = some (.cells cs 41 (0, 0))
theorem TB.cell {W : World} {g : Nat} {cur : Array Value} (h : TB W g cur) (j : Nat) : W.cell? ⟨g, j, none⟩ = cur[j]? := by
  simp [World.cell?, show W.heap[g]? = _ from h]
theorem TB.frozen {W : World} {g : Nat} {cur : Array Value} (h : TB W g cur) (j : Nat) : W.frozen? ⟨g, j, none⟩ = false := by
  simp [World.frozen?, show W.heap[g]? = _ from h]
theorem TB.set {W : World} {g : Nat} {cur : Array Value} (h : TB W g cur) (j : Nat) (u : Value) : TB (W.setCell ⟨g, j, none⟩ u) g (cur.setIfInBounds j u) := by
  obtain ⟨hlt, hk⟩ := Array.getElem?_eq_some_iff.1 (show W.heap[g]? = _ from h)
  show (W.heap.modify g _)[g]? = _
  rw [Array.getElem?_eq_getElem (by rw [Array.size_modify]; exact hlt), Array.getElem_modify_self, hk]
  rfl
theorem TB.new (w : World) (cur : Array Value) : TB (w.alloc (.cells cur 41)) w.heap.size cur := heap_alloc_new w _
theorem TB.lt {W : World} {g : Nat} {cur : Array Value} (h : TB W g cur) : g < W.heap.size := (Array.getElem?_eq_some_iff.1 (show W.heap[g]? = _ from h)).1
theorem TB.later {W W' : World} {g : Nat} {cur : Array Value} (h : TB W g cur) (k : Gr W W') : TB W' g cur := by
  show W'.heap[g]? = _
  rw [k.block g h.lt]; exact h
theorem TB.tab {W : World} {T n q psi s : Nat} {P : List Int} (h : TB W T (tcells n q P s (.pointer (some ⟨T, 0, none⟩)))) (hP : P.length = 64) (hn : n ≤ 32) (hp : ∀ k, k < 2 * n → Op.cf P k = ((psi ^ k % q : Nat) : Int)) : IsTab W T n q psi s :=
  ⟨by rw [h.cell, tcells_0], by rw [h.cell, tcells_1], fun k hk => by rw [h.cell, tcells_at _ _ _ _ _ _ (by omega), hp k hk], by rw [h.cell, tcells_s _ _ _ _ _ hP], by rw [h.cell, tcells_v _ _ _ _ _ hP]⟩

/-- A dimension and a prime that fits. -/
def Fit (n : Int) (q : Nat) : Prop := ∃ m : Nat, n = m ∧ Dim m ∧ q ≤ 2147483647 ∧ Ob.Pr q ∧ (q - 1) % (2 * m) = 0
theorem Num.fit {n q psi s : Nat} (h : Num n q psi s) : Fit n q := ⟨n, rfl, h.dim, h.le, h.pr, h.div⟩
/-- What New returns. -/
def NewT (n : Int) (q : Nat) (w : World) (e : Ending) (w' : World) : Prop :=
  Gr w w' ∧ ((∃ m psi s T : Nat, n = m ∧ Num m q psi s ∧ e = .returned (.tuple #[.pointer (some ⟨T, 0, none⟩), .int .i64 0]) ∧ IsTab w' T m q psi s ∧ w.heap.size ≤ T) ∨ (¬ Fit n q ∧ e = .returned (.tuple #[.pointer none, .int .i64 2])))

theorem pr_coprime {n q : Nat} (hq : Ob.Pr q) (h1 : 1 ≤ n) (h2 : n < q) : Nat.gcd n q = 1 := by
  have hd := Nat.gcd_dvd_right n q
  have hn := Nat.gcd_dvd_left n q
  have hle := Nat.le_of_dvd (by omega) hn
  apply Classical.byContradiction
  intro h
  have h0 : Nat.gcd n q ≠ 0 := fun e => by rw [e] at hn; have := Nat.eq_zero_of_zero_dvd hn; omega
  exact hq.2 (Nat.gcd n q) (by omega) (by omega) hd
theorem pow_next {psi q k : Nat} : psi ^ k % q * psi % q = psi ^ (k + 1) % q := by
  rw [Nat.pow_succ, Nat.mul_mod, Nat.mod_mod, ← Nat.mul_mod]

set_option maxRecDepth 100000 in
set_option maxHeartbeats 4000000 in
theorem new_dims (n q : Nat) (w : World) (hq : q ≤ 4294967295) (hd : Dim n) :
    Calls Try.prog 23 #[.int .i64 n, .int .u32 q] w (NewT n q w) := by
  have hd' := hd
  unfold Dim at hd'
  have HDD := Lib.hid hd
  have HD := Lib.hid (show ((n : Int) = 2 ∨ (n : Int) = 4 ∨ (n : Int) = 8 ∨ (n : Int) = 16 ∨ (n : Int) = 32) by omega)
  have h2 : 2 ≤ n := by omega
  have h3 : n ≤ 32 := by omega
  clear hd hd'
  have hz := zero_table
  obtain ⟨Z, hZ⟩ : ∃ Z, Z = tcells 0 0 (List.replicate 64 0) 0 (.pointer none) := ⟨_, rfl⟩
  have hsz : Z.size = 68 := by rw [hZ, tcells_size]; rfl
  have HC := Lib.hid (show (Z.setIfInBounds 0 (.int .i64 n)).setIfInBounds 1 (.int .u32 q) = tcells n q (List.replicate 64 0) 0 (.pointer none) by rw [hZ, tcells_set0, tcells_set1])
  obtain ⟨L0, hL0⟩ : ∃ L0 : List Int, L0 = List.replicate 64 0 := ⟨_, rfl⟩
  rw [← hL0] at HC
  have HL0 := Lib.hid (show L0.length = 64 by rw [hL0]; simp)
  clear hL0
  rw [← hZ] at hz
  have hne : ¬ Z = #[] := fun e => by rw [e] at hsz; simp at hsz
  have hsz2 : ¬ Z.size < 2 := by omega
  clear hZ
  go_enter Try.func23, Try.ntmps23
  go_wp2_with fail
  refine (dimension_any _ _).mono ?_
  rintro e w1 ⟨rfl, rfl⟩
  rw [decide_eq_true HD.out]
  go_wp2_with fail
  refine (root_any (2 * n) q _ (by omega) hq).mono ?_
  rintro e w1 ⟨psi, c, rfl, hres, hg⟩
  have HG := Lib.hid hg
  clear hg
  by_cases hc : c = 0
  · subst hc
    obtain ⟨⟨⟨q1, q2⟩, -, -, q3⟩, -, q4⟩ : RootOk q (2 * n) ∧ (0 : Int) = 0 ∧ Ob.LeastOrd q (2 * n) psi := by
      rcases hres with ⟨_, _, h⟩ | ⟨_, _, h⟩ | ⟨_, _, h⟩ | h
      · omega
      · omega
      · omega
      · exact h
    have q5 := q2.1
    have q6 : psi < q := q4.2.1
    have q7 : 2 * n ≤ q - 1 := Nat.le_of_dvd (by omega) (Nat.dvd_of_mod_eq_zero q3)
    have HQ1 := Lib.hid q2
    have HQ3 := Lib.hid q3
    have HQ4 := Lib.hid q4
    have HQ := Lib.hid (show 1 ≤ (q : Int) ∧ (q : Int) ≤ 2147483647 by omega)
    have HGC := Lib.hid (pr_coprime q2 (show 1 ≤ n by omega) (by omega))
    clear q2 q3 q4 hres
    go_wp2_with fail
    rw [HC.out]
    clear hz hne hsz2 hsz
    go_loopw [9, 10, 30] (fun p _ t wr => ∃ (k : Nat) (P : List Int) (x : Nat), t = .int .i64 k ∧ k ≤ 2 * n ∧ p = .int .u32 x ∧ x = psi ^ k % q ∧ P.length = 64 ∧ (∀ j, j < k → Op.cf P j = ((psi ^ j % q : Nat) : Int)) ∧ TB wr w1.heap.size (tcells n q P 0 (.pointer none)) ∧ Gr w wr) (fun _ _ t _ => 2 * n - (intOf t).toNat)
    case atStart => exact ⟨0, L0, 1, rfl, by omega, rfl, by rw [Nat.pow_zero, Nat.mod_eq_of_lt (by omega)], HL0.out, fun j hj => by omega, TB.new w1 _, HG.out.alloc _⟩
    case round =>
      obtain ⟨k, P, x, rfl, hk, rfl, hx, hP, hval, htb, hg⟩ := hrel
      have hxq : x < q := by rw [hx]; exact Nat.mod_lt _ (by omega)
      have HX := Lib.hid hx
      have HP := Lib.hid hP
      have HV := Lib.hid hval
      have HT := Lib.hid htb
      have HG1 := Lib.hid hg
      clear hx hP hval htb hg
      have hsz := HG.out.size
      by_cases hlt : k < 2 * n
      · have i1 : (k : Int) < 2 * (n : Int) := by omega
        have hc1 := HT.out.cell (2 + k)
        rw [tcells_at _ _ _ _ _ k (by rw [HP.out]; omega)] at hc1
        have hf1 := HT.out.frozen (2 + k)
        have HT2 := Lib.hid (HT.out.set (2 + k) (.int .u32 x))
        rw [tcells_setP _ _ _ _ _ _ k (by rw [HP.out]; omega)] at HT2
        have HG2 := Lib.hid (HG1.out.setCell (p := ⟨w1.heap.size, 2 + k, none⟩) hsz (.int .u32 x))
        go_wp2_with fail
        refine (plus_any q 0 x psi w1.heap.size _ HQ.out (by rw [HT2.out.cell, tcells_1]) (by omega) (by omega) (by omega)).mono ?_
        rintro e w2 ⟨rfl, rfl⟩
        rw [Int.zero_add, show (x : Int) * (psi : Int) % (q : Int) = ((x * psi % q : Nat) : Int) by simp]
        have HXN := Lib.hid (show x * psi % q = psi ^ (k + 1) % q from by rw [HX.out]; exact pow_next)
        have HL := Lib.hid (show x * psi % q < q from Nat.mod_lt _ (by omega))
        go_wp2_with fail
        go_roundw
        case rel => exact ⟨k + 1, P.set k x, x * psi % q, by go_num, by omega, rfl, HXN.out, by rw [List.length_set]; exact HP.out, fun j hj => by
          rw [cf_set P k x (by rw [HP.out]; omega)]
          by_cases e : j = k
          · rw [if_pos e, e, HX.out]
          · rw [if_neg e]; exact HV.out j (by omega), HT2.out, HG2.out⟩
        case measure => simp [intOf]; omega
      · obtain rfl : k = 2 * n := by omega
        have i1 : ¬ ((2 * n : Nat) : Int) < 2 * (n : Int) := by omega
        have hc1 := HT.out.cell 66
        rw [tcells_s _ _ _ _ _ HP.out] at hc1
        have hc2 := HT.out.cell 67
        rw [tcells_v _ _ _ _ _ HP.out] at hc2
        have hf1 := HT.out.frozen 66
        have hf2 := HT.out.frozen 67
        go_wp2_with fail
        refine (inverse_ok n q _ (by omega) q1 (by omega) HGC.out).mono ?_
        rintro e w2 ⟨b, ⟨rfl, hg⟩, hb⟩
        obtain ⟨s, rfl⟩ : ∃ s : Nat, b = s := ⟨b.toNat, by have := hb.1; omega⟩
        have HB := Lib.hid hb
        have HT2 := Lib.hid (HT.out.later hg)
        have HG2 := Lib.hid (HG1.out.trans hg)
        have hc1 := hg.keeps hc1
        have hc2 := hg.keeps hc2
        have hf1 := HT2.out.frozen 66
        have hf2 := HT2.out.frozen 67
        have HT3 := Lib.hid (HT2.out.set 66 (.int .u32 s))
        rw [tcells_setS _ _ _ _ _ _ HP.out] at HT3
        have HT4 := Lib.hid (HT3.out.set 67 (.pointer (some ⟨w1.heap.size, 0, none⟩)))
        rw [tcells_setV _ _ _ _ _ _ HP.out] at HT4
        clear hg hb
        go_wp2_with fail
        go_ret2
        exact ⟨(HG2.out.setCell (p := ⟨w1.heap.size, 66, none⟩) hsz _).setCell (p := ⟨w1.heap.size, 67, none⟩) hsz _, .inl ⟨n, psi, s, w1.heap.size, rfl, ⟨HDD.out, HQ1.out, q1, HQ3.out, HQ4.out, HB.out⟩, rfl, HT4.out.tab HP.out h3 HV.out, hsz⟩⟩
  · have HNO := Lib.hid (show ¬ Fit n q from fun ⟨m, e, _, f1, f2, f3⟩ => by
      obtain rfl : n = m := by omega
      rcases hres with ⟨h, _⟩ | ⟨⟨_, h⟩, _⟩ | ⟨⟨_, _, _, h⟩, _⟩ | ⟨_, h, _⟩
      · rcases h with h | h
        · exact h ⟨f1, f2⟩
        · omega
      · omega
      · exact h f3
      · exact hc h)
    have hcb : (c != 0) = true := by simpa using hc
    clear hc hres
    go_wp2_with fail
    go_ret2
    exact ⟨HG.out, .inr ⟨HNO.out, rfl⟩⟩

set_option maxRecDepth 100000 in
set_option maxHeartbeats 2000000 in
theorem new_dim (n : Int) (q : Nat) (w : World) (hd : ¬ (n = 2 ∨ n = 4 ∨ n = 8 ∨ n = 16 ∨ n = 32)) :
    Calls Try.prog 23 #[.int .i64 n, .int .u32 q] w (NewT n q w) := by
  have HD := Lib.hid hd
  have HNO := Lib.hid (show ¬ Fit n q from fun ⟨m, e, h, _⟩ => hd (by unfold Dim at h; omega))
  clear hd
  go_enter Try.func23, Try.ntmps23
  go_wp2_with fail
  refine (dimension_any _ _).mono ?_
  rintro e w1 ⟨rfl, rfl⟩
  rw [decide_eq_false HD.out]
  go_wp2_with fail
  go_ret2
  exact ⟨Gr.refl w, .inr ⟨HNO.out, rfl⟩⟩
theorem new_any (n : Int) (q : Nat) (w : World) (hq : q ≤ 4294967295) : Calls Try.prog 23 #[.int .i64 n, .int .u32 q] w (NewT n q w) := by
  by_cases h : n = 2 ∨ n = 4 ∨ n = 8 ∨ n = 16 ∨ n = 32
  · obtain ⟨m, rfl⟩ : ∃ m : Nat, n = m := ⟨n.toNat, by omega⟩
    exact new_dims m q w hq (by unfold Dim; omega)
  · exact new_dim n q w h
set_option maxRecDepth 100000 in
set_option maxHeartbeats 1000000 in
theorem tRoot_any (n q psi s T : Nat) (w : World) (h : IsTab w T n q psi s) (hN : Num n q psi s) :
    Calls Try.prog 22 #[.pointer (some ⟨T, 0, none⟩)] w (IsU psi w) := by
  have H := Lib.hid h
  have hd := hN.dims
  have hc := h.2.2.1 1 (by omega)
  rw [Nat.pow_one, Nat.mod_eq_of_lt hd.2.2.2.2.1] at hc
  clear h hd
  go_enter Try.func22, Try.ntmps22
  go_wp2_with fail
  refine (made_yes T _ H.out.2.2.2.2).mono ?_
  rintro e w1 ⟨rfl, hg⟩
  have HG := Lib.hid hg
  have hc := hg.keeps hc
  clear hg
  go_wp2_with fail
  go_ret
  exact ⟨rfl, HG.out⟩
set_option maxRecDepth 100000 in
set_option maxHeartbeats 1000000 in
theorem tRoot_none (v : Value) (w : World) (h : NoTab w v) :
    Calls Try.prog 22 #[v] w (IsU 0 w) := by
  have H := Lib.hid h
  clear h
  go_enter Try.func22, Try.ntmps22
  go_wp2_with fail
  refine (made_no v _ H.out).mono ?_
  rintro e w1 ⟨rfl, hg⟩
  have HG := Lib.hid hg
  clear hg
  go_wp2_with fail
  go_ret
  exact ⟨rfl, HG.out⟩
/-- What is no table does nothing. -/
theorem pFwd_none (v u : Value) (l : List Int) (w : World) (h : NoTab w v) (hu : HasP w u l) :
    Calls Try.prog 14 #[v, u] w (ListE [] 1 w) := by
  have H := Lib.hid h
  obtain ⟨-, xa, ca, rfl, -, -, -⟩ := hu
  clear h
  go_enter Try.func14, Try.ntmps14
  go_wp2_with fail
  refine (check_none v _ _ (H.out.later (Gr.new w _))).mono ?_
  rintro e w1 ⟨rfl, hg⟩
  have HG := Lib.hid ((Gr.new w _).trans hg)
  clear hg
  go_wp2_with fail
  go_ret2
  exact ListE.nil 1 HG.out
theorem pInv_none (v u : Value) (l : List Int) (w : World) (h : NoTab w v) (hu : HasP w u l) :
    Calls Try.prog 15 #[v, u] w (ListE [] 1 w) := by
  have H := Lib.hid h
  obtain ⟨-, xa, ca, rfl, -, -, -⟩ := hu
  clear h
  go_enter Try.func15, Try.ntmps15
  go_wp2_with fail
  refine (check_none v _ _ (H.out.later (Gr.new w _))).mono ?_
  rintro e w1 ⟨rfl, hg⟩
  have HG := Lib.hid ((Gr.new w _).trans hg)
  clear hg
  go_wp2_with fail
  go_ret2
  exact ListE.nil 1 HG.out
theorem pMul_none (v u u2 : Value) (l l2 : List Int) (w : World) (h : NoTab w v) (hu : HasP w u l) (hu2 : HasP w u2 l2) :
    Calls Try.prog 20 #[v, u, u2] w (ListE [] 1 w) := by
  have H := Lib.hid h
  obtain ⟨-, xa, ca, rfl, -, -, -⟩ := hu
  obtain ⟨-, xb, cb, rfl, -, -, -⟩ := hu2
  clear h
  go_enter Try.func20, Try.ntmps20
  go_wp2_with fail
  refine (check_none v _ _ (H.out.later (Gr.new w _))).mono ?_
  rintro e w1 ⟨rfl, hg⟩
  have HG := Lib.hid ((Gr.new w _).trans hg)
  clear hg
  go_wp2_with fail
  go_ret2
  exact ListE.nil 1 HG.out
end Go.Proofs.Ytjbfghnihnmpjaa
/- The transform: sums over the powers of a root. No Go here. -/
namespace Ot
open Op
set_option linter.unusedVariables false

/-- Congruent. -/
def C (q : Nat) (x y : Int) : Prop := (q : Int) ∣ x - y
theorem C.refl (q : Nat) (x : Int) : C q x x := ⟨0, by omega⟩
theorem C.of {q : Nat} {x y : Int} (h : x = y) : C q x y := by rw [h]; exact C.refl q y
theorem C.symm {q : Nat} {x y : Int} (h : C q x y) : C q y x := by
  obtain ⟨k, hk⟩ := h
  exact ⟨-k, by rw [Int.mul_neg]; omega⟩
theorem C.trans {q : Nat} {x y z : Int} (h : C q x y) (k : C q y z) : C q x z := by
  have := Int.dvd_add h k
  have e : x - y + (y - z) = x - z := by omega
  rw [e] at this; exact this
theorem C.add {q : Nat} {x y z t : Int} (h : C q x y) (k : C q z t) : C q (x + z) (y + t) := by
  have := Int.dvd_add h k
  have e : x - y + (z - t) = x + z - (y + t) := by omega
  rw [e] at this; exact this
theorem C.sub {q : Nat} {x y z t : Int} (h : C q x y) (k : C q z t) : C q (x - z) (y - t) := by
  have := Int.dvd_sub h k
  have e : x - y - (z - t) = x - z - (y - t) := by omega
  rw [e] at this; exact this
theorem C.mul {q : Nat} {x y z t : Int} (h : C q x y) (k : C q z t) : C q (x * z) (y * t) := by
  have h1 : (q : Int) ∣ (x - y) * z := Int.dvd_mul_of_dvd_left h
  have h2 : (q : Int) ∣ y * (z - t) := Int.dvd_mul_of_dvd_right k
  have := Int.dvd_add h1 h2
  have e : (x - y) * z + y * (z - t) = x * z - y * t := by rw [Int.sub_mul, Int.mul_sub]; omega
  rw [e] at this; exact this
theorem C.mod (q : Nat) (x : Int) : C q (x % q) x := dvd_mod q x
theorem C.S {q : Nat} {f g : Nat → Int} {n : Nat} (h : ∀ k, k < n → C q (f k) (g k)) : C q (S n f) (S n g) := by
  show (q : Int) ∣ _
  rw [← S_sub]
  exact S_dvd h
theorem C.eq {q : Nat} {x y : Int} (h : C q x y) (hx : 0 ≤ x ∧ x < q) (hy : 0 ≤ y ∧ y < q) : x = y := dvd_small h hx hy
theorem C.emod {q : Nat} {x y : Int} (h : C q x y) : x % q = y % q := Int.emod_eq_emod_iff_emod_sub_eq_zero.2 (Int.emod_eq_zero_of_dvd h)
theorem C.pow {q : Nat} {x y : Int} (h : C q x y) : ∀ k : Nat, C q (x ^ k) (y ^ k)
  | 0 => by rw [Int.pow_zero, Int.pow_zero]; exact C.refl q 1
  | k + 1 => by rw [Int.pow_succ, Int.pow_succ]; exact (C.pow h k).mul h
theorem C.nat {q a b : Nat} (h : a % q = b % q) : C q a b := by
  show (q : Int) ∣ _
  have h2 : (a : Int) % q = (b : Int) % q := by omega
  exact Int.dvd_of_emod_eq_zero (Int.emod_eq_emod_iff_emod_sub_eq_zero.1 h2)

theorem S_zero : ∀ n, S n (fun _ => 0) = 0
  | 0 => rfl
  | n + 1 => by rw [S, S_zero n]; omega
theorem S_swap (f : Nat → Nat → Int) (m : Nat) : ∀ n, S n (fun i => S m (fun j => f i j)) = S m (fun j => S n (fun i => f i j))
  | 0 => (S_zero m).symm
  | n + 1 => by
    have h := S_add (fun j => S n (fun i => f i j)) (fun j => f n j) m
    rw [S, S_swap f m n, ← h]; rfl
theorem S_mulr (f : Nat → Int) (c : Int) (n : Nat) : S n (fun k => f k * c) = S n f * c := by
  rw [Int.mul_comm, ← S_mul]; exact S_cong (fun k _ => Int.mul_comm _ _)
theorem S_ones : ∀ n : Nat, S n (fun _ => 1) = n
  | 0 => rfl
  | n + 1 => by rw [S, S_ones n]; omega
theorem geom (x : Int) : ∀ n : Nat, (x - 1) * S n (fun i => x ^ i) = x ^ n - 1
  | 0 => by simp [S]
  | n + 1 => by rw [S, Int.mul_add, geom x n, Int.sub_mul, Int.pow_succ, Int.mul_comm x]; omega

/-- A root of x^n + 1. -/
structure Rt (n q psi : Nat) : Prop where
  pr : Ob.Pr q
  pos : 1 ≤ n
  ord : Ob.Ord q psi (2 * n)
theorem Rt.one {n q psi : Nat} (h : Rt n q psi) {k : Nat} (hk : 2 * n ∣ k) : C q ((psi : Int) ^ k) 1 := by
  obtain ⟨m, rfl⟩ := hk
  have h1 := h.ord.1
  have hq := h.pr.1
  have e : psi ^ (2 * n * m) % q = 1 := by rw [Nat.pow_mul, Nat.pow_mod, h1, Nat.one_pow, Nat.mod_eq_of_lt (by omega)]
  have h2 := C.nat (q := q) (a := psi ^ (2 * n * m)) (b := 1) (by rw [e, Nat.mod_eq_of_lt (by omega)])
  rwa [Int.natCast_pow] at h2
theorem Rt.not_one {n q psi : Nat} (h : Rt n q psi) {k : Nat} (hk : ¬ 2 * n ∣ k) : ¬ (q : Int) ∣ (psi : Int) ^ k - 1 := fun hd => by
  apply hk
  apply h.ord.2
  have hq := h.pr.1
  have h2 : C q ((psi ^ k : Nat) : Int) ((1 : Nat) : Int) := by rw [Int.natCast_pow]; exact hd
  have h3 := h2.emod
  rw [← Int.natCast_emod, ← Int.natCast_emod, Nat.mod_eq_of_lt (show 1 < q by omega)] at h3
  omega
/-- Exponents that differ by multiples of 2 n. -/
theorem Rt.per {n q psi : Nat} (h : Rt n q psi) {A B X Y : Nat} (e : A + 2 * n * X = B + 2 * n * Y) : C q ((psi : Int) ^ A) ((psi : Int) ^ B) := by
  have h1 : C q ((psi : Int) ^ A) ((psi : Int) ^ (A + 2 * n * X)) := by
    rw [Int.pow_add]
    have := (C.refl q ((psi : Int) ^ A)).mul (h.one (k := 2 * n * X) ⟨X, rfl⟩)
    rw [Int.mul_one] at this; exact this.symm
  have h2 : C q ((psi : Int) ^ B) ((psi : Int) ^ (B + 2 * n * Y)) := by
    rw [Int.pow_add]
    have := (C.refl q ((psi : Int) ^ B)).mul (h.one (k := 2 * n * Y) ⟨Y, rfl⟩)
    rw [Int.mul_one] at this; exact this.symm
  rw [e] at h1
  exact h1.trans h2.symm
theorem Rt.per_mod {n q psi : Nat} (h : Rt n q psi) {A B X Y : Nat} (e : A + 2 * n * X = B + 2 * n * Y) : psi ^ A % q = psi ^ B % q := by
  have h1 := (h.per e).emod
  rw [← Int.natCast_pow, ← Int.natCast_pow] at h1
  omega
theorem Rt.neg {n q psi : Nat} (h : Rt n q psi) : C q ((psi : Int) ^ n) (-1) := by
  have h1 : (q : Int) ∣ (psi : Int) ^ (2 * n) - 1 := h.one ⟨1, by omega⟩
  have e : (psi : Int) ^ (2 * n) - 1 = ((psi : Int) ^ n - 1) * ((psi : Int) ^ n + 1) := by
    rw [show 2 * n = n + n by omega, Int.pow_add, Int.mul_add, Int.sub_mul]; omega
  rw [e] at h1
  rcases h.pr.int_mul h1 with h2 | h2
  · exact absurd h2 (h.not_one (fun hd => by have := Nat.le_of_dvd h.pos hd; have := h.pos; omega))
  · have e2 : (psi : Int) ^ n - -1 = (psi : Int) ^ n + 1 := by omega
    show (q : Int) ∣ _
    rw [e2]; exact h2
theorem Rt.geom {n q psi : Nat} (h : Rt n q psi) {d : Nat} (h1 : ¬ 2 * n ∣ d) (h2 : 2 * n ∣ d * n) : C q (S n (fun i => ((psi : Int) ^ d) ^ i)) 0 := by
  have e := Ot.geom ((psi : Int) ^ d) n
  rw [← Int.pow_mul] at e
  have hz : (q : Int) ∣ ((psi : Int) ^ d - 1) * S n (fun i => ((psi : Int) ^ d) ^ i) := by rw [e]; exact h.one h2
  rcases h.pr.int_mul hz with h3 | h3
  · exact absurd h3 (h.not_one h1)
  · show (q : Int) ∣ _
    rw [Int.sub_zero]; exact h3
theorem fo_C (q psi i k : Nat) : C q (fo q psi i k) ((psi : Int) ^ (i * (2 * k + 1))) := by
  unfold fo
  rw [Int.natCast_emod, ← Int.natCast_pow]
  exact C.mod q _
theorem ba_C (n q psi j i : Nat) : C q (ba n q psi j i) ((psi : Int) ^ ((2 * n - i) * (2 * j + 1))) := by
  unfold ba
  rw [Int.natCast_emod, ← Int.natCast_pow]
  exact C.mod q _

/-- The sums over all j. -/
theorem Rt.sumj {n q psi : Nat} (h : Rt n q psi) {i k : Nat} (hi : i < n) (hk : k < n) : C q (S n (fun j => fo q psi k j * ba n q psi j i)) (if k = i then n else 0) := by
  have e1 : C q (S n (fun j => fo q psi k j * ba n q psi j i)) (S n (fun j => (psi : Int) ^ (2 * n + k - i) * ((psi : Int) ^ (2 * (2 * n + k - i))) ^ j)) := C.S (fun j _ => by
    refine ((fo_C q psi k j).mul (ba_C n q psi j i)).trans (C.of ?_)
    rw [← Int.pow_add, ← Int.pow_mul, ← Int.pow_add]
    congr 1
    rw [← Nat.add_mul, show k + (2 * n - i) = 2 * n + k - i by omega, Nat.mul_add, Nat.mul_one, Nat.add_comm]
    congr 1
    rw [Nat.mul_left_comm, Nat.mul_assoc])
  refine e1.trans ?_
  rw [S_mul]
  by_cases he : k = i
  · subst he
    rw [if_pos rfl, show 2 * n + k - k = 2 * n by omega]
    have h1 : C q (S n (fun j => ((psi : Int) ^ (2 * (2 * n))) ^ j)) (S n (fun _ => 1)) := C.S (fun j _ => by
      rw [← Int.pow_mul]; exact h.one ⟨2 * j, by rw [Nat.mul_comm 2 (2 * n), Nat.mul_assoc]⟩)
    have h2 := (h.one (k := 2 * n) (Nat.dvd_refl _)).mul h1
    rw [S_ones, Int.one_mul] at h2
    exact h2
  · rw [if_neg he]
    have h1 := h.geom (d := 2 * (2 * n + k - i)) (fun hd => by
      obtain ⟨m, hm⟩ := hd
      have e : 2 * n + k - i = n * m := by
        rw [Nat.mul_assoc] at hm
        exact Nat.eq_of_mul_eq_mul_left (by omega) hm
      have hm3 : m < 3 := by
        apply Nat.lt_of_mul_lt_mul_left (a := n)
        rw [← e]; omega
      have hm1 : 1 < m := by
        apply Nat.lt_of_mul_lt_mul_left (a := n)
        rw [← e]; omega
      obtain rfl : m = 2 := by omega
      omega) ⟨2 * n + k - i, by rw [Nat.mul_right_comm]⟩
    have h2 := (C.refl q ((psi : Int) ^ (2 * n + k - i))).mul h1
    rw [Int.mul_zero] at h2
    exact h2
/-- The sums over all i. -/
theorem Rt.sumi {n q psi : Nat} (h : Rt n q psi) {j k : Nat} (hj : j < n) (hk : k < n) : C q (S n (fun i => ba n q psi k i * fo q psi i j)) (if k = j then n else 0) := by
  have e1 : C q (S n (fun i => ba n q psi k i * fo q psi i j)) (S n (fun i => ((psi : Int) ^ (2 * (n + j - k))) ^ i)) := C.S (fun i hi => by
    refine ((ba_C n q psi k i).mul (fo_C q psi i j)).trans ?_
    rw [← Int.pow_add, ← Int.pow_mul]
    refine h.per (X := i) (Y := 2 * k + 1) ?_
    have a1 : (2 * n - i) * (2 * k + 1) + i * (2 * k + 1) = 2 * n * (2 * k + 1) := by rw [← Nat.add_mul, show 2 * n - i + i = 2 * n by omega]
    have a2 : 2 * (n + j - k) * i + i * (2 * k + 1) = i * (2 * j + 1) + 2 * n * i := by
      rw [Nat.mul_comm (2 * (n + j - k)) i, Nat.mul_comm (2 * n) i, ← Nat.mul_add, ← Nat.mul_add]
      congr 1
      omega
    omega)
  refine e1.trans ?_
  by_cases he : k = j
  · subst he
    rw [if_pos rfl, show n + k - k = n by omega]
    have h1 : C q (S n (fun j => ((psi : Int) ^ (2 * n)) ^ j)) (S n (fun _ => 1)) := C.S (fun j _ => by
      rw [← Int.pow_mul]; exact h.one ⟨j, rfl⟩)
    rw [S_ones] at h1
    exact h1
  · rw [if_neg he]
    exact h.geom (d := 2 * (n + j - k)) (fun hd => by
      obtain ⟨m, hm⟩ := hd
      have e : n + j - k = n * m := by
        rw [Nat.mul_assoc] at hm
        exact Nat.eq_of_mul_eq_mul_left (by omega) hm
      have hm3 : m < 2 := by
        apply Nat.lt_of_mul_lt_mul_left (a := n)
        rw [← e]; omega
      have hm1 : 0 < m := by
        apply Nat.lt_of_mul_lt_mul_left (a := n)
        rw [← e]; omega
      obtain rfl : m = 1 := by omega
      omega) ⟨n + j - k, by rw [Nat.mul_right_comm]⟩

/-- A double sum in which one kernel is n times the unit. -/
theorem double {n q : Nat} {s : Int} {g h : Nat → Nat → Int} {a : List Int} {i : Nat} (hi : i < n) (hs : C q (n * s) 1)
    (hk : ∀ k, k < n → C q (S n (fun j => g k j * h j i)) (if k = i then (n : Int) else 0)) :
    C q (s * S n (fun j => S n (fun k => cf a k * g k j) * h j i)) (cf a i) := by
  have e1 : S n (fun j => S n (fun k => cf a k * g k j) * h j i) = S n (fun k => cf a k * S n (fun j => g k j * h j i)) := by
    have h1 : S n (fun j => S n (fun k => cf a k * g k j) * h j i) = S n (fun j => S n (fun k => cf a k * (g k j * h j i))) := S_cong (fun j _ => by
      rw [← S_mulr]; exact S_cong (fun k _ => Int.mul_assoc _ _ _))
    rw [h1, S_swap]
    exact S_cong (fun k _ => S_mul _ _ _)
  rw [e1]
  have h2 : C q (S n (fun k => cf a k * S n (fun j => g k j * h j i))) (cf a i * n) := by
    have h3 : C q (S n (fun k => cf a k * S n (fun j => g k j * h j i))) (S n (fun k => cf a k * (if k = i then (n : Int) else 0))) := C.S (fun k hkn => (C.refl q _).mul (hk k hkn))
    refine h3.trans ?_
    have h4 := S_one (m := (q : Int)) (f := fun k => cf a k * (if k = i then (n : Int) else 0)) hi (fun k _ hne => by
      show (q : Int) ∣ cf a k * (if k = i then (n : Int) else 0)
      rw [if_neg hne, Int.mul_zero]; exact ⟨0, by omega⟩)
    rw [if_pos rfl] at h4
    exact h4
  have h5 := (C.refl q s).mul h2
  refine h5.trans ?_
  rw [Int.mul_left_comm, Int.mul_comm s]
  have := (C.refl q (cf a i)).mul hs
  rwa [Int.mul_one] at this
theorem at_C (n q : Nat) (sc : Int) (g : Nat → Nat → Int) (a : List Int) (k : Nat) : C q (at_ n q sc g a k) (sc * S n (fun i => cf a i * g i k)) := by
  unfold at_
  exact (C.mod q _).trans ((C.refl q sc).mul (C.mod q _))
/-- n residues, none negative. -/
def Is (n q : Nat) (l : List Int) : Prop := l.length = n ∧ ∀ i, 0 ≤ cf l i ∧ (i < n → cf l i < q)
theorem Is.lt {n q : Nat} {l : List Int} (h : Is n q l) {i : Nat} (hi : i < n) : 0 ≤ cf l i ∧ cf l i < q := ⟨(h.2 i).1, (h.2 i).2 hi⟩
theorem is_tl {n q : Nat} {sc : Int} {g : Nat → Nat → Int} {a : List Int} (hq : 1 ≤ q) : Is n q (tl n q sc g a) := ⟨tl_len .., fun i => ⟨(cf_tl_lt hq i).1, fun _ => (cf_tl_lt hq i).2⟩⟩
theorem out_pp {n q : Nat} {A B : List Int} {i : Nat} (h : n ≤ i) : cf (pp n q A B) i = 0 := cf_out (by rw [pp_len]; exact h)
theorem is_pp {n q : Nat} {A B : List Int} (hq : 1 ≤ q) : Is n q (pp n q A B) := ⟨pp_len .., fun i => by
  by_cases hi : i < n
  · rw [cf_pp hi]
    exact ⟨Int.emod_nonneg _ (by omega), fun _ => Int.emod_lt_of_pos _ (by omega)⟩
  · rw [out_pp (by omega)]
    exact ⟨Int.le_refl _, fun h => absurd h hi⟩⟩
theorem is_ext {n q : Nat} {l m : List Int} (hl : Is n q l) (hm : Is n q m) (h : ∀ i, i < n → C q (cf l i) (cf m i)) : l = m := by
  apply ext_cf
  · rw [hl.1, hm.1]
  · intro i
    by_cases hi : i < n
    · exact (h i hi).eq (hl.lt hi) (hm.lt hi)
    · rw [cf_out (by rw [hl.1]; omega), cf_out (by rw [hm.1]; omega)]
theorem inv_C {n q : Nat} {s : Int} (h : (n : Int) * s % q = 1) : C q (n * s) 1 := by
  have := (C.mod q ((n : Int) * s)).symm
  rwa [h] at this
theorem Rt.back {n q psi : Nat} {s : Int} {a : List Int} (h : Rt n q psi) (hs : (n : Int) * s % q = 1) (ha : Is n q a) : bw n q psi s (fw n q psi a) = a := by
  have hq := h.pr.1
  refine is_ext (is_tl (by omega)) ha (fun i hi => ?_)
  rw [bw, cf_tl hi]
  refine (at_C n q s _ _ i).trans ?_
  have h1 : C q (S n (fun j => cf (fw n q psi a) j * ba n q psi j i)) (S n (fun j => S n (fun k => cf a k * fo q psi k j) * ba n q psi j i)) := C.S (fun j hj => by
    rw [fw, cf_tl hj]
    have h2 := at_C n q 1 (fo q psi) a j
    rw [Int.one_mul] at h2
    exact h2.mul (C.refl q _))
  exact ((C.refl q s).mul h1).trans (double hi (inv_C hs) (fun k hk => h.sumj hi hk))
theorem Rt.forth {n q psi : Nat} {s : Int} {a : List Int} (h : Rt n q psi) (hs : (n : Int) * s % q = 1) (ha : Is n q a) : fw n q psi (bw n q psi s a) = a := by
  have hq := h.pr.1
  refine is_ext (is_tl (by omega)) ha (fun j hj => ?_)
  rw [fw, cf_tl hj]
  refine (at_C n q 1 _ _ j).trans ?_
  rw [Int.one_mul]
  have h1 : C q (S n (fun i => cf (bw n q psi s a) i * fo q psi i j)) (S n (fun i => s * (S n (fun k => cf a k * ba n q psi k i) * fo q psi i j))) := C.S (fun i hi => by
    rw [bw, cf_tl hi, ← Int.mul_assoc]
    exact (at_C n q s (ba n q psi) a i).mul (C.refl q _))
  refine h1.trans ?_
  rw [S_mul]
  exact double (g := ba n q psi) (h := fo q psi) hj (inv_C hs) (fun k hk => h.sumi hj hk)
/-- What has the products as its transform is the product. -/
theorem Rt.prod {n q psi : Nat} {s : Int} {a b P : List Int} (h : Rt n q psi) (hs : (n : Int) * s % q = 1) (hP : Is n q P)
    (hE : ∀ t, t < n → C q (S n (fun k => cf P k * fo q psi k t)) (S n (fun i => cf a i * fo q psi i t) * S n (fun i => cf b i * fo q psi i t))) : ml n q psi s a b = P := by
  have hq := h.pr.1
  have e : pp n q (fw n q psi a) (fw n q psi b) = fw n q psi P := is_ext (is_pp (by omega)) (is_tl (by omega)) (fun t ht => by
    rw [cf_pp ht, fw, fw, fw, cf_tl ht, cf_tl ht, cf_tl ht]
    have h1 := at_C n q 1 (fo q psi) a t
    have h2 := at_C n q 1 (fo q psi) b t
    have h3 := at_C n q 1 (fo q psi) P t
    rw [Int.one_mul] at h1 h2 h3
    exact (C.mod q _).trans ((h1.mul h2).trans ((hE t ht).symm.trans h3.symm)))
  rw [ml, e]
  exact h.back hs hP
end Ot
/- The reference of transform: power, Root, New. -/
namespace Go.Proofs.Ytjbfghnihnmpjaa
open Go.RowKit
set_option linter.unusedVariables false

set_option maxHeartbeats 400000 in
theorem rpow_any (a0 k0 n : Nat) (w : World) (ha : a0 ≤ 2147483647) (hk : k0 ≤ 9223372036854775807) (hn : 2 ≤ n) (hn' : n ≤ 2147483647) :
    Calls Try.prog 30 #[.int .u64 a0, .int .u64 k0, .int .u64 n] w fun e w' => e = .returned (.int .u64 ((a0 ^ k0 % n : Nat) : Int)) ∧ w = w' := by
  have e1 : ((a0 ^ k0 % n : Nat) : Int) = (a0 : Int) ^ k0 % (n : Int) := by rw [Int.natCast_emod, Int.natCast_pow]
  rw [e1]
  clear e1
  have H1N := Lib.hid (show (1 : Int) % (n : Int) = 1 from Int.emod_eq_of_lt (by omega) (by omega))
  go_enter Try.func30, Try.ntmps30
  go_wp2_with fail
  go_loop [0, 1, 7] (fun x y z => ∃ a r : Int, ∃ e : Nat, x = .int .u64 a ∧ y = .int .u64 e ∧ z = .int .u64 r ∧ 0 ≤ a ∧ a ≤ 2147483647 ∧ (e : Int) ≤ 9223372036854775807 ∧ 0 ≤ r ∧ r < n ∧ PowInv a0 k0 n r a e) (fun _ y _ => (intOf y).toNat)
  case atStart => exact ⟨a0, (1 : Int) % (n : Int), k0, rfl, rfl, rfl, by omega, by omega, by omega, by rw [H1N.out]; omega, by rw [H1N.out]; omega, by rw [H1N.out]; simp [PowInv]⟩
  case round =>
    obtain ⟨a, r, e, rfl, rfl, rfl, h1, h2, h3, h4, h5, hinv⟩ := hrel
    have p1 := mul_lo h1 h1
    have p2 : a * a ≤ 4611686014132420609 := by
      have h1 : a * a ≤ 2147483647 * a := Int.mul_le_mul_of_nonneg_right h2 h1
      omega
    have p3 := mul_lo h4 h1
    have p4 : r * a ≤ 4611686014132420609 := by
      have h1 : r * a ≤ 2147483647 * a := Int.mul_le_mul_of_nonneg_right (by omega) h1
      omega
    have r1 := emod_lo (a * a) n (by omega)
    have r2 := emod_hi (a * a) n (by omega)
    have r3 := emod_lo (r * a) n (by omega)
    have r4 := emod_hi (r * a) n (by omega)
    by_cases he : 0 < e
    · have he2 : (0 : Int) < (e : Int) := by omega
      by_cases ho : e % 2 = 1
      · have hb : ((e : Int) % 2 == 1) = true := by simp; omega
        have HI := Lib.hid (pow_odd hinv ho)
        clear ho
        go_wp2_with fail
        exact ⟨⟨_, _, e / 2, rfl, rfl, rfl, r1, by omega, by omega, r3, r4, HI.out⟩, by simp [intOf]; omega⟩
      · have hb : ((e : Int) % 2 == 1) = false := by simp; omega
        have HI := Lib.hid (pow_even hinv (by omega))
        clear ho
        go_wp2_with fail
        exact ⟨⟨_, _, e / 2, rfl, rfl, rfl, r1, by omega, by omega, h4, h5, HI.out⟩, by simp [intOf]; omega⟩
    · obtain rfl : e = 0 := by omega
      have HE := Lib.hid (pow_end hinv h4 h5)
      go_wp2_with fail
      go_ret
      exact ⟨ret_int HE.out, rfl⟩
theorem fz_exists : ∀ m : Nat, 1 ≤ m → ∃ M, Ob.Fz m M := by
  intro m
  induction m using Nat.strongRecOn with
  | ind m ih =>
    intro hm
    by_cases h1 : m = 1
    · exact ⟨[], h1 ▸ Ob.Fz.one⟩
    · obtain ⟨p, hp0, hmin⟩ : ∃ p, (2 ≤ p ∧ p ∣ m) ∧ ∀ d, 2 ≤ d → d < p → ¬ d ∣ m := by
        have key : ∀ k, k ≤ m → (∃ p, (2 ≤ p ∧ p ∣ m) ∧ ∀ d, 2 ≤ d → d < p → ¬ d ∣ m) ∨ ∀ d, 2 ≤ d → d ≤ k → ¬ d ∣ m := by
          intro k
          induction k with
          | zero => intro _; right; intro d h2 h3; omega
          | succ k ihk =>
            intro hk
            rcases ihk (by omega) with h | h
            · exact .inl h
            · by_cases hd : 2 ≤ k + 1 ∧ (k + 1) ∣ m
              · exact .inl ⟨k + 1, hd, fun d h2 h3 => h d h2 (by omega)⟩
              · right; intro d h2 h3 h4
                by_cases e : d = k + 1
                · exact hd ⟨by omega, e ▸ h4⟩
                · exact h d h2 (by omega) h4
        rcases key m (Nat.le_refl _) with h | h
        · exact h
        · exact absurd (Nat.dvd_refl m) (h m (by omega) (Nat.le_refl _))
      have hex : ∀ k c, 1 ≤ c → c ≤ k → ∃ e c', c = p ^ e * c' ∧ ¬ p ∣ c' ∧ 1 ≤ c' := by
        intro k
        induction k with
        | zero => intro c h1 h2; omega
        | succ k ihk =>
          intro c h1 h2
          by_cases hd : p ∣ c
          · obtain ⟨d, rfl⟩ := hd
            have hd1 : 1 ≤ d := by
              rcases d with _ | d
              · simp at h1
              · omega
            have : 2 * d ≤ p * d := Nat.mul_le_mul_right d hp0.1
            obtain ⟨e, c', h3, h4, h5⟩ := ihk d hd1 (by omega)
            exact ⟨e + 1, c', by rw [h3, Nat.pow_succ, Nat.mul_comm (p ^ e) p, Nat.mul_assoc], h4, h5⟩
          · exact ⟨0, c, by simp, hd, h1⟩
      obtain ⟨e, c, h3, h4, h5⟩ := hex m m hm (Nat.le_refl _)
      have he : 1 ≤ e := by
        rcases e with _ | e
        · simp at h3; rw [h3] at hp0; exact absurd hp0.2 h4
        · omega
      have hpe : p ^ 1 ≤ p ^ e := Nat.pow_le_pow_right (by omega) he
      rw [Nat.pow_one] at hpe
      have hlt : c < m := by
        have := Nat.mul_le_mul_right c (show 2 ≤ p ^ e by omega)
        rw [h3]; omega
      obtain ⟨M, hM⟩ := ih c hlt h5
      exact ⟨(p, e) :: M, by rw [h3]; exact Ob.Fz.cons p e c M hp0.1 (by rw [← h3]; exact hmin) he h4 hM⟩

/-- Powers of two. -/
theorem Dim.two {n : Nat} (h : Dim n) : ∃ r, 1 ≤ r ∧ n = 2 ^ r := by
  rcases h with rfl | rfl | rfl | rfl | rfl
  · exact ⟨1, by omega, rfl⟩
  · exact ⟨2, by omega, rfl⟩
  · exact ⟨3, by omega, rfl⟩
  · exact ⟨4, by omega, rfl⟩
  · exact ⟨5, by omega, rfl⟩
theorem odd_gcd {n j : Nat} (h : Dim n) (hj : j % 2 = 1) : Nat.gcd j (2 * n) = 1 := by
  obtain ⟨r, -, rfl⟩ := h.two
  rw [Nat.mul_comm, ← Nat.pow_succ]
  refine Nat.Coprime.pow_right _ ?_
  have h1 := Nat.gcd_dvd_left j 2
  have h2 := Nat.gcd_dvd_right j 2
  have h3 := Nat.le_of_dvd (by omega) h2
  show Nat.gcd j 2 = 1
  have h4 : Nat.gcd j 2 ≠ 0 := fun e => by rw [e] at h2; omega
  have h5 : Nat.gcd j 2 ≠ 2 := fun e => by rw [e] at h1; omega
  omega
theorem even_gcd {n j : Nat} (h : 1 ≤ n) (hj : j % 2 = 0) : Nat.gcd j (2 * n) ≠ 1 := fun e => by
  have := Nat.dvd_gcd (Nat.dvd_of_mod_eq_zero hj) (show 2 ∣ 2 * n from ⟨n, rfl⟩)
  rw [e] at this
  have := Nat.le_of_dvd (by omega) this
  omega
theorem dvd64 : ∀ d : Nat, d < 65 → 2 ≤ d → 64 % d = 0 → d % 2 = 0 := by decide
theorem pr_two {n d : Nat} (h : Dim n) (hd : Ob.Pr d) (hn : d ∣ 2 * n) : d = 2 := by
  have h64 : d ∣ 64 := by
    refine Nat.dvd_trans hn ?_
    rcases h with rfl | rfl | rfl | rfl | rfl <;> decide
  have hle := Nat.le_of_dvd (by omega) h64
  have h2 := hd.1
  have he := dvd64 d (by omega) h2 (Nat.mod_eq_zero_of_dvd h64)
  apply Classical.byContradiction
  intro hne
  exact hd.2 2 (Nat.le_refl _) (by omega) (Nat.dvd_of_mod_eq_zero he)
/-- What has -1 as its power n has the order 2 n. -/
theorem ord_neg {n q x : Nat} (h : Dim n) (hq : 3 ≤ q) (hx : x ^ n % q = q - 1) : Ob.Ord q x (2 * n) := by
  have hn : 1 ≤ n := by unfold Dim at h; omega
  have h1 : x ^ (2 * n) % q = 1 := by
    have e : x ^ (2 * n) = x ^ n * x ^ n := by rw [← Nat.pow_add]; congr 1; omega
    rw [e, Nat.mul_mod, hx]
    have e2 : (q - 1) * (q - 1) = 1 + q * (q - 2) := by
      have key : ∀ k : Nat, (k + 1) * (k + 1) = 1 + (k + 2) * k := fun k => by simp only [Nat.add_mul, Nat.mul_add]; omega
      have := key (q - 2)
      rwa [show q - 2 + 1 = q - 1 by omega, show q - 2 + 2 = q by omega] at this
    rw [e2, Nat.add_mul_mod_self_left, Nat.mod_eq_of_lt (by omega)]
  refine Ob.ord_of (by omega) (by omega) h1 (fun d hd hdn => ?_)
  obtain rfl := pr_two h hd hdn
  rw [show 2 * n / 2 = n by omega, hx]
  omega
theorem neg_of {n q x : Nat} (h : Dim n) (hq : Ob.Pr q) (hx : Ob.Ord q x (2 * n)) : x ^ n % q = q - 1 := by
  have hn : 1 ≤ n := by unfold Dim at h; omega
  have h1 := (Ot.Rt.neg ⟨hq, hn, hx⟩).emod
  have h2 := hq.1
  rw [← Int.natCast_pow] at h1
  have h3 : (-1 : Int) % (q : Int) = q - 1 := by
    rw [← Int.add_emod_right, Int.emod_eq_of_lt (by omega) (by omega)]; omega
  rw [h3] at h1
  omega
/-- There is such a number. -/
theorem some_neg {n q : Nat} (h : Dim n) (hq : Ob.Pr q) (hd : (q - 1) % (2 * n) = 0) : ∃ g, 2 ≤ g ∧ g < q ∧ Ob.Ord q (g ^ ((q - 1) / (2 * n)) % q) (2 * n) := by
  have hn : 1 ≤ n := by unfold Dim at h; omega
  have h2 := hq.1
  obtain ⟨L, hL⟩ := fz_exists (q - 1) (by omega)
  obtain ⟨g, g1, g2, g3⟩ := Ob.exists_gen hq hL
  have ho := Ob.gen_ord hq hL g1 g2 g3 (Nat.dvd_of_mod_eq_zero hd) (by omega)
  refine ⟨g, ?_, g2, ho⟩
  apply Classical.byContradiction
  intro hg
  obtain rfl : g = 1 := by omega
  rw [Nat.one_pow, Nat.mod_eq_of_lt (show 1 < q by omega)] at ho
  have := ho.2 1 (by rw [Nat.one_pow, Nat.mod_eq_of_lt (show 1 < q by omega)])
  have := Nat.le_of_dvd (by omega) this
  omega

set_option maxRecDepth 100000 in
set_option maxHeartbeats 2000000 in
theorem rRoot_any (n q : Nat) (w : World) (h : Dim n) (hq : Ob.Pr q) (hq' : q ≤ 2147483647) (hd : (q - 1) % (2 * n) = 0) :
    Calls Try.prog 40 #[.int .i64 n, .int .u32 q] w (fun e w' => ∃ psi : Nat, e = .returned (.int .u32 psi) ∧ Ob.LeastOrd q (2 * n) psi ∧ w = w') := by
  have h2 : 2 ≤ n ∧ n ≤ 32 := by unfold Dim at h; omega
  obtain ⟨h2, h3⟩ := h2
  have hq2 := hq.1
  have hqn : 2 * n ≤ q - 1 := Nat.le_of_dvd (by omega) (Nat.dvd_of_mod_eq_zero hd)
  obtain ⟨G, G1, G2, G3⟩ := some_neg h hq hd
  have HG := Lib.hid (neg_of h hq G3)
  have HDIM := Lib.hid h
  have HPR := Lib.hid hq
  obtain ⟨E, hE⟩ : ∃ E, E = (q - 1) / (2 * n) := ⟨_, rfl⟩
  have hE2 : E ≤ q - 1 := by rw [hE]; exact Nat.div_le_self _ _
  have HE := Lib.hid hE
  have e1 : ((q : Int) - 1) / (2 * (n : Int)) = (E : Int) := by
    rw [hE, Int.natCast_ediv, Int.natCast_mul, Int.natCast_sub (by omega)]; rfl
  have d0 : (0 : Int) ≤ ((q : Int) - 1) / (2 * (n : Int)) := by omega
  clear h hq hd G3 hE
  go_enter Try.func40, Try.ntmps40
  go_wp2_with fail
  go_loop [6, 7] (fun x y => ∃ one g : Nat, x = .int .u64 one ∧ y = .int .u64 g ∧ 2 ≤ g ∧ g ≤ G + 1 ∧ one < q ∧ (g = G + 1 → one = G ^ E % q)) (fun _ y => G + 1 - (intOf y).toNat)
  case atStart => exact ⟨0, 2, rfl, rfl, by omega, by omega, by omega, fun e => by omega⟩
  case round =>
    obtain ⟨one, g, rfl, rfl, hg2, hgG, hone, hlast⟩ := hrel
    have HLAST := Lib.hid hlast
    clear hlast
    go_wp2_with fail
    refine (rpow_any one n q _ (by omega) (by omega) hq2 hq').mono ?_
    rintro e w1 ⟨rfl, rfl⟩
    obtain ⟨P, hP⟩ : ∃ P, P = one ^ n % q := ⟨_, rfl⟩
    rw [← hP]
    have HP := Lib.hid hP
    have hPq : P < q := by rw [hP]; exact Nat.mod_lt _ (by omega)
    clear hP
    by_cases hex : P = q - 1
    · have hb : ((P : Int) != (q : Int) - 1) = false := by simp; omega
      have HO := Lib.hid (ord_neg HDIM.out (by omega) (HP.out.symm.trans hex))
      clear hex
      go_wp2_with fail
      go_loop [8, 9] (fun x y => ∃ l k : Nat, x = .int .u64 l ∧ y = .int .i64 k ∧ k % 2 = 1 ∧ k ≤ 2 * n + 1 ∧ l < q ∧ Ob.RLeast q (2 * n) one k l) (fun _ y => 2 * n + 1 - (intOf y).toNat)
      case atStart => exact ⟨one, 1, rfl, rfl, by omega, by omega, hone, Ob.RLeast.start _ _ _⟩
      case round =>
        obtain ⟨l, k, rfl, rfl, hk2, hkn, hlq, hrl⟩ := hrel
        have HRL := Lib.hid hrl
        have HK2 := Lib.hid hk2
        clear hrl hk2
        by_cases hlt : k < 2 * n
        · have i1 : (k : Int) < 2 * (n : Int) := by omega
          go_wp2_with fail
          refine (rpow_any one k q _ (by omega) (by omega) hq2 hq').mono ?_
          rintro e w2 ⟨rfl, rfl⟩
          obtain ⟨R, hR⟩ : ∃ R, R = one ^ k % q := ⟨_, rfl⟩
          rw [← hR]
          have HR := Lib.hid hR
          have hRq : R < q := by rw [hR]; exact Nat.mod_lt _ (by omega)
          clear hR
          by_cases hm : R < l
          · have i2 : (R : Int) < (l : Int) := by omega
            have HN := Lib.hid ((HRL.out.take (by have := HK2.out; omega) (odd_gcd HDIM.out HK2.out) (by rw [← HR.out]; exact hm)).skip (k := k + 1) (fun e => absurd e (even_gcd (by omega) (by have := HK2.out; omega))))
            rw [← HR.out] at HN
            go_wp2_with fail
            go_round
            case rel => exact ⟨R, k + 2, rfl, by go_num, by have := HK2.out; omega, by have := HK2.out; omega, hRq, HN.out⟩
            case measure => simp [intOf]; omega
          · have i2 : ¬ (R : Int) < (l : Int) := by omega
            have HN := Lib.hid ((HRL.out.skip (fun _ => by rw [← HR.out]; omega)).skip (k := k + 1) (fun e => absurd e (even_gcd (by omega) (by have := HK2.out; omega))))
            go_wp2_with fail
            go_round
            case rel => exact ⟨l, k + 2, rfl, by go_num, by have := HK2.out; omega, by have := HK2.out; omega, hlq, HN.out⟩
            case measure => simp [intOf]; omega
        · have i1 : ¬ (k : Int) < 2 * (n : Int) := by omega
          have HF := Lib.hid (show Ob.LeastOrd q (2 * n) l from (show Ob.RLeast q (2 * n) one (2 * n + 1) l from by
            have := HRL.out
            rwa [show k = 2 * n + 1 by have := HK2.out; omega] at this).leastOrd HPR.out (by omega) HO.out hone)
          go_wp2_with fail
          go_ret
          exact ⟨l, rfl, HF.out, rfl⟩
    · have hb : ((P : Int) != (q : Int) - 1) = true := by simp; omega
      have hgne : g ≤ G := by
        apply Classical.byContradiction
        intro hn
        apply hex
        rw [HP.out, HLAST.out (by omega), HE.out]
        exact HG.out
      clear hex
      go_wp2_with fail
      refine (rpow_any g E q _ (by omega) (by omega) hq2 hq').mono ?_
      rintro e w2 ⟨rfl, rfl⟩
      obtain ⟨R, hR⟩ : ∃ R, R = g ^ E % q := ⟨_, rfl⟩
      rw [← hR]
      have HR := Lib.hid hR
      have hRq : R < q := by rw [hR]; exact Nat.mod_lt _ (by omega)
      clear hR
      go_wp2_with fail
      go_round
      case rel => exact ⟨R, g + 1, rfl, by go_num, by omega, by omega, hRq, fun e => by rw [HR.out, show g = G by omega]⟩
      case measure => simp [intOf]; omega
end Go.Proofs.Ytjbfghnihnmpjaa
