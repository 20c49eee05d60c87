import Derived.Test.YtlfiakpmnkhcdaaGreatLJc
/- Package ring: rows. -/
namespace Go.Proofs.YtlfiakpmnkhcdaaGreat.Mo
open Go.RowKit
set_option linter.unusedVariables false

theorem HasP.at_ {W : World} {xa : Option Addr} {n c : Nat} {l : List Int} (h : HasP W (.slice xa n c) l) {i : Nat} (hi : i < l.length) : ∃ g o, xa = some ⟨g, o, none⟩ ∧ W.cell? ⟨g, o + i, none⟩ = some (.int .u32 (Op.cf l i)) := by
  obtain ⟨_, a, c', e, _, _, h3⟩ := h
  cases e
  exact h3 i hi
theorem HasQ_at {W : World} {xa : Option Addr} {n c : Nat} {l : List Int} (h : Lo.HasQ W (.slice xa n c) l) {i : Nat} (hi : i < l.length) : ∃ g o, xa = some ⟨g, o, none⟩ ∧ W.cell? ⟨g, o + i, none⟩ = some (.int .i64 (Op.cf l i)) := by
  obtain ⟨_, a, c', e, _, _, h3⟩ := h
  cases e
  exact h3 i hi
def okM' (m : Int) : Prop := 3 ≤ m ∧ m ≤ 2147483647
theorem okM'.p {m : Int} (h : okM' m) : okP m := ⟨by have := h.1; omega, h.2⟩
/-- All numbers are residues. -/
def hasB (m : Int) (l : List Int) : Bool := decide (∀ i, i < l.length → Op.cf l i < m)
set_option maxRecDepth 100000 in
set_option maxHeartbeats 1000000 in
theorem mhas_any (m : Int) (l : List Int) (v : Value) (w : World) (hv : HasP w v l) :
    Calls Tryz.prog 94 #[.int .u32 m, v] w (fun e w' => e = .returned (.bool (hasB m l)) ∧ w = w') := by
  obtain ⟨-, xa, ca, rfl, a1, a2, -⟩ := id hv
  obtain ⟨n, hn⟩ : ∃ n, n = l.length := ⟨_, rfl⟩
  rw [← hn] at hv a1 ⊢
  have HV := Lib.hid hv
  have HN := Lib.hid hn
  clear hv hn
  go_enter Tryz.func94, Tryz.ntmps94
  go_wp2_with fail
  go_loop [6, 9] (fun _ t => ∃ k : Nat, t = .int .i64 k ∧ k ≤ n ∧ ∀ j, j < k → Op.cf l j < m) (fun _ t => n - (intOf t).toNat)
  case atStart => exact ⟨0, rfl, by omega, fun j hj => by omega⟩
  case round =>
    obtain ⟨k, rfl, hk, hlow⟩ := hrel
    have HLOW := Lib.hid hlow
    clear hlow
    by_cases hlt : k < n
    · have hk1 : (k : Int) < (n : Int) := by omega
      obtain ⟨gx, ox, rfl, hcx⟩ := HV.out.at_ (i := k) (by rw [← HN.out]; exact hlt)
      obtain ⟨a, ha⟩ : ∃ a, a = Op.cf l k := ⟨_, rfl⟩
      rw [← ha] at hcx
      have HA := Lib.hid ha
      clear ha
      by_cases hge : m ≤ a
      · have h2 : decide (m ≤ a) = true := by simpa using hge
        have h3 : decide (a ≥ m) = true := h2
        go_wp2_with fail
        go_ret
        refine ⟨ret_bool (Eq.symm (decide_eq_false fun h => ?_)), rfl⟩
        have := h k (by have := HN.out; omega)
        have := HA.out
        omega
      · have h2 : decide (m ≤ a) = false := by simpa using hge
        have h3 : decide (a ≥ m) = false := h2
        go_wp2_with fail
        go_round
        case rel =>
          refine ⟨k + 1, by go_num, by omega, fun j hj => ?_⟩
          by_cases hjk : j = k
          · subst hjk; rw [← HA.out]; omega
          · exact HLOW.out j (by omega)
        case measure => simp [intOf]; omega
    · obtain rfl : k = n := by omega
      go_wp2_with fail
      go_ret
      exact ⟨ret_bool (Eq.symm (decide_eq_true (by rw [← HN.out]; exact HLOW.out))), rfl⟩
set_option maxRecDepth 100000 in
set_option maxHeartbeats 1000000 in
theorem mresidue_any (v m : Int) (w : World) (hp : okP m) (hv : isW v) : Calls Tryz.prog 95 #[.int .u32 m, .int .i64 v] w (IntU (v % m) w) := by
  have HP := Lib.hid hp
  have HV := Lib.hid hv
  clear hp hv
  go_enter Tryz.func95, Tryz.ntmps95
  go_wp2_with fail
  refine (of_ok v m _ HP.out.1 HP.out.2 HV.out.1 HV.out.2).mono ?_
  rintro e w' ⟨rfl, hg⟩
  have HG := Lib.hid hg
  clear hg
  go_wp2_with fail
  go_ret
  exact ⟨rfl, HG.out⟩
/-- The row of integers. -/
def resR (n : Nat) (m : Int) (l : List Int) : List Int := Oj.rowL n (fun i => Op.cf l i % m)
theorem mod_u32 {x m : Int} (h : okM' m) : 0 ≤ x % m ∧ x % m < 4294967296 := by
  have h1 := h.1; have h2 := h.2
  have := emod_lo x m (by omega)
  have := emod_hi x m (by omega)
  omega
/-- A row written so far. -/
theorem row_done {k : Nat} {cur : List Int} {f : Nat → Int} (h1 : cur.length = k) (h2 : ∀ j, j < k → Op.cf cur j = f j) : cur = Oj.rowL k f := Op.ext_cf (by rw [Oj.rowL_len]; exact h1) (fun i => by
  by_cases hi : i < k
  · rw [Oj.rowL_at k f hi]; exact h2 i hi
  · rw [Op.cf_out (by omega), Oj.rowL_out k f (by omega)])
theorem row_step {k n : Nat} {cur : List Int} {f : Nat → Int} {y : Int} (h1 : cur.length = n) (hk : k < n) (h2 : ∀ j, j < k → Op.cf cur j = f j) (hy : y = f k) : (put cur k [y]).length = n ∧ ∀ j, j < k + 1 → Op.cf (put cur k [y]) j = f j := by
  refine ⟨by rw [put_len (by simp; omega)]; exact h1, fun j hj => ?_⟩
  rw [cf_put1 (by omega)]
  by_cases hjk : j = k
  · subst hjk; rw [if_pos rfl, hy]
  · rw [if_neg hjk]; exact h2 j (by omega)
set_option maxRecDepth 100000 in
set_option maxHeartbeats 2000000 in
theorem mresidues_any (m : Int) (l : List Int) (v : Value) (w : World) (hm : okM' m) (hv : Lo.HasQ w v l) (hl : l.length ≤ 1000) :
    Calls Tryz.prog 50 #[.int .u32 m, v] w (NewP (resR l.length m l) w) := by
  have hi64 := hv.1
  obtain ⟨-, xa, ca, rfl, a1, a2, -⟩ := id hv
  obtain ⟨n, hn⟩ : ∃ n, n = l.length := ⟨_, rfl⟩
  rw [← hn] at hv a1 hl ⊢
  have HV := Lib.hid hv
  have HN := Lib.hid hn
  have HM := Lib.hid hm
  have HI := Lib.hid hi64
  have hmk := mk_row n (n : Int) rfl (by omega)
  clear hv hn hm hi64
  go_enter Tryz.func50, Tryz.ntmps50
  go_wp2_with fail
  clear hmk
  obtain ⟨W, hW⟩ : ∃ W : World, W = w.alloc (.cells (zrow n) 22) := ⟨_, rfl⟩
  rw [← hW]
  have HR0 := Lib.hid (show Row W w.heap.size (List.replicate n 0) by rw [hW]; exact Row.zeros w n)
  have HG0 := Lib.hid (show Gr w W by rw [hW]; exact Gr.new w _)
  clear hW
  go_loopw [6, 7, 13] (fun _ _ t wr => ∃ (k : Nat) (cur : List Int), t = .int .i64 k ∧ k ≤ n ∧ cur.length = n ∧ (∀ j, j < k → Op.cf cur j = Op.cf l j % m) ∧ Row wr w.heap.size cur ∧ Gr w wr) (fun _ _ t _ => n - (intOf t).toNat)
  case atStart => exact ⟨0, List.replicate n 0, rfl, by omega, by simp, fun j hj => by omega, HR0.out, HG0.out⟩
  case round =>
    obtain ⟨k, cur, rfl, hk, hcl, hcf, hrow, hg⟩ := hrel
    have HCL := Lib.hid hcl
    have HCF := Lib.hid hcf
    have HROW := Lib.hid hrow
    have HG := Lib.hid hg
    clear hcl hcf hrow hg
    by_cases hlt : k < n
    · have hk0 : (0 : Int) ≤ (k : Int) := by omega
      have hk1 : (k : Int) < (n : Int) := by omega
      obtain ⟨gx, ox, rfl, hcx⟩ := HasQ_at (HV.out.later HG.out) (i := k) (by rw [← HN.out]; exact hlt)
      obtain ⟨a, ha⟩ : ∃ a, a = Op.cf l k := ⟨_, rfl⟩
      have hab := HI.out.at_ k
      rw [← ha] at hcx hab
      have HA := Lib.hid ha
      have HAW := Lib.hid (show isW a from ⟨by omega, by omega⟩)
      have HST := Lib.hid (row_step (y := a % m) HCL.out hlt HCF.out (by rw [HA.out]))
      clear ha hab
      go_wp2_with fail
      refine (mresidue_any a m _ HM.out.p HAW.out).mono ?_
      rintro e w1 ⟨rfl, hg⟩
      have HG1 := Lib.hid (HG.out.trans hg)
      have HR1 := Lib.hid (HROW.out.later hg)
      have hc := HR1.out.cell (j := k) (by rw [HCL.out]; exact hlt)
      have hf := HR1.out.frozen k
      clear hg
      go_wp2_with fail
      go_roundw
      case rel =>
        exact ⟨k + 1, put cur k [a % m], by go_num, by omega, HST.out.1, HST.out.2, HR1.out.store (by rw [HCL.out]; exact hlt) (mod_u32 HM.out), HG1.out.setCell (Nat.le_refl _) _⟩
      case measure => simp [intOf]; omega
    · obtain rfl : k = n := by omega
      have hk1 : ¬ (k : Int) < (k : Int) := by omega
      go_wp2_with fail
      go_ret
      have he : cur = resR k m l := row_done HCL.out HCF.out
      have hp := HROW.out.hasP (cap := k) (by rw [HCL.out]; exact Nat.le_refl _) (by omega)
      rw [HCL.out, he] at hp
      exact ⟨_, _, _, rfl, hp, fun p hp => (by cases hp; exact Nat.le_refl _), HG.out⟩
theorem cf_set (l : List Int) (x : Int) : ∀ (j i : Nat), j < l.length → Op.cf (l.set j x) i = if i = j then x else Op.cf l i := by
  intro j i hj
  rw [← Op.cf_at, ← Op.cf_at]
  by_cases h : i = j
  · subst h; rw [if_pos rfl]; simp [hj]
  · rw [if_neg h, List.getElem?_set_ne (fun e => h e.symm)]
theorem U32.set {l : List Int} (h : U32 l) {x : Int} (hx : 0 ≤ x ∧ x < 4294967296) (j : Nat) : U32 (l.set j x) := fun y hy => by
  rcases List.mem_or_eq_of_mem_set hy with h1 | h1
  · exact h y h1
  · rw [h1]; exact hx
/-- A number of an own row is written. -/
theorem Own1.set {W : World} {base : Nat} {g : Nat} {n cap : Nat} {l : List Int} (h : Own1 W base (.slice (some ⟨g, 0, none⟩) n cap) l) {j : Nat} (hj : j < l.length) {x : Int} (hx : 0 ≤ x ∧ x < 4294967296) :
    Own1 (W.setCell ⟨g, j, none⟩ (.int .u32 x)) base (.slice (some ⟨g, 0, none⟩) n cap) (l.set j x) ∧ Below base W (W.setCell ⟨g, j, none⟩ (.int .u32 x)) := by
  obtain ⟨h0, h1⟩ := h
  rcases h1.2 with ⟨e, _⟩ | ⟨g', cap', cur, e, hb, hg, k1, k2, k3, k4⟩
  · cases e
  · cases e
    have hlen := h1.1
    refine ⟨⟨h0.set hx j, ?_, .inr ⟨g, cap, cur.setIfInBounds j (.int .u32 x), by simp, hb, ?_, by simpa using k1, k2, by simpa using k3, ?_⟩⟩, (Below.refl _ _).setCell (p := ⟨g, j, none⟩) hb _⟩
    · rw [pcells_len] at hlen ⊢; rw [List.length_set]; exact hlen
    · exact Rw.set (W := W) (g := g) hg j _
    · rw [List.length_set, Array.toList_setIfInBounds, List.take_set, k4]
      simp [pcells, List.map_set]
theorem own_zeros (w : World) (n : Nat) (base : Nat) (hb : base ≤ w.heap.size) (hn : n ≤ 1000000) : Own1 (w.alloc (.cells (zrow n) 22)) base (.slice (some ⟨w.heap.size, 0, none⟩) n n) (List.replicate n 0) := by
  have hr := Row.zeros w n
  refine ⟨hr.1, by rw [pcells_len, List.length_replicate]; omega, .inr ⟨w.heap.size, n, zrow n, by rw [List.length_replicate], hb, Rw.new w _, by simp, by unfold maxLen; omega, by rw [zrow_size]; omega, ?_⟩⟩
  apply List.ext_getElem?
  intro j
  rw [List.length_replicate, Nat.mul_one]
  by_cases hj : j < n
  · rw [List.getElem?_take_of_lt hj, Array.getElem?_toList, zrow_at n j hj, pcells_at _ _ (by simpa using hj), cf_rep]
  · rw [List.getElem?_eq_none (by simp; omega), List.getElem?_eq_none (by rw [pcells_len]; simp; omega)]
theorem Own1.mono {W : World} {base base' : Nat} {v : Value} {l : List Int} (h : Own1 W base v l) (hb : base' ≤ base) : Own1 W base' v l := by
  refine ⟨h.1, h.2.1, ?_⟩
  rcases h.2.2 with h1 | ⟨g, cap, cur, rfl, h1, h2⟩
  · exact .inl h1
  · exact .inr ⟨g, cap, cur, rfl, Nat.le_trans hb h1, h2⟩
theorem Own1.gr {W W' : World} {base : Nat} {v : Value} {l : List Int} (h : Own1 W base v l) (hg : Gr W W') : Own1 W' base v l :=
  ⟨h.1, h.2.kept (row := none) ⟨hg.os, hg.tape, hg.output, hg.size, fun k hk _ => hg.block k hk⟩ (by cases hv : v.ownBlock <;> simp)⟩
theorem Own1.frz {W : World} {base g n c : Nat} {l : List Int} (h : Own1 W base (.slice (some ⟨g, 0, none⟩) n c) l) (h0 : 0 < l.length) (j : Nat) : W.frozen? ⟨g, j, none⟩ = false := by
  obtain ⟨g', c', e, _, _, _, hr⟩ := h.row h0
  cases e
  exact hr.frozen j
theorem Own1.cell {W : World} {base g n c : Nat} {l : List Int} (h : Own1 W base (.slice (some ⟨g, 0, none⟩) n c) l) {j : Nat} (hj : j < l.length) : W.cell? ⟨g, j, none⟩ = some (.int .u32 (Op.cf l j)) := by
  obtain ⟨g', c', e, _, _, _, hr⟩ := h.row (by omega)
  cases e
  exact hr.cell hj
/-- New numbers in a slice of their own. -/
def OwnP (l : List Int) (w : World) (e : Ending) (w' : World) : Prop := ∃ v, e = .returned v ∧ Own1 w' w.heap.size v l ∧ Gr w w'
theorem OwnP.newP {l : List Int} {w : World} {e : Ending} {w' : World} (h : OwnP l w e w') : NewP l w e w' := by
  obtain ⟨v, rfl, h1, h2⟩ := h
  obtain ⟨a, c, rfl, -, -⟩ := h1.form
  exact ⟨a, _, c, rfl, h1.hasP, h1.fresh rfl, h2⟩
theorem row_set {k n : Nat} {cur : List Int} {f : Nat → Int} {y : Int} (h1 : cur.length = n) (hk : k < n) (h2 : ∀ j, j < k → Op.cf cur j = f j) (hy : y = f k) : (cur.set k y).length = n ∧ ∀ j, j < k + 1 → Op.cf (cur.set k y) j = f j := by
  refine ⟨by rw [List.length_set]; exact h1, fun j hj => ?_⟩
  rw [Oj.cf_set' _ _ _ (by omega)]
  by_cases hjk : j = k
  · subst hjk; rw [if_pos rfl, hy]
  · rw [if_neg hjk]; exact h2 j (by omega)
set_option maxRecDepth 100000 in
set_option maxHeartbeats 2000000 in
theorem msum_any (m s : Int) (a b : List Int) (u v : Value) (w : World) (hm : okM' m) (hs : isW s) (hu : HasP w u a) (hv : HasP w v b) (hl : a.length ≤ 1000) (hlb : b.length = a.length) :
    Calls Tryz.prog 66 #[.int .u32 m, u, .int .i64 s, v] w (OwnP (Oj.sumR a.length m a s b) w) := by
  have ha32 := hu.1
  have hb32 := hv.1
  obtain ⟨-, xa, ca, rfl, a1, a2, -⟩ := id hu
  obtain ⟨-, xb, cb, rfl, b1, b2, -⟩ := id hv
  obtain ⟨n, hn⟩ : ∃ n, n = a.length := ⟨_, rfl⟩
  rw [hlb, ← hn] at hv b1
  rw [hlb]
  rw [← hn] at hu a1 hl hlb ⊢
  have HU := Lib.hid hu
  have HV := Lib.hid hv
  have HN := Lib.hid hn
  have HNB := Lib.hid hlb
  have HM := Lib.hid hm
  have HA3 := Lib.hid ha32
  have HB3 := Lib.hid hb32
  have HS := Lib.hid hs
  have hm1 := hm.1
  have hm2 := hm.2
  have hmk := mk_row n (n : Int) rfl (by omega)
  have f0 := emod_lo s m (by omega)
  have f1 := emod_hi s m (by omega)
  clear hu hv hn hm ha32 hb32 hs hlb
  obtain ⟨f, hf⟩ : ∃ f, f = s % m := ⟨_, rfl⟩
  rw [← hf] at f0 f1
  have HF := Lib.hid hf
  go_enter Tryz.func66, Tryz.ntmps66
  clear hf
  go_wp2_with fail
  refine (mresidue_any s m _ HM.out.p HS.out).mono ?_
  rintro e w1 ⟨rfl, hg⟩
  rw [← HF.out]
  have HGA := Lib.hid hg
  clear hg
  go_wp2_with fail
  clear hmk
  obtain ⟨W, hW⟩ : ∃ W : World, W = w1.alloc (.cells (zrow n) 22) := ⟨_, rfl⟩
  rw [← hW]
  have HR0 := Lib.hid (show Own1 W w.heap.size (.slice (some ⟨w1.heap.size, 0, none⟩) n n) (List.replicate n 0) by rw [hW]; exact own_zeros w1 n _ HGA.out.size (by omega))
  have HG0 := Lib.hid (show Gr w W by rw [hW]; exact HGA.out.trans (Gr.new w1 _))
  have hsz := HGA.out.size
  clear hW
  go_loopw [11, 12, 22] (fun _ _ t wr => ∃ (k : Nat) (cur : List Int), t = .int .i64 k ∧ k ≤ n ∧ cur.length = n ∧ (∀ j, j < k → Op.cf cur j = (Op.cf a j + s * Op.cf b j) % m) ∧ Own1 wr w.heap.size (.slice (some ⟨w1.heap.size, 0, none⟩) n n) cur ∧ Gr w wr) (fun _ _ t _ => n - (intOf t).toNat)
  case atStart => exact ⟨0, List.replicate n 0, rfl, by omega, by simp, fun j hj => by omega, HR0.out, HG0.out⟩
  case round =>
    obtain ⟨k, cur, rfl, hk, hcl, hcf, hrow, hg⟩ := hrel
    have HCL := Lib.hid hcl
    have HCF := Lib.hid hcf
    have HROW := Lib.hid hrow
    have HG := Lib.hid hg
    clear hcl hcf hrow hg
    by_cases hlt : k < n
    · have hk0 : (0 : Int) ≤ (k : Int) := by omega
      have hk1 : (k : Int) < (n : Int) := by omega
      obtain ⟨gx, ox, rfl, hcx⟩ := (HU.out.later HG.out).at_ (i := k) (by rw [← HN.out]; exact hlt)
      obtain ⟨gy, oy, rfl, hcy⟩ := (HV.out.later HG.out).at_ (i := k) (by rw [HNB.out]; exact hlt)
      obtain ⟨x, hx⟩ : ∃ x, x = Op.cf a k := ⟨_, rfl⟩
      obtain ⟨y, hy⟩ : ∃ y, y = Op.cf b k := ⟨_, rfl⟩
      obtain ⟨x0, x1⟩ := HA3.out.at_ k
      obtain ⟨y0, y1⟩ := HB3.out.at_ k
      rw [← hx] at hcx x0 x1
      rw [← hy] at hcy y0 y1
      have HX := Lib.hid hx
      have HY := Lib.hid hy
      have p0 := mul_lo f0 y0
      have p1 : f * y ≤ 9223372034707292160 := by
        have h1 : f * y ≤ 2147483647 * y := Int.mul_le_mul_of_nonneg_right (by omega) y0
        omega
      obtain ⟨P, hP⟩ : ∃ P, P = f * y := ⟨_, rfl⟩
      have hP' : f * y = P := hP.symm
      rw [hP'] at p0 p1
      have HZ := Lib.hid (show (x + P) % m = (Op.cf a k + s * Op.cf b k) % m from by
        rw [hP, HF.out, ← HX.out, ← HY.out, Int.add_emod, mod_mul, ← Int.add_emod])
      have z0 := emod_lo (x + P) m (by omega)
      have z1 := emod_hi (x + P) m (by omega)
      obtain ⟨z, hz⟩ : ∃ z, (x + P) % m = z := ⟨_, rfl⟩
      rw [hz] at HZ z0 z1
      have HST := Lib.hid (row_set (y := z) HCL.out hlt HCF.out HZ.out)
      have hc := HROW.out.cell (j := k) (by rw [HCL.out]; exact hlt)
      have hfz := HROW.out.frz (by rw [HCL.out]; omega) k
      clear hx hy hP
      go_wp2_with fail
      go_roundw
      case rel =>
        exact ⟨k + 1, cur.set k z, by go_num, by omega, HST.out.1, HST.out.2, (HROW.out.set (by rw [HCL.out]; exact hlt) (by omega)).1, HG.out.setCell (show w.heap.size ≤ w1.heap.size from hsz) _⟩
      case measure => simp [intOf]; omega
    · obtain rfl : k = n := by omega
      have hk1 : ¬ (k : Int) < (k : Int) := by omega
      go_wp2_with fail
      go_ret
      have he : cur = Oj.sumR k m a s b := row_done HCL.out HCF.out
      rw [← he]
      exact ⟨_, rfl, HROW.out, HG.out⟩
/-- A row times an integer. -/
def mulR (n : Nat) (m s : Int) (a : List Int) : List Int := Oj.rowL n (fun i => s * Op.cf a i % m)
theorem mulR_eq (n : Nat) (m s : Int) (a : List Int) : Oj.sumR n m (List.replicate n 0) s a = mulR n m s a := Oj.rowL_cong fun i _ => by rw [Oj.cf_rep', Int.zero_add]
theorem mulR_len (n : Nat) (m s : Int) (a : List Int) : (mulR n m s a).length = n := Oj.rowL_len _ _
set_option maxRecDepth 100000 in
set_option maxHeartbeats 1000000 in
theorem mmultiple_any (m s : Int) (a : List Int) (u : Value) (w : World) (hm : okM' m) (hs : isW s) (hu : HasP w u a) (hl : a.length ≤ 1000) :
    Calls Tryz.prog 53 #[.int .u32 m, .int .i64 s, u] w (OwnP (mulR a.length m s a) w) := by
  obtain ⟨-, xa, ca, rfl, a1, a2, -⟩ := id hu
  obtain ⟨n, hn⟩ : ∃ n, n = a.length := ⟨_, rfl⟩
  rw [← hn] at hu a1 hl ⊢
  have HU := Lib.hid hu
  have HN := Lib.hid hn
  have HM := Lib.hid hm
  have HS := Lib.hid hs
  have hmk := mk_row n (n : Int) rfl (by omega)
  have HGN := Lib.hid (Gr.new w (.cells (zrow n) 22))
  have HZ := Lib.hid (show HasP (w.alloc (.cells (zrow n) 22)) (.slice (some ⟨w.heap.size, 0, none⟩) n n) (List.replicate n 0) from by
    have := (Row.zeros w n).hasP (cap := n) (by simp) (by omega)
    simpa using this)
  clear hu hn hm hs
  go_enter Tryz.func53, Tryz.ntmps53
  go_wp2_with fail
  refine (msum_any m s (List.replicate n 0) a _ _ _ HM.out HS.out HZ.out (HU.out.later HGN.out) (by simpa using hl) (by rw [← HN.out]; simp)).mono ?_
  rintro e w1 ⟨v, rfl, hp, hg⟩
  rw [List.length_replicate, mulR_eq] at hp
  obtain ⟨x, c, rfl, -, -⟩ := hp.form
  have HP := Lib.hid (hp.mono HGN.out.size)
  have HG := Lib.hid (HGN.out.trans hg)
  clear hmk hp hg
  go_wp2_with fail
  go_ret
  exact ⟨_, rfl, HP.out, HG.out⟩
end Go.Proofs.YtlfiakpmnkhcdaaGreat.Mo
