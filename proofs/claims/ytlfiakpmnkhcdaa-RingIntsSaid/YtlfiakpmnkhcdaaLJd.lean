import Derived.Test.YtlfiakpmnkhcdaaLJc
namespace Go.Proofs.Ytlfiakpmnkhcdaa.Mo
open Go.RowKit
set_option linter.unusedVariables false
theorem HasP.at_ {W : World} {xa : Option Addr} {n c : Nat} {l : List Int} (h : HasP W (.slice xa n c) l) {i : Nat} (hi : i < l.length) : ∃ g o, xa = some ⟨g, o, none⟩ ∧ W.cell? ⟨g, o + i, none⟩ = some (.int .u32 (Op.cf l i)) := by
  obtain ⟨_, a, c', e, _, _, h3⟩ := h
  cases e
  exact h3 i hi
theorem HasQ_at {W : World} {xa : Option Addr} {n c : Nat} {l : List Int} (h : Lo.HasQ W (.slice xa n c) l) {i : Nat} (hi : i < l.length) : ∃ g o, xa = some ⟨g, o, none⟩ ∧ W.cell? ⟨g, o + i, none⟩ = some (.int .i64 (Op.cf l i)) := by
  obtain ⟨_, a, c', e, _, _, h3⟩ := h
  cases e
  exact h3 i hi
def okM' (m : Int) : Prop := 3 ≤ m ∧ m ≤ 2147483647
theorem okM'.p {m : Int} (h : okM' m) : okP m := ⟨by have := h.1; omega, h.2⟩
def hasB (m : Int) (l : List Int) : Bool := decide (∀ i, i < l.length → Op.cf l i < m)
set_option maxRecDepth 100000 in
set_option maxHeartbeats 1000000 in
theorem mhas_any (m : Int) (l : List Int) (v : Value) (w : World) (hv : HasP w v l) :
    Calls Try.prog 54 #[.int .u32 m, v] w (fun e w' => e = .returned (.bool (hasB m l)) ∧ w = w') := by
  obtain ⟨-, xa, ca, rfl, a1, a2, -⟩ := id hv
  obtain ⟨n, hn⟩ : ∃ n, n = l.length := ⟨_, rfl⟩
  rw [← hn] at hv a1 ⊢
  have HV := Lib.hid hv
  have HN := Lib.hid hn
  clear hv hn
  go_enter Try.func54, Try.ntmps54
  go_wp2_with fail
  go_loop [6, 9] (fun _ t => ∃ k : Nat, t = .int .i64 k ∧ k ≤ n ∧ ∀ j, j < k → Op.cf l j < m) (fun _ t => n - (intOf t).toNat)
  case atStart => exact ⟨0, rfl, by omega, fun j hj => by omega⟩
  case round =>
    obtain ⟨k, rfl, hk, hlow⟩ := hrel
    have HLOW := Lib.hid hlow
    clear hlow
    by_cases hlt : k < n
    · have hk1 : (k : Int) < (n : Int) := by omega
      obtain ⟨gx, ox, rfl, hcx⟩ := HV.out.at_ (i := k) (by rw [← HN.out]; exact hlt)
      obtain ⟨a, ha⟩ : ∃ a, a = Op.cf l k := ⟨_, rfl⟩
      rw [← ha] at hcx
      have HA := Lib.hid ha
      clear ha
      by_cases hge : m ≤ a
      · have h2 : decide (m ≤ a) = true := by simpa using hge
        have h3 : decide (a ≥ m) = true := h2
        go_wp2_with fail
        go_ret
        refine ⟨ret_bool (Eq.symm (decide_eq_false fun h => ?_)), rfl⟩
        have := h k (by have := HN.out; omega)
        have := HA.out
        omega
      · have h2 : decide (m ≤ a) = false := by simpa using hge
        have h3 : decide (a ≥ m) = false := h2
        go_wp2_with fail
        go_round
        case rel =>
          refine ⟨k + 1, by go_num, by omega, fun j hj => ?_⟩
          by_cases hjk : j = k
          · subst hjk; rw [← HA.out]; omega
          · exact HLOW.out j (by omega)
        case measure => simp [intOf]; omega
    · obtain rfl : k = n := by omega
      go_wp2_with fail
      go_ret
      exact ⟨ret_bool (Eq.symm (decide_eq_true (by rw [← HN.out]; exact HLOW.out))), rfl⟩
set_option maxRecDepth 100000 in
set_option maxHeartbeats 1000000 in
theorem mresidue_any (v m : Int) (w : World) (hp : okP m) (hv : isW v) : Calls Try.prog 33 #[.int .u32 m, .int .i64 v] w (IntU (v % m) w) := by
  have HP := Lib.hid hp
  have HV := Lib.hid hv
  clear hp hv
  go_enter Try.func33, Try.ntmps33
  go_wp2_with fail
  refine (of_ok v m _ HP.out.1 HP.out.2 HV.out.1 HV.out.2).mono ?_
  rintro e w' ⟨rfl, hg⟩
  have HG := Lib.hid hg
  clear hg
  go_wp2_with fail
  go_ret
  exact ⟨rfl, HG.out⟩
def resR (n : Nat) (m : Int) (l : List Int) : List Int := Oj.rowL n (fun i => Op.cf l i % m)
theorem mod_u32 {x m : Int} (h : okM' m) : 0 ≤ x % m ∧ x % m < 4294967296 := by
  have h1 := h.1; have h2 := h.2
  have := emod_lo x m (by omega)
  have := emod_hi x m (by omega)
  omega
theorem row_done {k : Nat} {cur : List Int} {f : Nat → Int} (h1 : cur.length = k) (h2 : ∀ j, j < k → Op.cf cur j = f j) : cur = Oj.rowL k f := Op.ext_cf (by rw [Oj.rowL_len]; exact h1) (fun i => by
  by_cases hi : i < k
  · rw [Oj.rowL_at k f hi]; exact h2 i hi
  · rw [Op.cf_out (by omega), Oj.rowL_out k f (by omega)])
theorem row_step {k n : Nat} {cur : List Int} {f : Nat → Int} {y : Int} (h1 : cur.length = n) (hk : k < n) (h2 : ∀ j, j < k → Op.cf cur j = f j) (hy : y = f k) : (put cur k [y]).length = n ∧ ∀ j, j < k + 1 → Op.cf (put cur k [y]) j = f j := by
  refine ⟨by rw [put_len (by simp; omega)]; exact h1, fun j hj => ?_⟩
  rw [cf_put1 (by omega)]
  by_cases hjk : j = k
  · subst hjk; rw [if_pos rfl, hy]
  · rw [if_neg hjk]; exact h2 j (by omega)
set_option maxRecDepth 100000 in
set_option maxHeartbeats 2000000 in
theorem mresidues_any (m : Int) (l : List Int) (v : Value) (w : World) (hm : okM' m) (hv : Lo.HasQ w v l) (hl : l.length ≤ 1000) :
    Calls Try.prog 17 #[.int .u32 m, v] w (NewP (resR l.length m l) w) := by
  have hi64 := hv.1
  obtain ⟨-, xa, ca, rfl, a1, a2, -⟩ := id hv
  obtain ⟨n, hn⟩ : ∃ n, n = l.length := ⟨_, rfl⟩
  rw [← hn] at hv a1 hl ⊢
  have HV := Lib.hid hv
  have HN := Lib.hid hn
  have HM := Lib.hid hm
  have HI := Lib.hid hi64
  have hmk := mk_row n (n : Int) rfl (by omega)
  clear hv hn hm hi64
  go_enter Try.func17, Try.ntmps17
  go_wp2_with fail
  clear hmk
  obtain ⟨W, hW⟩ : ∃ W : World, W = w.alloc (.cells (zrow n) 22) := ⟨_, rfl⟩
  rw [← hW]
  have HR0 := Lib.hid (show Row W w.heap.size (List.replicate n 0) by rw [hW]; exact Row.zeros w n)
  have HG0 := Lib.hid (show Gr w W by rw [hW]; exact Gr.new w _)
  clear hW
  go_loopw [6, 7, 13] (fun _ _ t wr => ∃ (k : Nat) (cur : List Int), t = .int .i64 k ∧ k ≤ n ∧ cur.length = n ∧ (∀ j, j < k → Op.cf cur j = Op.cf l j % m) ∧ Row wr w.heap.size cur ∧ Gr w wr) (fun _ _ t _ => n - (intOf t).toNat)
  case atStart => exact ⟨0, List.replicate n 0, rfl, by omega, by simp, fun j hj => by omega, HR0.out, HG0.out⟩
  case round =>
    obtain ⟨k, cur, rfl, hk, hcl, hcf, hrow, hg⟩ := hrel
    have HCL := Lib.hid hcl
    have HCF := Lib.hid hcf
    have HROW := Lib.hid hrow
    have HG := Lib.hid hg
    clear hcl hcf hrow hg
    by_cases hlt : k < n
    · have hk0 : (0 : Int) ≤ (k : Int) := by omega
      have hk1 : (k : Int) < (n : Int) := by omega
      obtain ⟨gx, ox, rfl, hcx⟩ := HasQ_at (HV.out.later HG.out) (i := k) (by rw [← HN.out]; exact hlt)
      obtain ⟨a, ha⟩ : ∃ a, a = Op.cf l k := ⟨_, rfl⟩
      have hab := HI.out.at_ k
      rw [← ha] at hcx hab
      have HA := Lib.hid ha
      have HAW := Lib.hid (show isW a from ⟨by omega, by omega⟩)
      have HST := Lib.hid (row_step (y := a % m) HCL.out hlt HCF.out (by rw [HA.out]))
      clear ha hab
      go_wp2_with fail
      refine (mresidue_any a m _ HM.out.p HAW.out).mono ?_
      rintro e w1 ⟨rfl, hg⟩
      have HG1 := Lib.hid (HG.out.trans hg)
      have HR1 := Lib.hid (HROW.out.later hg)
      have hc := HR1.out.cell (j := k) (by rw [HCL.out]; exact hlt)
      have hf := HR1.out.frozen k
      clear hg
      go_wp2_with fail
      go_roundw
      case rel =>
        exact ⟨k + 1, put cur k [a % m], by go_num, by omega, HST.out.1, HST.out.2, HR1.out.store (by rw [HCL.out]; exact hlt) (mod_u32 HM.out), HG1.out.setCell (Nat.le_refl _) _⟩
      case measure => simp [intOf]; omega
    · obtain rfl : k = n := by omega
      have hk1 : ¬ (k : Int) < (k : Int) := by omega
      go_wp2_with fail
      go_ret
      have he : cur = resR k m l := row_done HCL.out HCF.out
      have hp := HROW.out.hasP (cap := k) (by rw [HCL.out]; exact Nat.le_refl _) (by omega)
      rw [HCL.out, he] at hp
      exact ⟨_, _, _, rfl, hp, fun p hp => (by cases hp; exact Nat.le_refl _), HG.out⟩
theorem cf_set (l : List Int) (x : Int) : ∀ (j i : Nat), j < l.length → Op.cf (l.set j x) i = if i = j then x else Op.cf l i := by
  intro j i hj
  rw [← Op.cf_at, ← Op.cf_at]
  by_cases h : i = j
  · subst h; rw [if_pos rfl]; simp [hj]
  · rw [if_neg h, List.getElem?_set_ne (fun e => h e.symm)]
theorem U32.set {l : List Int} (h : U32 l) {x : Int} (hx : 0 ≤ x ∧ x < 4294967296) (j : Nat) : U32 (l.set j x) := fun y hy => by
  rcases List.mem_or_eq_of_mem_set hy with h1 | h1
  · exact h y h1
  · rw [h1]; exact hx
theorem Own1.gr {W W' : World} {base : Nat} {v : Value} {l : List Int} (h : Own1 W base v l) (hg : Gr W W') : Own1 W' base v l :=
  ⟨h.1, h.2.kept (row := none) ⟨hg.os, hg.tape, hg.output, hg.size, fun k hk _ => hg.block k hk⟩ (by cases hv : v.ownBlock <;> simp)⟩
def mulR (n : Nat) (m s : Int) (a : List Int) : List Int := Oj.rowL n (fun i => s * Op.cf a i % m)
end Go.Proofs.Ytlfiakpmnkhcdaa.Mo
