/- The reference's Root returns what the program's Root returns. -/
import Derived.Test.YtchhehncmpldhaaRroot
namespace Go.Proofs.Ytchhehncmpldhaa
open Go.RowKit
set_option linter.unusedVariables false

set_option maxHeartbeats 1000000 in
theorem rroot_arg (order n : Nat) (w : World) (ho' : order ≤ 4294967295) (hn' : n ≤ 4294967295) (h : ¬ (n ≤ 2147483647 ∧ Prm n) ∨ order < 1) :
    Calls Try.prog 34 #[.int .u32 order, .int .u32 n] w (Two 0 2 w) := by
  have HH := Lib.hid h
  clear h
  by_cases hm : 2 ≤ n ∧ n ≤ 2147483647
  · obtain ⟨hm1, hm2⟩ := hm
    go_enter Try.func34, Try.ntmps34
    go_wp2_with fail
    refine (rmodulus_ok n _ (by omega) (by omega)).mono ?_
    rintro e w' ⟨rfl, rfl⟩
    go_wp2_with fail
    refine (rprime_any n _ (by omega)).mono ?_
    rintro e w1 ⟨r, rfl, hr, g1⟩
    cases r with
    | false =>
      clear hr
      go_wp2_with fail
      go_ret2
      exact ⟨rfl, g1⟩
    | true =>
      have hr' := (prm_iff n).2 (hr.1 rfl)
      obtain rfl : order = 0 := by
        rcases HH.out with h1 | h1
        · exact absurd ⟨hm2, hr'⟩ h1
        · omega
      clear hr hr'
      go_wp2_with fail
      go_ret2
      exact ⟨rfl, g1⟩
  · have hbad : (n : Int) < 2 ∨ 2147483647 < (n : Int) := by omega
    have HB := Lib.hid hbad
    clear hbad hm
    go_enter Try.func34, Try.ntmps34
    go_wp2_with fail
    refine (rmodulus_bad n _ HB.out).mono ?_
    rintro e w' ⟨rfl, rfl⟩
    go_wp2_with fail
    go_ret2
    exact ⟨rfl, Gr.refl _⟩

set_option maxHeartbeats 1000000 in
theorem rroot_long (order n : Nat) (w : World) (ho' : order ≤ 4294967295) (hn' : n ≤ 2147483647) (hp : Ob.Pr n) (ho : 65536 < order) :
    Calls Try.prog 34 #[.int .u32 order, .int .u32 n] w (Two 0 3 w) := by
  have hn := hp.1
  have HP := Lib.hid hp
  clear hp
  go_enter Try.func34, Try.ntmps34
  go_wp2_with fail
  refine (rmodulus_ok n _ (by omega) (by omega)).mono ?_
  rintro e w' ⟨rfl, rfl⟩
  go_wp2_with fail
  refine (rprime_any n _ (by omega)).mono ?_
  rintro e w1 ⟨r, rfl, hr, g1⟩
  obtain rfl : r = true := hr.2 ((prm_iff n).1 (pr_prm HP.out))
  clear hr
  go_wp2_with fail
  go_ret2
  exact ⟨rfl, g1⟩

set_option maxHeartbeats 1000000 in
theorem rroot_none (order n : Nat) (w : World) (hn' : n ≤ 2147483647) (hp : Ob.Pr n) (ho : 1 ≤ order) (ho' : order ≤ 65536) (hd : (n - 1) % order ≠ 0) :
    Calls Try.prog 34 #[.int .u32 order, .int .u32 n] w (Two 0 4 w) := by
  have hn := hp.1
  have HP := Lib.hid hp
  have HD := Lib.hid hd
  clear hp hd
  obtain ⟨m0, m1⟩ := mod_fits (n - 1) order (by omega)
  have hb : ((((n : Int) - 1) % (order : Int)) != 0) = true := by
    rw [show (n : Int) - 1 = ((n - 1 : Nat) : Int) from by omega]
    have := HD.out
    simp; omega
  rw [show ((n - 1 : Nat) : Int) = (n : Int) - 1 from by omega] at m0 m1
  go_enter Try.func34, Try.ntmps34
  go_wp2_with fail
  refine (rmodulus_ok n _ (by omega) (by omega)).mono ?_
  rintro e w' ⟨rfl, rfl⟩
  go_wp2_with fail
  refine (rprime_any n _ (by omega)).mono ?_
  rintro e w1 ⟨r, rfl, hr, g1⟩
  obtain rfl : r = true := hr.2 ((prm_iff n).1 (pr_prm HP.out))
  clear hr
  go_wp2_with fail
  go_ret2
  exact ⟨rfl, g1⟩

def RRootPost (n order : Nat) (w : World) (e : Ending) (w' : World) : Prop := ∃ v l : Nat, Ob.Ord n v order ∧ v < n ∧ Ob.RLeast n order v (order + 1) l ∧ e = .returned (.tuple #[.int .u32 (l : Nat), .int .i64 0]) ∧ Gr w w'

set_option maxRecDepth 100000 in
set_option maxHeartbeats 2000000 in
theorem rroot_ok (order n : Nat) (w : World) (hn' : n ≤ 2147483647) (hp : Ob.Pr n) (ho : 1 ≤ order) (ho' : order ≤ 65536) (hd : (n - 1) % order = 0) :
    Calls Try.prog 34 #[.int .u32 order, .int .u32 n] w (RRootPost n order w) := by
  have hn := hp.1
  have HP := Lib.hid hp
  have HD := Lib.hid hd
  clear hp hd
  obtain ⟨m0, m1⟩ := mod_fits (n - 1) order (by omega)
  obtain ⟨d0, d1⟩ := div_fits (n - 1) order (by omega)
  have hb : ((((n : Int) - 1) % (order : Int)) != 0) = false := by
    rw [show (n : Int) - 1 = ((n - 1 : Nat) : Int) from by omega]
    have := HD.out
    simp; omega
  have h9 : ((n - 1 : Nat) : Int) = (n : Int) - 1 := by omega
  rw [h9] at m0 m1 d0 d1
  have H9 := Lib.hid h9
  clear h9
  go_enter Try.func34, Try.ntmps34
  go_wp2_with fail
  refine (rmodulus_ok n _ (by omega) (by omega)).mono ?_
  rintro e w' ⟨rfl, rfl⟩
  go_wp2_with fail
  refine (rprime_any n _ (by omega)).mono ?_
  rintro e w1 ⟨r, rfl, hr, g1⟩
  obtain rfl : r = true := hr.2 ((prm_iff n).1 (pr_prm HP.out))
  clear hr
  go_wp2_with fail
  have wr1 : IntKind.u32.wrap ((n : Int) - 1) = (n : Int) - 1 := IntWalk.u32_in _ (by omega)
  have on0 : ((order : Int) == 0) = false := by simp; omega
  refine wp_region_held_drew (S := fun wz => Gr w1 wz) (by kernel_rfl) (Below.drew (Gr.refl w1)) (fun hHeld => ?_)
  refine wpAnyH_take (i := 0) (oi := { dst := some 29, op := Op.move (Operand.tmp 1), type := 22, pos := "ref.go:209", after := #[], guard := none }) (v := ?_) rfl (by kernel_rfl) (by kernel_rfl) (by kernel_rfl) (fun _ _ _ h => h) (Or.inl ⟨by rfl, ?_⟩) (by assumption) ?_
  rotate_left
  · intro w hSw; (try dsimp only at hSw); go_simp; try with_reducible rfl
  try simp only [Act.put, List.setIfInBounds_toArray, List.set_cons_zero, List.set_cons_succ]
  refine wpAnyH_take (i := 2) (oi := { dst := some 31, op := Op.move (Operand.tmp 1), type := 22, pos := "ref.go:209", after := #[], guard := none }) (v := ?_) rfl (by kernel_rfl) (by kernel_rfl) (by kernel_rfl) (fun _ _ _ h => h) (Or.inl ⟨by rfl, ?_⟩) (by assumption) ?_
  rotate_left
  · intro w hSw; (try dsimp only at hSw); go_simp; try with_reducible rfl
  try simp only [Act.put, List.setIfInBounds_toArray, List.set_cons_zero, List.set_cons_succ]
  refine wpAnyH_take (i := 3) (oi := { dst := some 32, op := Op.binOp BinOp.sub 22 (Operand.tmp 31) (Operand.const (Value.int IntKind.u32 1)) 22, type := 22, pos := "ref.go:209", after := #[{ on := 2, ground := Ground.data }], guard := none }) (v := .int .u32 ((n : Int) - 1)) rfl (by kernel_rfl) (by kernel_rfl) (by kernel_rfl) (fun _ _ _ h => h) (Or.inl ⟨by rfl, ?_⟩) (by assumption) ?_
  · intro w hSw; (try dsimp only at hSw); go_simp; try with_reducible rfl
  try simp only [Act.put, List.setIfInBounds_toArray, List.set_cons_zero, List.set_cons_succ]
  refine wpAnyH_take (i := 4) (oi := { dst := some 33, op := Op.move (Operand.tmp 0), type := 22, pos := "ref.go:209", after := #[], guard := none }) (v := ?_) rfl (by kernel_rfl) (by kernel_rfl) (by kernel_rfl) (fun _ _ _ h => h) (Or.inl ⟨by rfl, ?_⟩) (by assumption) ?_
  rotate_left
  · intro w hSw; (try dsimp only at hSw); go_simp; try with_reducible rfl
  try simp only [Act.put, List.setIfInBounds_toArray, List.set_cons_zero, List.set_cons_succ]
  refine wpAnyH_take (i := 5) (oi := { dst := some 34, op := Op.binOp BinOp.quo 22 (Operand.tmp 32) (Operand.tmp 33) 22, type := 22, pos := "ref.go:209", after := #[{ on := 3, ground := Ground.data }, { on := 4, ground := Ground.data }], guard := none }) (v := .int .u32 (((n : Int) - 1) / (order : Int))) rfl (by kernel_rfl) (by kernel_rfl) (by kernel_rfl) (fun _ _ _ h => h) (Or.inl ⟨by rfl, ?_⟩) (by assumption) ?_
  · intro w hSw; (try dsimp only at hSw); go_simp; rw [if_neg (by omega), Int.tdiv_eq_ediv_of_nonneg (by omega), IntWalk.u32_in _ ⟨d0, d1⟩]
  try simp only [Act.put, List.setIfInBounds_toArray, List.set_cons_zero, List.set_cons_succ]
  refine wpAnyH_take (i := 6) (oi := { dst := some 35, op := Op.convert 22 33 (Operand.tmp 34), type := 33, pos := "ref.go:209", after := #[{ on := 5, ground := Ground.data }], guard := none }) (v := .int .u64 (((n : Int) - 1) / (order : Int))) rfl (by kernel_rfl) (by kernel_rfl) (by kernel_rfl) (fun _ _ _ h => h) (Or.inl ⟨by rfl, ?_⟩) (by assumption) ?_
  · intro w hSw; (try dsimp only at hSw); go_simp; exact IntWalk.u64_in _ ⟨d0, by omega⟩
  try simp only [Act.put, List.setIfInBounds_toArray, List.set_cons_zero, List.set_cons_succ]
  refine wpAnyH_take (i := 7) (oi := { dst := some 36, op := Op.move (Operand.tmp 1), type := 22, pos := "ref.go:209", after := #[], guard := none }) (v := ?_) rfl (by kernel_rfl) (by kernel_rfl) (by kernel_rfl) (fun _ _ _ h => h) (Or.inl ⟨by rfl, ?_⟩) (by assumption) ?_
  rotate_left
  · intro w hSw; (try dsimp only at hSw); go_simp; try with_reducible rfl
  try simp only [Act.put, List.setIfInBounds_toArray, List.set_cons_zero, List.set_cons_succ]
  refine wpAnyH_ready (rs := [1]) (by kernel_rfl) (by simp) ?_
  refine AllReadyH.cons (o := { dst := some 30, op := Op.call { callee := Callee.value (Operand.func 53), args := #[Operand.tmp 29], argTypes := #[22] }, type := 22, pos := "ref.go:209", after := #[{ on := 0, ground := Ground.data }], guard := none }) rfl (fun K hK => ?_) AllReadyH.nil
  go_simp
  refine (generator_any n _ hn' HP.out).mono ?_
  rintro e w2 ⟨L, g, hL, rfl, q1, q2, hok, g2⟩
  have HLF := Lib.hid hL
  have HOK := Lib.hid hok
  clear hL hok
  go_wp2_with fail
  refine hK.out _ _ (hHeld.trans g2) (fun hHeld2 => ?_)
  clear hK K hHeld
  try simp only [Act.put, List.setIfInBounds_toArray, List.set_cons_zero, List.set_cons_succ]
  refine wpAnyH_ready (rs := [8]) (by kernel_rfl) (by simp) ?_
  refine AllReadyH.cons (o := { dst := some 37, op := Op.call { callee := Callee.value (Operand.func 45), args := #[Operand.tmp 30, Operand.tmp 35, Operand.tmp 36], argTypes := #[22, 33, 22] }, type := 22, pos := "ref.go:209", after := #[{ on := 1, ground := Ground.data }, { on := 6, ground := Ground.data }, { on := 7, ground := Ground.data }, { on := 1, ground := Ground.chain }], guard := none }) rfl (fun K hK => ?_) AllReadyH.nil
  go_simp
  refine (rpower_any g _ n _ (by omega) (by omega) d0 (by omega) (by omega) (by omega)).mono ?_
  rintro e w' ⟨rfl, rfl⟩
  rw [← H9.out, ← Int.natCast_ediv, cast_pow']
  have hvn : g ^ ((n - 1) / order) % n < n := Nat.mod_lt _ (by omega)
  have hvo := Ob.gen_ord HP.out HLF.out q1 q2 HOK.out (Nat.dvd_of_mod_eq_zero HD.out) ho
  generalize g ^ ((n - 1) / order) % n = v at hvn hvo ⊢
  have HVO := Lib.hid hvo
  clear hvo
  go_wp2_with fail
  refine hK.out _ _ hHeld2 (fun hHeld => ?_)
  clear hK K hHeld2
  try simp only [Act.put, List.setIfInBounds_toArray, List.set_cons_zero, List.set_cons_succ]
  refine wpAnyH_take (i := 9) (oi := { dst := some 6, op := Op.assign (Operand.tmp 37), type := 22, pos := "ref.go:209", after := #[{ on := 8, ground := Ground.data }, { on := 8, ground := Ground.chain }, { on := 0, ground := Ground.phase }, { on := 1, ground := Ground.phase }, { on := 2, ground := Ground.phase }, { on := 3, ground := Ground.phase }, { on := 4, ground := Ground.phase }, { on := 5, ground := Ground.phase }, { on := 6, ground := Ground.phase }, { on := 7, ground := Ground.phase }, { on := 8, ground := Ground.phase }], guard := none }) (v := ?_) rfl (by kernel_rfl) (by kernel_rfl) (by kernel_rfl) (fun _ _ _ h => h) (Or.inl ⟨by rfl, ?_⟩) (by assumption) ?_
  rotate_left
  · intro w hSw; (try dsimp only at hSw); go_simp; try with_reducible rfl
  try simp only [Act.put, List.setIfInBounds_toArray, List.set_cons_zero, List.set_cons_succ]
  refine wpAnyH_done (by kernel_rfl) ?_ _
  go_wp2_with fail
  clear wr1 on0 hb m0 m1 d0 d1
  go_loop [7, 8, 9] (fun t x i => ∃ l c k : Nat, t = .int .u32 l ∧ x = .int .u32 c ∧ i = .int .u32 k ∧ 1 ≤ k ∧ k ≤ order + 1 ∧ c < n ∧ l < n ∧ c = v ^ (k - 1) % n ∧ Ob.RLeast n order v k l) (fun _ _ i => order + 1 - (intOf i).toNat)
  case atStart => exact ⟨v, 1, 1, rfl, rfl, rfl, by omega, by omega, by omega, hvn, by rw [Nat.sub_self, Nat.pow_zero, Nat.mod_eq_of_lt (by omega)], Ob.RLeast.start n order v⟩
  case round =>
    obtain ⟨l, c, k, rfl, rfl, rfl, hk1, hk2, hc, hl, hce, hrl⟩ := hrel
    have HCE := Lib.hid hce
    have HRL := Lib.hid hrl
    clear hce hrl
    by_cases hle : k ≤ order
    · have hyn : c * v % n < n := Nat.mod_lt _ (by omega)
      have hyc : (c : Int) * (v : Int) % (n : Int) = ((c * v % n : Nat) : Int) := by simp
      have hye : c * v % n = v ^ k % n := by
        rw [HCE.out, Nat.mod_mul_mod, ← Nat.pow_succ]
        congr 2; omega
      have HYC := Lib.hid hyc
      have HYE := Lib.hid hye
      clear hyc hye
      go_wp2_with fail
      refine (rtimes_any c v n _ (by omega) (by omega) (by omega) (by omega) (by omega) (by omega)).mono ?_
      rintro e w' ⟨rfl, rfl⟩
      rw [HYC.out]
      generalize c * v % n = y at hyn HYE HYC ⊢
      go_wp2_with fail
      refine (rcommon_any k order _ (by omega) (by omega)).mono ?_
      rintro e w' ⟨rfl, rfl⟩
      obtain ⟨gd, hgd⟩ : ∃ gd, gd = Nat.gcd k order := ⟨_, rfl⟩
      rw [← hgd]
      have HGD := Lib.hid hgd
      clear hgd
      by_cases hg1 : gd = 1
      · have hb1 : ((gd : Int) == 1) = true := by simp; omega
        have HG1 := Lib.hid hg1
        clear hg1
        by_cases hlt : y < l
        · have HN := Lib.hid (HRL.out.take hk1 (HGD.out.symm.trans HG1.out) (by rw [← HYE.out]; exact hlt))
          go_wp2_with fail
          go_round
          case rel => exact ⟨y, y, k + 1, rfl, rfl, by go_num, by omega, by omega, hyn, hyn, HYE.out, by have := HN.out; rwa [← HYE.out] at this⟩
          case measure => simp [intOf]; omega
        · have HN := Lib.hid (HRL.out.skip (fun _ => by rw [← HYE.out]; omega))
          go_wp2_with fail
          go_round
          case rel => exact ⟨l, y, k + 1, rfl, rfl, by go_num, by omega, by omega, hyn, hl, HYE.out, HN.out⟩
          case measure => simp [intOf]; omega
      · have hb1 : ((gd : Int) == 1) = false := by simp; omega
        have HG1 := Lib.hid hg1
        clear hg1
        have HN := Lib.hid (HRL.out.skip (fun h => absurd (HGD.out.trans h) HG1.out))
        go_wp2_with fail
        go_round
        case rel => exact ⟨l, y, k + 1, rfl, rfl, by go_num, by omega, by omega, hyn, hl, HYE.out, HN.out⟩
        case measure => simp [intOf]; omega
    · have HN := Lib.hid (show Ob.RLeast n order v (order + 1) l from by
        have := HRL.out
        rwa [show k = order + 1 by omega] at this)
      go_wp2_with fail
      go_ret2
      exact ⟨v, l, HVO.out, hvn, HN.out, rfl, g1.trans hHeld⟩
end Go.Proofs.Ytchhehncmpldhaa
