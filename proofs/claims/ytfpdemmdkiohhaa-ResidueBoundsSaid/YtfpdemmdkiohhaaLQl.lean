import Derived.Test.YtfpdemmdkiohhaaLQk
/- The reference: left by one. -/
namespace Go.Proofs.Ytfpdemmdkiohhaa
open Go.RowKit
set_option linter.unusedVariables false

theorem own_zero (w : World) : Own1 (w.alloc (.cells (zrow 0) 33)) w.heap.size (.slice (some ⟨w.heap.size, 0, none⟩) 0 0) [] := by
  refine ⟨Ow.dg_nil, by simp [wcells], .inr ⟨w.heap.size, 0, zrow 0, rfl, Nat.le_refl _, ?_, ?_, ?_, ?_, ?_⟩⟩
  all_goals first
    | rfl
    | (show (w.heap.push _)[w.heap.size]? = _; simp; done)
    | (simp [maxLen]; done)
    | (simp [zrow]; done)
    | (rw [zrow_size])

set_option maxRecDepth 100000 in
set_option maxHeartbeats 4000000 in
theorem rleft_any (l : List Nat) (u : Value) (w : World) (hu : HasD w u l) (hl : Oh.Dg l) (N : Nat) (hlN : l.length ≤ N) (hN : N ≤ 100000) :
    Calls Try.prog 93 #[u, .int .i64 1] w (WordPost (N + 1) (2 * Oh.val l) w) := by
  obtain ⟨-, a, cap, rfl, u1, u2, -⟩ := id hu
  have HU := Lib.hid hu
  have HL := Lib.hid hl
  obtain ⟨len, hlen⟩ : ∃ len, len = l.length := ⟨_, rfl⟩
  rw [← hlen] at u1 hlN HU ⊢
  have HLEN := Lib.hid hlen
  have hmk := mk_row 0 0 rfl (by omega)
  have HOZ := Lib.hid (own_zero w)
  have HGZ := Lib.hid (Gr.new w (.cells (zrow 0) 33))
  clear hu hl hlen
  go_enter Try.func93, Try.ntmps93
  go_wp2_with fail
  clear hmk
  go_loopw [5, 6, 7] (fun t c i wr => ∃ (k cr : Nat) (pre : List Nat) (ar : Option Addr) (capr : Nat), i = .int .i64 k ∧ c = .int .u32 cr ∧ t = .slice ar k capr ∧ cr ≤ 1 ∧ k ≤ len ∧ Oh.LeftI l k pre cr ∧ Own1 wr w.heap.size (.slice ar k capr) pre ∧ Gr w wr) (fun _ _ i _ => len - (intOf i).toNat)
  case atStart => exact ⟨0, 0, [], _, 0, rfl, rfl, rfl, by omega, by omega, Oh.LeftI.start _, HOZ.out, HGZ.out⟩
  case round =>
    obtain ⟨wo, rfl⟩ : ∃ wo : World, wo = wr := ⟨_, rfl⟩
    obtain ⟨k, cr, pre, ar, capr, rfl, rfl, rfl, hcr, hk, hsum, hown, hgr⟩ := hrel
    have HSUM := Lib.hid hsum
    have HOWN := Lib.hid hown
    have HGR := Lib.hid hgr
    have hsz := hgr.size
    clear hsum hown hgr
    have pl : pre.length = k := HSUM.out.1
    have HPL := Lib.hid pl
    clear pl
    by_cases h1 : k < len
    · obtain ⟨x, hx⟩ : ∃ x, x = l[k]?.getD 0 := ⟨_, rfl⟩
      have hxb : x < 65536 := by rw [hx]; exact Oh.dg_at HL.out k
      have HST := Lib.hid (HSUM.out.step HL.out)
      rw [← hx] at HST
      have HX := Lib.hid hx
      clear hx
      obtain ⟨ss, hss⟩ : ∃ ss, ss = cr + 2 * x := ⟨_, rfl⟩
      rw [← hss] at HST
      have HSS := Lib.hid hss
      have hssb : ss ≤ 131071 := by omega
      clear hss
      have HKN := Lib.hid h1
      obtain ⟨ga, oa, rfl, ca⟩ := HU.out.at (i := k) (by rw [← HLEN.out]; exact h1)
      have ca := HGR.out.keeps ca
      rw [← HX.out] at ca
      have q1 : decide ((k : Int) < (len : Int)) = true := decide_eq_true (by omega)
      have q1' : decide (k < len) = true := decide_eq_true h1
      go_wp2_with (at_builtin; refine wpList_app rfl _ _ rfl rfl w.heap.size _ pre rfl (HOWN.out.alloc _) _ [ss % 65536] rfl (HasD.one _ _ _ (by have := HSS.out; omega) (by omega)) (by rw [HPL.out]; simp; omega) (by rw [World.size_alloc]; omega) ?_; intro v' w1 hown' hgrow; (have hbl := grown_below HOWN.out hgrow hsz); (obtain ⟨a', cap', rfl⟩ := hown'.slice (n := k + 1) (by rw [List.length_append, HPL.out]; rfl)); have HOWN2 := Lib.hid hown'; have HBL := Lib.hid hbl; clear hown' hgrow hbl)
      exact ⟨⟨k + 1, ss / 65536, _, a', cap', by simp, by congr 1; have := HSS.out; omega, rfl, by omega, by have := HKN.out; omega, HST.out, HOWN2.out, Below.trans HGR.out HBL.out⟩, by have := HKN.out; simp [intOf]; omega⟩
    · obtain rfl : k = len := by omega
      have q1 : decide ((k : Int) < (k : Int)) = false := decide_eq_false (by omega)
      have HALL := Lib.hid ((HLEN.out ▸ HSUM.out : Oh.LeftI l l.length pre cr).all)
      have HKN := Lib.hid hlN
      go_wp2_with (at_builtin; refine wpList_app rfl _ _ rfl rfl w.heap.size _ pre rfl (HOWN.out.alloc _) _ [cr] rfl (HasD.one _ _ _ rfl (by omega)) (by rw [HPL.out]; simp; omega) (by rw [World.size_alloc]; omega) ?_; intro v' w1 hown' hgrow; (have hbl := grown_below HOWN.out hgrow hsz); (obtain ⟨a', cap', rfl⟩ := hown'.slice (n := k + 1) (by rw [List.length_append, HPL.out]; rfl)); have HOWN2 := Lib.hid hown'; have HBL := Lib.hid hbl; clear hown' hgrow hbl)
      go_ret
      exact ⟨_, pre ++ [cr], rfl, HOWN2.out.hasD, HALL.out.1, HALL.out.2.1, by rw [HALL.out.2.2, ← HLEN.out]; have := HKN.out; omega, Below.trans HGR.out HBL.out⟩
end Go.Proofs.Ytfpdemmdkiohhaa
