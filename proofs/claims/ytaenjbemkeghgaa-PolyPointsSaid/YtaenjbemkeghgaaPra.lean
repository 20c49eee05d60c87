/- The reference: at, Same, Trim, minus, Check, both, Inverse. -/
import Derived.Test.YtaenjbemkeghgaaPexq
import Derived.Test.YtaenjbemkeghgaaRefb
namespace Go.Proofs.Ytaenjbemkeghgaa
open Go.RowKit
set_option linter.unusedVariables false

set_option maxHeartbeats 400000 in
theorem at_any (l : List Int) (i : Nat) (v : Value) (w : World) (h : HasP w v l) (hl : l.length ≤ 1000000) (hi : i ≤ 1000000) :
    Calls Try.prog 48 #[v, .int .i64 i] w (fun e w' => e = .returned (.int .u64 (Op.cf l i)) ∧ w = w') := by
  obtain ⟨hd, a, cap, rfl, h1, h2, hc⟩ := h
  by_cases hlt : i < l.length
  · obtain ⟨g, o, rfl, hcell⟩ := hc i hlt
    have hx := hd.at_ i
    obtain ⟨n, hn⟩ : ∃ n, n = l.length := ⟨_, rfl⟩
    obtain ⟨x, hxe⟩ : ∃ x, x = Op.cf l i := ⟨_, rfl⟩
    rw [← hn] at hlt h1 hl ⊢
    rw [← hxe] at hcell hx ⊢
    obtain ⟨hx0, hx1⟩ := hx
    clear hc hd hn hxe
    have i1 : (i : Int) < (n : Int) := by omega
    go_enter Try.func48, Try.ntmps48
    go_wp2_with fail
    go_ret
    exact ⟨rfl, rfl⟩
  · rw [Op.cf_out (by omega)]
    obtain ⟨n, hn⟩ : ∃ n, n = l.length := ⟨_, rfl⟩
    rw [← hn] at hlt h1 hl ⊢
    clear hc hd hn
    have i1 : ¬ (i : Int) < (n : Int) := by omega
    go_enter Try.func48, Try.ntmps48
    go_wp2_with fail
    go_ret
    exact ⟨rfl, rfl⟩

set_option maxRecDepth 100000 in
set_option maxHeartbeats 1000000 in
theorem same_any (a b : List Int) (u v : Value) (w : World) (hu : HasP w u a) (hv : HasP w v b) (hla : a.length ≤ 1000000) (hlb : b.length ≤ 1000000) :
    Calls Try.prog 51 #[u, v] w (fun e w' => e = .returned (.bool (decide (a = b))) ∧ Gr w w') := by
  obtain ⟨da, xa, ca, rfl, a1, a2, hca⟩ := hu
  obtain ⟨db, xb, cb, rfl, b1, b2, hcb⟩ := hv
  obtain ⟨na, hna⟩ : ∃ na, na = a.length := ⟨_, rfl⟩
  obtain ⟨nb, hnb⟩ : ∃ nb, nb = b.length := ⟨_, rfl⟩
  rw [← hna] at hla a1 ⊢
  rw [← hnb] at hlb b1 ⊢
  have HNA := Lib.hid hna
  have HNB := Lib.hid hnb
  have HCA := Lib.hid hca
  have HCB := Lib.hid hcb
  have HDA := Lib.hid da
  have HDB := Lib.hid db
  clear hna hnb hca hcb da db
  by_cases hl : na = nb
  · subst hl
    go_enter Try.func51, Try.ntmps51
    go_wp2_with fail
    go_loopw [5] (fun t wr => ∃ k : Nat, t = .int .i64 k ∧ k ≤ na ∧ (∀ i, i < k → Op.cf a i = Op.cf b i) ∧ Gr w wr) (fun t _ => na - (intOf t).toNat)
    case atStart => exact ⟨0, rfl, by omega, fun i hi => by omega, Gr.refl w⟩
    case round =>
      obtain ⟨k, rfl, hk, ht, hg⟩ := hrel
      have HT := Lib.hid ht
      have HG := Lib.hid hg
      clear ht hg
      by_cases hlt : k < na
      · obtain ⟨g, o, rfl, c1⟩ := HCA.out k (by rw [← HNA.out]; exact hlt)
        obtain ⟨g', o', rfl, c2⟩ := HCB.out k (by rw [← HNB.out]; exact hlt)
        have c1 := HG.out.keeps c1
        have c2 := HG.out.keeps c2
        have hx := HDA.out.at_ k
        have hy := HDB.out.at_ k
        obtain ⟨x, hxe⟩ : ∃ x, x = Op.cf a k := ⟨_, rfl⟩
        obtain ⟨y, hye⟩ : ∃ y, y = Op.cf b k := ⟨_, rfl⟩
        rw [← hxe] at c1 hx
        rw [← hye] at c2 hy
        have HX := Lib.hid hxe
        have HY := Lib.hid hye
        have i1 : (k : Int) < (na : Int) := by omega
        have i2 : (0 : Int) ≤ (k : Int) := by omega
        clear hxe hye hx hy
        by_cases he : x = y
        · have hb : (x != y) = false := by simp [he]
          have HE := Lib.hid he
          clear he
          go_wp2_with fail
          go_quiet (fail)
          go_wp2_with fail
          go_roundw
          case rel => exact ⟨k + 1, by go_num, by omega, (fun i hi => by
            by_cases h : i < k
            · exact HT.out i h
            · obtain rfl : i = k := by omega
              rw [← HX.out, ← HY.out, HE.out]), HG.out.drewN _⟩
          case measure => simp [intOf]; omega
        · have hb : (x != y) = true := by simp [he]
          have HE := Lib.hid he
          clear he
          have HF := Lib.hid (show decide (a = b) = false from by simp; intro h; apply HE.out; rw [HX.out, HY.out, h])
          go_wp2_with fail
          go_quiet (fail)
          go_wp2_with fail
          go_ret
          exact ⟨by rw [HF.out]; rfl, HG.out.drewN _⟩
      · have HF := Lib.hid (show decide (a = b) = true from by
          simp
          exact Op.ext_cf (by rw [← HNA.out, ← HNB.out]) (fun i => by
            by_cases h : i < k
            · exact HT.out i h
            · rw [Op.cf_out (by rw [← HNA.out]; omega), Op.cf_out (by rw [← HNB.out]; omega)]))
        go_wp2_with fail
        go_ret
        exact ⟨by rw [HF.out]; rfl, HG.out⟩
  · have HF := Lib.hid (show decide (a = b) = false from by simp; intro h; apply hl; rw [HNA.out, HNB.out, h])
    have hb : ((na : Int) != (nb : Int)) = true := by simp; omega
    have HL := Lib.hid hl
    clear hl
    go_enter Try.func51, Try.ntmps51
    go_wp2_with fail
    go_ret
    exact ⟨by rw [HF.out]; rfl, Gr.refl w⟩

set_option maxRecDepth 100000 in
set_option maxHeartbeats 1000000 in
theorem trim5_any (l : List Int) (v : Value) (w : World) (h : HasP w v l) (hl : l.length ≤ 1000000) :
    Calls Try.prog 42 #[v] w (NewP (Op.tz l) w) := by
  have HV := Lib.hid h
  obtain ⟨hd, a, cap, rfl, h1, h2, hc⟩ := h
  obtain ⟨len, hlen⟩ : ∃ len, len = l.length := ⟨_, rfl⟩
  have HC := Lib.hid hc
  have HD := Lib.hid hd
  rw [← hlen] at h1 hl HV ⊢
  have HLEN := Lib.hid hlen
  clear hc hd hlen
  have htail : ∀ k, k ≤ len → Op.tz l = l.take k → HasP w (.slice a k cap) (Op.tz l) := fun k hk e => by
    rw [e]; exact HV.out.take (by rw [← HLEN.out]; exact hk)
  have HTAIL := Lib.hid htail
  have HTL := Lib.hid (Op.tz_len l)
  clear htail
  go_enter Try.func42, Try.ntmps42
  go_wp2_with fail
  go_loop [3] (fun t => ∃ k : Nat, t = .int .i64 k ∧ k ≤ len ∧ Op.tz (l.take k) = Op.tz l) (fun t => (intOf t).toNat)
  case atStart => exact ⟨len, rfl, by omega, by rw [HLEN.out, List.take_length]⟩
  case round =>
    obtain ⟨k, rfl, hk, ht⟩ := hrel
    have HT := Lib.hid ht
    clear ht
    rcases k with _ | j
    · have HP := Lib.hid (HTAIL.out 0 (by omega) (by rw [← HT.out]; rfl))
      go_wp2_with (at_builtin; refine wpList_app rfl (.tmp 19) (.tmp 22) rfl rfl w.heap.size (.slice none 0 0) [] rfl (Own1.nil _ _) (.slice a 0 cap) (Op.tz l) rfl HP.out (by have := HTL.out; rw [← HLEN.out] at this; simp; omega) (Nat.le_refl _) ?_; intro v' w2 hown hgrow; have HO := Lib.hid hown; have HG := Lib.hid (show Gr w w2 from grown_own (Gr.refl _) (Own1.nil _ w.heap.size) hgrow (Nat.le_refl _)); clear hown hgrow)
      go_ret
      obtain ⟨ar, cr, rfl, hr1, hr2⟩ := HO.out.form
      exact ⟨_, _, _, rfl, by have h := HO.out.hasP; rw [List.nil_append] at h ⊢; exact h, HO.out.fresh rfl, HG.out⟩
    · have hjl : j < l.length := by rw [← HLEN.out]; omega
      obtain ⟨g, o, rfl, hcell⟩ := HC.out j hjl
      have hx := HD.out.at_ j
      obtain ⟨x, hxe⟩ : ∃ x, x = Op.cf l j := ⟨_, rfl⟩
      rw [← hxe] at hcell hx
      obtain ⟨hx0, hx1⟩ := hx
      have HX := Lib.hid hxe
      have HJ := Lib.hid hjl
      clear hxe hjl
      have i1 : (j : Int) < (len : Int) := by omega
      by_cases hz : x = 0
      · have hb : (x == 0) = true := by simp [hz]
        have HZ := Lib.hid hz
        clear hz
        go_wp2_with fail
        go_round
        case rel => exact ⟨j, by go_num, by omega, by rw [← Op.tz_take_zero (HX.out.symm.trans HZ.out)]; exact HT.out⟩
        case measure => simp [intOf]
      · have hb : (x == 0) = false := by simp [hz]
        have HZ := Lib.hid hz
        clear hz
        have HP := Lib.hid (HTAIL.out (j + 1) hk (by rw [← HT.out]; exact Op.tz_take_last HJ.out (by rw [← HX.out]; exact HZ.out)))
        go_wp2_with (at_builtin; refine wpList_app rfl (.tmp 19) (.tmp 22) rfl rfl w.heap.size (.slice none 0 0) [] rfl (Own1.nil _ _) (.slice (some ⟨g, o, none⟩) (j + 1) cap) (Op.tz l) rfl HP.out (by have := HTL.out; rw [← HLEN.out] at this; simp; omega) (Nat.le_refl _) ?_; intro v' w2 hown hgrow; have HO := Lib.hid hown; have HG := Lib.hid (show Gr w w2 from grown_own (Gr.refl _) (Own1.nil _ w.heap.size) hgrow (Nat.le_refl _)); clear hown hgrow)
        go_ret
        obtain ⟨ar, cr, rfl, hr1, hr2⟩ := HO.out.form
        exact ⟨_, _, _, rfl, by have h := HO.out.hasP; rw [List.nil_append] at h ⊢; exact h, HO.out.fresh rfl, HG.out⟩
end Go.Proofs.Ytaenjbemkeghgaa
