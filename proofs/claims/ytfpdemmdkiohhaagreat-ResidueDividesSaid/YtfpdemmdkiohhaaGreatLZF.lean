import Derived.Test.YtfpdemmdkiohhaaGreatLZE
import Derived.Test.YtfpdemmdkiohhaaGreatLZD
/- Package residue: the product of no system; small systems. -/
namespace Go.Proofs.YtfpdemmdkiohhaaGreat.Mo
open Go.RowKit
set_option linter.unusedVariables false
theorem sys357 : Sys [3, 5, 7] := by
  refine ⟨?_, ?_, ?_, by decide, by decide⟩
  · unfold okL; decide
  · decide
  · unfold Or.Cop; decide
theorem gcd_ne {q x : Int} (hq : q = 3 ∨ q = 5 ∨ q = 7) (h : ¬ q ∣ x) : Int.gcd x q = 1 := by
  have h1 : Int.gcd x q ∣ q.toNat := by
    have := Int.gcd_dvd_right x q
    rcases hq with rfl | rfl | rfl <;> exact Int.natCast_dvd_natCast.1 this
  have h2 : (Int.gcd x q : Int) ∣ x := Int.gcd_dvd_left x q
  rcases hq with rfl | rfl | rfl
  · have : Int.gcd x 3 ≤ 3 := Nat.le_of_dvd (by decide) h1
    generalize Int.gcd x 3 = g at *
    have : g = 0 ∨ g = 1 ∨ g = 2 ∨ g = 3 := by omega
    rcases this with rfl | rfl | rfl | rfl
    · exact absurd h1 (by decide)
    · rfl
    · exact absurd h1 (by decide)
    · exact absurd h2 h
  · have : Int.gcd x 5 ≤ 5 := Nat.le_of_dvd (by decide) h1
    generalize Int.gcd x 5 = g at *
    have : g = 0 ∨ g = 1 ∨ g = 2 ∨ g = 3 ∨ g = 4 ∨ g = 5 := by omega
    rcases this with rfl | rfl | rfl | rfl | rfl | rfl
    · exact absurd h1 (by decide)
    · rfl
    · exact absurd h1 (by decide)
    · exact absurd h1 (by decide)
    · exact absurd h1 (by decide)
    · exact absurd h2 h
  · have : Int.gcd x 7 ≤ 7 := Nat.le_of_dvd (by decide) h1
    generalize Int.gcd x 7 = g at *
    have : g = 0 ∨ g = 1 ∨ g = 2 ∨ g = 3 ∨ g = 4 ∨ g = 5 ∨ g = 6 ∨ g = 7 := by omega
    rcases this with rfl | rfl | rfl | rfl | rfl | rfl | rfl | rfl
    · exact absurd h1 (by decide)
    · rfl
    · exact absurd h1 (by decide)
    · exact absurd h1 (by decide)
    · exact absurd h1 (by decide)
    · exact absurd h1 (by decide)
    · exact absurd h1 (by decide)
    · exact absurd h2 h
theorem primeL357 : PrimeL [3, 5, 7] := by
  intro q hq x hx
  refine gcd_ne ?_ hx
  simpa using hq
theorem prm3 : Prm 3 := .inr ⟨by decide, by decide, .inr ⟨1, 1, by decide, by decide, .inr ⟨0, by decide, by decide⟩⟩, .inr ⟨1, 1, by decide, by decide, .inl (by decide)⟩, .inr ⟨1, 1, by decide, by decide, .inl (by decide)⟩⟩
theorem prm5 : Prm 5 := .inr ⟨by decide, by decide, .inr ⟨1, 2, by decide, by decide, .inr ⟨1, by decide, by decide⟩⟩, .inr ⟨1, 2, by decide, by decide, .inr ⟨1, by decide, by decide⟩⟩, .inr ⟨1, 2, by decide, by decide, .inl (by decide)⟩⟩
theorem prm7 : Prm 7 := .inr ⟨by decide, by decide, .inr ⟨3, 1, by decide, by decide, .inl (by decide)⟩, .inl (by decide), .inr ⟨3, 1, by decide, by decide, .inr ⟨0, by decide, by decide⟩⟩⟩
theorem dis357 : Dis [3, 5, 7] := by
  refine ⟨by decide, by decide, fun i hi => ?_⟩
  have : i = 0 ∨ i = 1 ∨ i = 2 := by simp at hi; omega
  rcases this with rfl | rfl | rfl
  · exact ⟨by decide, by decide, prm3, by decide⟩
  · exact ⟨by decide, by decide, prm5, by decide⟩
  · exact ⟨by decide, by decide, prm7, by decide⟩
theorem dis353 : ¬ Dis [3, 5, 3] := by
  rintro ⟨-, -, h⟩
  exact (h 2 (by decide)).2.2.2 (by decide)
end Go.Proofs.YtfpdemmdkiohhaaGreat.Mo
/- The laws' own functions: SameWords, LendWords, KeptWords. -/
namespace Go.Proofs.YtfpdemmdkiohhaaGreat.Mo
open Go.RowKit
set_option linter.unusedVariables false

set_option maxRecDepth 100000 in
set_option maxHeartbeats 1000000 in
theorem same_any (a b : List Int) (u v : Value) (w : World) (hu : HasP w u a) (hv : HasP w v b) (hla : a.length ≤ 1000000) (hlb : b.length ≤ 1000000) :
    Calls Tryz.prog 9 #[u, v] w (fun e w' => e = .returned (.bool (decide (a = b))) ∧ Gr w w') := by
  obtain ⟨da, xa, ca, rfl, a1, a2, hca⟩ := hu
  obtain ⟨db, xb, cb, rfl, b1, b2, hcb⟩ := hv
  obtain ⟨na, hna⟩ : ∃ na, na = a.length := ⟨_, rfl⟩
  obtain ⟨nb, hnb⟩ : ∃ nb, nb = b.length := ⟨_, rfl⟩
  rw [← hna] at hla a1 ⊢
  rw [← hnb] at hlb b1 ⊢
  have HNA := Lib.hid hna
  have HNB := Lib.hid hnb
  have HCA := Lib.hid hca
  have HCB := Lib.hid hcb
  have HDA := Lib.hid da
  have HDB := Lib.hid db
  clear hna hnb hca hcb da db
  by_cases hl : na = nb
  · subst hl
    go_enter Tryz.func9, Tryz.ntmps9
    go_wp2_with fail
    go_loopw [5] (fun t wr => ∃ k : Nat, t = .int .i64 k ∧ k ≤ na ∧ (∀ i, i < k → Op.cf a i = Op.cf b i) ∧ Gr w wr) (fun t _ => na - (intOf t).toNat)
    case atStart => exact ⟨0, rfl, by omega, fun i hi => by omega, Gr.refl w⟩
    case round =>
      obtain ⟨k, rfl, hk, ht, hg⟩ := hrel
      have HT := Lib.hid ht
      have HG := Lib.hid hg
      clear ht hg
      by_cases hlt : k < na
      · obtain ⟨g, o, rfl, c1⟩ := HCA.out k (by rw [← HNA.out]; exact hlt)
        obtain ⟨g', o', rfl, c2⟩ := HCB.out k (by rw [← HNB.out]; exact hlt)
        have c1 := HG.out.keeps c1
        have c2 := HG.out.keeps c2
        have hx := HDA.out.at_ k
        have hy := HDB.out.at_ k
        obtain ⟨x, hxe⟩ : ∃ x, x = Op.cf a k := ⟨_, rfl⟩
        obtain ⟨y, hye⟩ : ∃ y, y = Op.cf b k := ⟨_, rfl⟩
        rw [← hxe] at c1 hx
        rw [← hye] at c2 hy
        have HX := Lib.hid hxe
        have HY := Lib.hid hye
        have i1 : (k : Int) < (na : Int) := by omega
        have i2 : (0 : Int) ≤ (k : Int) := by omega
        clear hxe hye hx hy
        by_cases he : x = y
        · have hb : (x != y) = false := by simp [he]
          have HE := Lib.hid he
          clear he
          go_wp2_with fail
          go_quiet (fail)
          go_wp2_with fail
          go_roundw
          case rel => exact ⟨k + 1, by go_num, by omega, (fun i hi => by
            by_cases h : i < k
            · exact HT.out i h
            · obtain rfl : i = k := by omega
              rw [← HX.out, ← HY.out, HE.out]), HG.out.drewN _⟩
          case measure => simp [intOf]; omega
        · have hb : (x != y) = true := by simp [he]
          have HE := Lib.hid he
          clear he
          have HF := Lib.hid (show decide (a = b) = false from by simp; intro h; apply HE.out; rw [HX.out, HY.out, h])
          go_wp2_with fail
          go_quiet (fail)
          go_wp2_with fail
          go_ret
          exact ⟨by rw [HF.out]; rfl, HG.out.drewN _⟩
      · have HF := Lib.hid (show decide (a = b) = true from by
          simp
          exact Op.ext_cf (by rw [← HNA.out, ← HNB.out]) (fun i => by
            by_cases h : i < k
            · exact HT.out i h
            · rw [Op.cf_out (by rw [← HNA.out]; omega), Op.cf_out (by rw [← HNB.out]; omega)]))
        go_wp2_with fail
        go_ret
        exact ⟨by rw [HF.out]; rfl, HG.out⟩
  · have HF := Lib.hid (show decide (a = b) = false from by simp; intro h; apply hl; rw [HNA.out, HNB.out, h])
    have hb : ((na : Int) != (nb : Int)) = true := by simp; omega
    have HL := Lib.hid hl
    clear hl
    go_enter Tryz.func9, Tryz.ntmps9
    go_wp2_with fail
    go_ret
    exact ⟨by rw [HF.out]; rfl, Gr.refl w⟩
end Go.Proofs.YtfpdemmdkiohhaaGreat.Mo
/- The laws' own functions: LendWords, KeptWords. -/
namespace Go.Proofs.YtfpdemmdkiohhaaGreat.Mo
open Go.RowKit
set_option linter.unusedVariables false

/-- A copy with a mark behind it. -/
def LentP (l : List Int) (w : World) (e : Ending) (w' : World) : Prop :=
  ∃ g c, e = .returned (.slice (some ⟨g, 0, none⟩) l.length c) ∧ l.length + 1 ≤ c ∧ c ≤ 9223372036854775807 ∧ w.heap.size ≤ g ∧ Row w' g (l ++ [77177]) ∧ Gr w w'
theorem mk_cap (n : Nat) (L : Int) (hL : L = n) (hn : n ≤ 1000000) (w : World) : (Instr.makeSlice 22 (.int .i64 0) (.int .i64 L)).run Tryz.prog w = .ok (.slice (some ⟨w.heap.size, 0, none⟩) 0 n) (w.alloc (.cells (zrow n) 42)) := by
  obtain ⟨i0, hi, hz0, hz1, hz2⟩ := info_parts infoU32
  subst hL
  have := run_make (P := Tryz.prog) w 22 42 i0 (.int .u32 0) Tryz.underlying22 hi hz0 .i64 .i64 0 (n : Int) (by omega) (by omega) (by rw [hz2]; omega) (by omega)
  rw [this, hz1, Int.toNat_natCast, Nat.mul_one]
  rfl
theorem own_cap (w : World) (n base : Nat) (hb : base ≤ w.heap.size) (hn : n ≤ 1000000) : Own1 (w.alloc (.cells (zrow n) 42)) base (.slice (some ⟨w.heap.size, 0, none⟩) 0 n) [] :=
  ⟨U32.nil, rfl, .inr ⟨w.heap.size, n, zrow n, rfl, hb, heap_alloc_new w _, Nat.zero_le _, by unfold maxLen; omega, by rw [zrow_size, Nat.mul_one], rfl⟩⟩

/-- What LendWords gives. -/
def LendP (v : Value) (l : List Int) (w : World) (e : Ending) (w' : World) : Prop :=
  ((∃ n c, v = .slice none n c) ∧ l = [] ∧ e = .returned (.slice none 0 0) ∧ Gr w w') ∨ ((∃ g n c, v = .slice (some g) n c) ∧ LentP l w e w')
set_option maxRecDepth 100000 in
set_option maxHeartbeats 1000000 in
theorem lent_any (l : List Int) (v : Value) (w : World) (h : HasP w v l) (hl : l.length ≤ 1000) :
    Calls Tryz.prog 10 #[v] w (LendP v l w) := by
  have HV := Lib.hid h
  obtain ⟨-, a, cap, rfl, h1, h2, hcl⟩ := h
  have heq := fun N => eql_nil w a N cap
  rcases a with _ | ga
  · have hl0 : l = [] := by
      rcases l with _ | ⟨x, l⟩
      · rfl
      · exact absurd (hcl 0 (by simp)) (by rintro ⟨_, _, h, _⟩; cases h)
    subst hl0
    clear hcl h2 h1 HV
    have heq := heq 0
    go_enter Tryz.func10, Tryz.ntmps10
    go_wp2_with fail
    go_ret
    exact .inl ⟨⟨_, _, rfl⟩, rfl, rfl, Gr.refl w⟩
  clear hcl
  obtain ⟨n, hn⟩ : ∃ n, n = l.length := ⟨_, rfl⟩
  rw [← hn] at HV hl h1 ⊢
  have heq := heq n
  have HN := Lib.hid hn
  have hmk := mk_cap (n + 1) ((n : Int) + 1) (by omega) (by omega)
  have HL1 := Lib.hid (show ([] : List Int).length + l.length ≤ 1000000 from by simp; omega)
  have HL2 := Lib.hid (show ([] ++ l : List Int).length + [(77177 : Int)].length ≤ 1000000 from by simp; omega)
  clear hn
  unfold LendP LentP
  rw [← HN.out]
  go_enter Tryz.func10, Tryz.ntmps10
  go_wp2_with (first
    | (at_builtin; refine wpList_app rfl (.tmp 8) (.tmp 9) rfl rfl w.heap.size (.slice (some ⟨w.heap.size, 0, none⟩) 0 (n + 1)) [] rfl (own_cap w (n + 1) _ (Nat.le_refl _) (by omega)) (.slice (some ga) n cap) l rfl (HV.out.later (Gr.new w _)) HL1.out (Nat.le_of_lt (by simp)) ?_; intro v' w2 hown hgrow; rw [List.nil_append] at hown; have HO := Lib.hid hown; have HG := Lib.hid (show Gr w w2 from grown_own (Gr.new w _) (own_cap w (n + 1) w.heap.size (Nat.le_refl _) (by omega)) hgrow (Nat.le_refl _)); have hs2 := HG.out.size; obtain ⟨va, vc, rfl, -, -⟩ := hown.form; clear hown hgrow)
    | (at_builtin; refine wpList_app rfl (.tmp 10) (.tmp 11) rfl rfl w.heap.size (.slice va l.length vc) l rfl (HO.out.alloc _) (.slice (some ⟨w2.heap.size, 0, none⟩) 1 1) [77177] rfl (one_hasP' _ _ _ rfl (by omega)) HL2.out (Nat.le_trans hs2 (Nat.le_of_lt (by simp))) ?_; intro v' w3 hown hgrow; have HO3 := Lib.hid hown; have HG3 := Lib.hid (show Gr w w3 from grown_own (HG.out.alloc _) (HO.out.alloc _) hgrow (Nat.le_refl _)); obtain ⟨g3, c3, rfl, hg1, hg2, hg3, hrow⟩ := hown.row (by simp); have HR3 := Lib.hid hrow; have hc3 : n + 1 ≤ c3 := (by have h := HN.out; rw [List.length_append] at hg2; simp at hg2; omega); clear hown hgrow hg2 hrow))
  go_ret
  exact .inr ⟨⟨_, _, _, rfl⟩, g3, c3, rfl, hc3, hg3, hg1, HR3.out, HG3.out⟩

set_option maxRecDepth 100000 in
set_option maxHeartbeats 1000000 in
theorem keptNil_any (c : Nat) (w : World) (h : HasP w (.slice none 0 c) []) :
    Calls Tryz.prog 13 #[.slice none 0 0, .slice none 0 c] w (fun e w' => e = .returned (.bool true) ∧ Gr w w') := by
  have HV := Lib.hid h
  clear h
  go_enter Tryz.func13, Tryz.ntmps13
  go_wp2_with (go_at_call 9; refine (same_any [] [] _ _ _ (HasP.nil _) HV.out (by simp) (by simp)).mono ?_; rintro e w1 ⟨rfl, hg⟩; have HG := Lib.hid hg; have heq := eql_nil w1 none 0 c; rw [show decide (([] : List Int) = []) = true from by simp]; clear hg)
  go_ret
  exact ⟨rfl, HG.out⟩

set_option maxRecDepth 100000 in
set_option maxHeartbeats 1000000 in
theorem kept_any (g n c : Nat) (l : List Int) (v : Value) (w : World) (hn : n = l.length) (hc : n + 1 ≤ c) (hc2 : c ≤ 9223372036854775807) (hr : Row w g (l ++ [77177])) (h : HasP w v l) (hl : l.length ≤ 1000) (hs : ∃ ga m cap, v = .slice (some ga) m cap) :
    Calls Tryz.prog 13 #[.slice (some ⟨g, 0, none⟩) n c, v] w (fun e w' => e = .returned (.bool true) ∧ Gr w w') := by
  have HV := Lib.hid h
  obtain ⟨-, a, cap, rfl, h1, h2, -⟩ := h
  obtain ⟨ga, m', cap', hs⟩ := hs
  cases hs
  rw [← hn] at HV hl h1 ⊢
  have HN := Lib.hid hn
  have HR := Lib.hid hr
  have HF := Lib.hid (show HasP w (.slice (some ⟨g, 0, none⟩) n c) l from by
    have h := hr.hasP (cap := c) (by rw [List.length_append]; simp; omega) hc2
    have h2 := h.take (k := n) (by rw [List.length_append]; simp; omega)
    rw [hn, List.take_left] at h2
    rw [hn]; exact h2)
  have HCELL := Lib.hid (show w.cell? ⟨g, n, none⟩ = some (.int .u32 77177) from by
    have h := hr.cell (j := n) (by rw [List.length_append, hn]; simp)
    rw [Op.cf_append, if_neg (by omega), hn, Nat.sub_self] at h
    rw [hn]; exact h)
  clear hn hr
  go_enter Tryz.func13, Tryz.ntmps13
  go_wp2_with (go_at_call 9; refine (same_any l l _ _ _ HF.out HV.out (by rw [← HN.out]; omega) (by rw [← HN.out]; omega)).mono ?_; rintro e w1 ⟨rfl, hg⟩; have HG := Lib.hid hg; have hcell := hg.keeps HCELL.out; have heq := eql_nil w1 (some ga) n cap; rw [show decide (l = l) = true from by simp]; clear hg)
  go_ret
  exact ⟨rfl, HG.out⟩
end Go.Proofs.YtfpdemmdkiohhaaGreat.Mo
/- The calls at fixed arguments. -/
namespace Go.Proofs.YtfpdemmdkiohhaaGreat.Mo
open Go.RowKit
set_option linter.unusedVariables false

theorem three_hasP' (W : World) (x y z : Int) (g : Nat) (hg : g = W.heap.size) (hx : U32 [x, y, z]) : HasP (W.alloc (.cells #[.int .u32 x, .int .u32 y, .int .u32 z] 42)) (.slice (some ⟨g, 0, none⟩) 3 3) [x, y, z] := by
  subst hg
  refine ⟨hx, _, 3, rfl, Nat.le_refl _, by omega, fun i hi => ⟨_, 0, rfl, ?_⟩⟩
  have : i = 0 ∨ i = 1 ∨ i = 2 := by simp at hi; omega
  rcases this with rfl | rfl | rfl <;> simp [go_sem]
theorem u32_dec {l : List Int} (h : l.all (fun x => decide (0 ≤ x) && decide (x < 4294967296)) = true) : U32 l := fun x hx => by
  have := List.all_eq_true.1 h x hx
  simpa using this

theorem split52 {n : Bool} {s : ByteArray} (hn : n = decide ((52 : Int) < 0)) (hs : s = bstr (52 : Int).natAbs) {row : List Int} {c : Int} (h : SplitR [3, 5, 7] n s row c) : row = [1, 2, 3] ∧ c = 0 := by
  subst hn hs
  rcases h with ⟨h, -, -⟩ | ⟨-, h1, h2⟩
  · exact absurd (form_bstr 52 (inR_small (z := 52) ⟨by omega, by omega⟩)) h
  · rw [zOf_bstr] at h2
    exact ⟨by rw [h2]; decide, h1⟩
theorem row106 : RowOf [3, 5, 7] [1, 0, 6] := ⟨rfl, by decide⟩
theorem row123 : RowOf [3, 5, 7] [1, 2, 3] := ⟨rfl, by decide⟩
theorem join106 {X c : Int} (h : JoinR [3, 5, 7] [1, 0, 6] X c) : X = -50 ∧ c = 0 := by
  rcases h with ⟨h, -, -⟩ | ⟨-, h1, h2⟩
  · exact absurd row106 h
  · exact ⟨h2.unique sys357 ⟨⟨by decide, by decide⟩, by decide⟩, h1⟩
theorem drop123 {row : List Int} {d c : Int} (h : DropR [3, 5, 7] [1, 2, 3] row d c) : row = [1, 2] ∧ d = 3 ∧ c = 0 := by
  rcases h with ⟨h, -⟩ | ⟨-, h, -⟩ | ⟨-, -, h1, b, h2, h3, h4⟩
  · exact absurd row123 h
  · exact absurd h (by decide)
  · have hb : b = 3 := Quo.unique (u := 1) (p := 7) (by decide) h2 (show Quo 3 1 7 3 from ⟨by decide, by decide, by decide⟩)
    subst hb
    have hd : d = 3 := by rw [h3]; decide
    subst hd
    refine ⟨?_, rfl, h1⟩
    rw [h4]
    have e0 : qf (1 - 3) 7 3 = 1 := qf_eq (by decide) ⟨by decide, by decide, by decide⟩
    have e1 : qf (2 - 3) 7 5 = 2 := qf_eq (by decide) ⟨by decide, by decide, by decide⟩
    show [qf (1 - 3) 7 3, qf (2 - 3) 7 5] = _
    rw [e0, e1]
theorem scale123 {row : List Int} {c : Int} (h : ScaleR [3, 5, 7] [1, 2, 3] 2 row c) : row = [2, 3] ∧ c = 0 := by
  rcases h with ⟨h, -⟩ | ⟨-, h, -⟩ | ⟨-, -, h, -⟩ | ⟨-, -, -, h1, d, b, h2, h3, h4⟩
  · exact absurd row123 h
  · exact absurd h (by decide)
  · exact absurd h (by decide)
  · have hb : b = 5 := Quo.unique (u := 2) (p := 7) (by decide) h2 (show Quo 3 2 7 5 from ⟨by decide, by decide, by decide⟩)
    subst hb
    have hd : d = -4 := by rw [h3]; decide
    subst hd
    refine ⟨?_, h1⟩
    rw [h4]
    have e0 : qf (1 - -4) 7 3 = 2 := qf_eq (by decide) ⟨by decide, by decide, by decide⟩
    have e1 : qf (2 - -4) 7 5 = 3 := qf_eq (by decide) ⟨by decide, by decide, by decide⟩
    show [qf (1 - -4) 7 3, qf (2 - -4) 7 5] = _
    rw [e0, e1]
theorem prod105 : Or.pr [3, 5, 7] = 105 := by decide
end Go.Proofs.YtfpdemmdkiohhaaGreat.Mo
/- shown: the last region. -/
namespace Go.Proofs.YtfpdemmdkiohhaaGreat.Mo
open Go.RowKit
set_option linter.unusedVariables false
set_option linter.unusedSimpArgs false

set_option maxRecDepth 100000 in
set_option maxHeartbeats 8000000 in
theorem shown_region (S X : Nat) (vr vl vk : Value) (W : World) (hS : IsSys W S [3, 5, 7]) (hr : HasP W vr [1, 2, 3]) (hl : HasP W vl [1, 2]) (hk : HasP W vk [2, 3])
    (x0 : W.cell? ⟨X, 0, none⟩ = some (.bool (decide ((-50 : Int) < 0)))) (x1 : W.cell? ⟨X, 1, none⟩ = some (.string (bstr (-50 : Int).natAbs)))
    (v3 v12 v13 v14 v15 v16 v17 v18 v19 v20 v21 v22 v23 v24 v25 v26 v27 v28 v29 v30 v31 v32 v33 v34 v35 v36 v37 v38 v39 v40 v41 v42 v43 v44 v45 v46 v47 v48 v49 v50 v51 v52 v53 v54 v55 v56 s0 s57 s58 s59 s60 s61 s62 s63 s64 s65 s66 s67 s68 s69 s70 s71 s72 s73 s74 s75 s76 s77 s78 s79 s80 s81 s82 s83 s84 s85 s86 s87 s88 s89 s90 s91 s92 s93 s94 s95 s96 s97 s98 s99 s100 : Value) (Q : Exit → Act → World → Prop) (hQ : ∀ (d : Option Tmp) (v : Value) c a w, Q (.panic c) (a.put d v) w → Q (.panic c) a w)
    (hpost : ∀ u57 u58 u59 u60 u61 u62 u63 u64 u65 u66 u67 u68 u69 u70 u71 u72 u73 u74 u75 u76 u77 u78 u79 u80 u81 u82 u83 u84 u85 u86 u87 u88 u89 u90 u91 u92 u93 u94 u95 u96 u97 u98 u99 u100 wx, Gr W wx → Q .normal { tmps := List.toArray (.bool true :: .pointer (some ⟨S, 0, none⟩) :: .int .i64 0 :: v3 :: .int .i64 0 :: vr :: .pointer (some ⟨X, 0, none⟩) :: vl :: .int .i64 3 :: .int .i64 0 :: vk :: .int .i64 0 :: v12 :: v13 :: v14 :: v15 :: v16 :: v17 :: v18 :: v19 :: v20 :: v21 :: v22 :: v23 :: v24 :: v25 :: v26 :: v27 :: v28 :: v29 :: v30 :: v31 :: v32 :: v33 :: v34 :: v35 :: v36 :: v37 :: v38 :: v39 :: v40 :: v41 :: v42 :: v43 :: v44 :: v45 :: v46 :: v47 :: v48 :: v49 :: v50 :: v51 :: v52 :: v53 :: v54 :: v55 :: v56 :: u57 :: u58 :: u59 :: u60 :: u61 :: u62 :: u63 :: u64 :: u65 :: u66 :: u67 :: u68 :: u69 :: u70 :: u71 :: u72 :: u73 :: u74 :: u75 :: u76 :: u77 :: u78 :: u79 :: u80 :: u81 :: u82 :: u83 :: u84 :: u85 :: u86 :: u87 :: u88 :: u89 :: u90 :: u91 :: u92 :: u93 :: u94 :: u95 :: u96 :: u97 :: u98 :: u99 :: u100 :: ([] : List Value)), defers := [] } wx) :
    (Code.region 9 #[{ dst := some 57, op := Op.move (Operand.tmp 2), type := 32, pos := "law.go:24", after := #[], guard := none },
      { dst := some 58, op := Op.binOp BinOp.eql 32 (Operand.tmp 57) (Operand.const (Value.int IntKind.i64 0)) 32, type := 4, pos := "law.go:24", after := #[{ on := 0, ground := Ground.data }], guard := none },
      { dst := some 59, op := Op.move (Operand.tmp 58), type := 4, pos := "law.go:24", after := #[{ on := 1, ground := Ground.data }], guard := none },
      { dst := some 60, op := Op.move (Operand.tmp 4), type := 32, pos := "law.go:24", after := #[{ on := 2, ground := Ground.guard }], guard := some (2, true) },
      { dst := some 61, op := Op.binOp BinOp.eql 32 (Operand.tmp 60) (Operand.const (Value.int IntKind.i64 0)) 32, type := 4, pos := "law.go:24", after := #[{ on := 3, ground := Ground.data }, { on := 2, ground := Ground.guard }], guard := some (2, true) },
      { dst := some 62, op := Op.pick (Operand.tmp 59) (Operand.tmp 61) (Operand.const (Value.bool false)), type := 4, pos := "law.go:24", after := #[{ on := 2, ground := Ground.data }, { on := 4, ground := Ground.data }], guard := none },
      { dst := some 63, op := Op.move (Operand.tmp 62), type := 4, pos := "law.go:24", after := #[{ on := 5, ground := Ground.data }, { on := 2, ground := Ground.chain }], guard := none },
      { dst := some 64, op := Op.move (Operand.tmp 9), type := 32, pos := "law.go:24", after := #[{ on := 6, ground := Ground.guard }], guard := some (6, true) },
      { dst := some 65, op := Op.binOp BinOp.eql 32 (Operand.tmp 64) (Operand.const (Value.int IntKind.i64 0)) 32, type := 4, pos := "law.go:24", after := #[{ on := 7, ground := Ground.data }, { on := 6, ground := Ground.guard }], guard := some (6, true) },
      { dst := some 66, op := Op.pick (Operand.tmp 63) (Operand.tmp 65) (Operand.const (Value.bool false)), type := 4, pos := "law.go:24", after := #[{ on := 6, ground := Ground.data }, { on := 8, ground := Ground.data }], guard := none },
      { dst := some 67, op := Op.move (Operand.tmp 66), type := 4, pos := "law.go:24", after := #[{ on := 9, ground := Ground.data }, { on := 6, ground := Ground.chain }], guard := none },
      { dst := some 68, op := Op.move (Operand.tmp 11), type := 32, pos := "law.go:24", after := #[{ on := 10, ground := Ground.guard }], guard := some (10, true) },
      { dst := some 69, op := Op.binOp BinOp.eql 32 (Operand.tmp 68) (Operand.const (Value.int IntKind.i64 0)) 32, type := 4, pos := "law.go:24", after := #[{ on := 11, ground := Ground.data }, { on := 10, ground := Ground.guard }], guard := some (10, true) },
      { dst := some 70, op := Op.pick (Operand.tmp 67) (Operand.tmp 69) (Operand.const (Value.bool false)), type := 4, pos := "law.go:24", after := #[{ on := 10, ground := Ground.data }, { on := 12, ground := Ground.data }], guard := none },
      { dst := some 71, op := Op.move (Operand.tmp 70), type := 4, pos := "law.go:24", after := #[{ on := 13, ground := Ground.data }, { on := 10, ground := Ground.chain }], guard := none },
      { dst := some 72, op := Op.move (Operand.tmp 1), type := 28, pos := "law.go:24", after := #[{ on := 14, ground := Ground.guard }], guard := some (14, true) },
      { dst := some 73, op := Op.call { callee := Callee.value (Operand.func 22), args := #[Operand.tmp 72], argTypes := #[28] }, type := 24, pos := "law.go:24", after := #[{ on := 15, ground := Ground.data }, { on := 14, ground := Ground.chain }, { on := 14, ground := Ground.guard }], guard := some (14, true) },
      { dst := some 74, op := Op.call { callee := Callee.value (Operand.func 21), args := #[Operand.const (Value.int IntKind.i64 105)], argTypes := #[2] }, type := 24, pos := "law.go:24", after := #[{ on := 16, ground := Ground.chain }, { on := 14, ground := Ground.guard }], guard := some (14, true) },
      { dst := some 75, op := Op.binOp BinOp.eql 24 (Operand.tmp 73) (Operand.tmp 74) 24, type := 4, pos := "law.go:24", after := #[{ on := 16, ground := Ground.data }, { on := 17, ground := Ground.data }, { on := 14, ground := Ground.guard }], guard := some (14, true) },
      { dst := some 76, op := Op.pick (Operand.tmp 71) (Operand.tmp 75) (Operand.const (Value.bool false)), type := 4, pos := "law.go:24", after := #[{ on := 14, ground := Ground.data }, { on := 18, ground := Ground.data }], guard := none },
      { dst := some 77, op := Op.move (Operand.tmp 76), type := 4, pos := "law.go:24", after := #[{ on := 19, ground := Ground.data }, { on := 17, ground := Ground.chain }], guard := none },
      { dst := some 78, op := Op.move (Operand.tmp 5), type := 22, pos := "law.go:24", after := #[{ on := 20, ground := Ground.guard }], guard := some (20, true) },
      { dst := some 79, op := Op.buildSlice 22 3 #[(0, Operand.const (Value.int IntKind.u32 1)), (1, Operand.const (Value.int IntKind.u32 2)), (2, Operand.const (Value.int IntKind.u32 3))], type := 22, pos := "law.go:24", after := #[{ on := 20, ground := Ground.guard }], guard := some (20, true) },
      { dst := some 80, op := Op.call { callee := Callee.value (Operand.func 9), args := #[Operand.tmp 78, Operand.tmp 79], argTypes := #[22, 22] }, type := 4, pos := "law.go:24", after := #[{ on := 21, ground := Ground.data }, { on := 22, ground := Ground.data }, { on := 20, ground := Ground.chain }, { on := 20, ground := Ground.guard }], guard := some (20, true) },
      { dst := some 81, op := Op.pick (Operand.tmp 77) (Operand.tmp 80) (Operand.const (Value.bool false)), type := 4, pos := "law.go:24", after := #[{ on := 20, ground := Ground.data }, { on := 23, ground := Ground.data }], guard := none },
      { dst := some 82, op := Op.move (Operand.tmp 81), type := 4, pos := "law.go:24", after := #[{ on := 24, ground := Ground.data }, { on := 23, ground := Ground.chain }], guard := none },
      { dst := some 83, op := Op.load 24 (Operand.tmp 6), type := 24, pos := "law.go:24", after := #[{ on := 25, ground := Ground.guard }], guard := some (25, true) },
      { dst := some 84, op := Op.call { callee := Callee.value (Operand.func 21), args := #[Operand.const (Value.int IntKind.i64 (-50))], argTypes := #[2] }, type := 24, pos := "law.go:24", after := #[{ on := 25, ground := Ground.chain }, { on := 25, ground := Ground.guard }], guard := some (25, true) },
      { dst := some 85, op := Op.binOp BinOp.eql 24 (Operand.tmp 83) (Operand.tmp 84) 24, type := 4, pos := "law.go:24", after := #[{ on := 26, ground := Ground.data }, { on := 27, ground := Ground.data }, { on := 25, ground := Ground.guard }], guard := some (25, true) },
      { dst := some 86, op := Op.pick (Operand.tmp 82) (Operand.tmp 85) (Operand.const (Value.bool false)), type := 4, pos := "law.go:24", after := #[{ on := 25, ground := Ground.data }, { on := 28, ground := Ground.data }], guard := none },
      { dst := some 87, op := Op.move (Operand.tmp 86), type := 4, pos := "law.go:24", after := #[{ on := 29, ground := Ground.data }, { on := 27, ground := Ground.chain }], guard := none },
      { dst := some 88, op := Op.move (Operand.tmp 7), type := 22, pos := "law.go:24", after := #[{ on := 30, ground := Ground.guard }], guard := some (30, true) },
      { dst := some 89, op := Op.buildSlice 22 2 #[(0, Operand.const (Value.int IntKind.u32 1)), (1, Operand.const (Value.int IntKind.u32 2))], type := 22, pos := "law.go:24", after := #[{ on := 30, ground := Ground.guard }], guard := some (30, true) },
      { dst := some 90, op := Op.call { callee := Callee.value (Operand.func 9), args := #[Operand.tmp 88, Operand.tmp 89], argTypes := #[22, 22] }, type := 4, pos := "law.go:24", after := #[{ on := 31, ground := Ground.data }, { on := 32, ground := Ground.data }, { on := 30, ground := Ground.chain }, { on := 30, ground := Ground.guard }], guard := some (30, true) },
      { dst := some 91, op := Op.pick (Operand.tmp 87) (Operand.tmp 90) (Operand.const (Value.bool false)), type := 4, pos := "law.go:24", after := #[{ on := 30, ground := Ground.data }, { on := 33, ground := Ground.data }], guard := none },
      { dst := some 92, op := Op.move (Operand.tmp 91), type := 4, pos := "law.go:24", after := #[{ on := 34, ground := Ground.data }, { on := 33, ground := Ground.chain }], guard := none },
      { dst := some 93, op := Op.move (Operand.tmp 8), type := 2, pos := "law.go:24", after := #[{ on := 35, ground := Ground.guard }], guard := some (35, true) },
      { dst := some 94, op := Op.binOp BinOp.eql 2 (Operand.tmp 93) (Operand.const (Value.int IntKind.i64 3)) 2, type := 4, pos := "law.go:24", after := #[{ on := 36, ground := Ground.data }, { on := 35, ground := Ground.guard }], guard := some (35, true) },
      { dst := some 95, op := Op.pick (Operand.tmp 92) (Operand.tmp 94) (Operand.const (Value.bool false)), type := 4, pos := "law.go:24", after := #[{ on := 35, ground := Ground.data }, { on := 37, ground := Ground.data }], guard := none },
      { dst := some 96, op := Op.move (Operand.tmp 95), type := 4, pos := "law.go:24", after := #[{ on := 38, ground := Ground.data }, { on := 35, ground := Ground.chain }], guard := none },
      { dst := some 97, op := Op.move (Operand.tmp 10), type := 22, pos := "law.go:24", after := #[{ on := 39, ground := Ground.guard }], guard := some (39, true) },
      { dst := some 98, op := Op.buildSlice 22 2 #[(0, Operand.const (Value.int IntKind.u32 2)), (1, Operand.const (Value.int IntKind.u32 3))], type := 22, pos := "law.go:24", after := #[{ on := 39, ground := Ground.guard }], guard := some (39, true) },
      { dst := some 99, op := Op.call { callee := Callee.value (Operand.func 9), args := #[Operand.tmp 97, Operand.tmp 98], argTypes := #[22, 22] }, type := 4, pos := "law.go:24", after := #[{ on := 40, ground := Ground.data }, { on := 41, ground := Ground.data }, { on := 39, ground := Ground.chain }, { on := 39, ground := Ground.guard }], guard := some (39, true) },
      { dst := some 100, op := Op.pick (Operand.tmp 96) (Operand.tmp 99) (Operand.const (Value.bool false)), type := 4, pos := "law.go:24", after := #[{ on := 39, ground := Ground.data }, { on := 42, ground := Ground.data }], guard := none },
      { dst := some 0, op := Op.assign (Operand.tmp 100), type := 4, pos := "law.go:24", after := #[{ on := 43, ground := Ground.data }, { on := 42, ground := Ground.chain }, { on := 0, ground := Ground.phase }, { on := 1, ground := Ground.phase }, { on := 2, ground := Ground.phase }, { on := 3, ground := Ground.phase }, { on := 4, ground := Ground.phase }, { on := 5, ground := Ground.phase }, { on := 6, ground := Ground.phase }, { on := 7, ground := Ground.phase }, { on := 8, ground := Ground.phase }, { on := 9, ground := Ground.phase }, { on := 10, ground := Ground.phase }, { on := 11, ground := Ground.phase }, { on := 12, ground := Ground.phase }, { on := 13, ground := Ground.phase }, { on := 14, ground := Ground.phase }, { on := 15, ground := Ground.phase }, { on := 16, ground := Ground.phase }, { on := 17, ground := Ground.phase }, { on := 18, ground := Ground.phase }, { on := 19, ground := Ground.phase }, { on := 20, ground := Ground.phase }, { on := 21, ground := Ground.phase }, { on := 22, ground := Ground.phase }, { on := 23, ground := Ground.phase }, { on := 24, ground := Ground.phase }, { on := 25, ground := Ground.phase }, { on := 26, ground := Ground.phase }, { on := 27, ground := Ground.phase }, { on := 28, ground := Ground.phase }, { on := 29, ground := Ground.phase }, { on := 30, ground := Ground.phase }, { on := 31, ground := Ground.phase }, { on := 32, ground := Ground.phase }, { on := 33, ground := Ground.phase }, { on := 34, ground := Ground.phase }, { on := 35, ground := Ground.phase }, { on := 36, ground := Ground.phase }, { on := 37, ground := Ground.phase }, { on := 38, ground := Ground.phase }, { on := 39, ground := Ground.phase }, { on := 40, ground := Ground.phase }, { on := 41, ground := Ground.phase }, { on := 42, ground := Ground.phase }, { on := 43, ground := Ground.phase }], guard := none }] true).wp Tryz.prog Q { tmps := List.toArray (s0 :: .pointer (some ⟨S, 0, none⟩) :: .int .i64 0 :: v3 :: .int .i64 0 :: vr :: .pointer (some ⟨X, 0, none⟩) :: vl :: .int .i64 3 :: .int .i64 0 :: vk :: .int .i64 0 :: v12 :: v13 :: v14 :: v15 :: v16 :: v17 :: v18 :: v19 :: v20 :: v21 :: v22 :: v23 :: v24 :: v25 :: v26 :: v27 :: v28 :: v29 :: v30 :: v31 :: v32 :: v33 :: v34 :: v35 :: v36 :: v37 :: v38 :: v39 :: v40 :: v41 :: v42 :: v43 :: v44 :: v45 :: v46 :: v47 :: v48 :: v49 :: v50 :: v51 :: v52 :: v53 :: v54 :: v55 :: v56 :: s57 :: s58 :: s59 :: s60 :: s61 :: s62 :: s63 :: s64 :: s65 :: s66 :: s67 :: s68 :: s69 :: s70 :: s71 :: s72 :: s73 :: s74 :: s75 :: s76 :: s77 :: s78 :: s79 :: s80 :: s81 :: s82 :: s83 :: s84 :: s85 :: s86 :: s87 :: s88 :: s89 :: s90 :: s91 :: s92 :: s93 :: s94 :: s95 :: s96 :: s97 :: s98 :: s99 :: s100 :: ([] : List Value)), defers := [] } W := by
  have HS := Lib.hid hS
  have HR := Lib.hid hr
  have HL := Lib.hid hl
  have HK := Lib.hid hk
  have HG0 := Lib.hid (show Gr W W.drew from (Gr.refl W).drew)
  clear hS hr hl hk
  refine wp_region_held_drew (S := fun w' => w'.cell? ⟨X, 0, none⟩ = some (.bool (decide ((-50 : Int) < 0))) ∧ w'.cell? ⟨X, 1, none⟩ = some (.string (bstr (-50 : Int).natAbs)) ∧ Gr W w') (by kernel_rfl) ⟨HG0.out.keeps x0, HG0.out.keeps x1, HG0.out⟩ (fun hHeld => ?_)
  have x0 := HG0.out.keeps x0
  have x1 := HG0.out.keeps x1
  obtain ⟨w0, hw0⟩ : ∃ w0, w0 = W.drew := ⟨_, rfl⟩
  rw [← hw0] at HG0 x0 x1 hHeld ⊢
  clear hw0
  refine wpAnyH_take (i := 0) (oi := { dst := some 57, op := Op.move (Operand.tmp 2), type := 32, pos := "law.go:24", after := #[], guard := none }) (v := ?_) rfl (by kernel_rfl) (by kernel_rfl) (by kernel_rfl) (hQ _ _) (_root_.Or.inl ⟨by rfl, ?_⟩) (by assumption) ?_
  rotate_left
  · intro w0 hSw; (try dsimp only at hSw); go_simp; try with_reducible rfl
  (try simp only [Act.put, List.setIfInBounds_toArray, List.set_cons_zero, List.set_cons_succ])
  refine wpAnyH_take (i := 1) (oi := { dst := some 58, op := Op.binOp BinOp.eql 32 (Operand.tmp 57) (Operand.const (Value.int IntKind.i64 0)) 32, type := 4, pos := "law.go:24", after := #[{ on := 0, ground := Ground.data }], guard := none }) (v := ?_) rfl (by kernel_rfl) (by kernel_rfl) (by kernel_rfl) (hQ _ _) (_root_.Or.inl ⟨by rfl, ?_⟩) (by assumption) ?_
  rotate_left
  · intro w0 hSw; (try dsimp only at hSw); go_simp; try with_reducible rfl
  (try simp only [Act.put, List.setIfInBounds_toArray, List.set_cons_zero, List.set_cons_succ])
  refine wpAnyH_take (i := 2) (oi := { dst := some 59, op := Op.move (Operand.tmp 58), type := 4, pos := "law.go:24", after := #[{ on := 1, ground := Ground.data }], guard := none }) (v := ?_) rfl (by kernel_rfl) (by kernel_rfl) (by kernel_rfl) (hQ _ _) (_root_.Or.inl ⟨by rfl, ?_⟩) (by assumption) ?_
  rotate_left
  · intro w0 hSw; (try dsimp only at hSw); go_simp; try with_reducible rfl
  (try simp only [Act.put, List.setIfInBounds_toArray, List.set_cons_zero, List.set_cons_succ])
  refine wpAnyH_take (i := 3) (oi := { dst := some 60, op := Op.move (Operand.tmp 4), type := 32, pos := "law.go:24", after := #[{ on := 2, ground := Ground.guard }], guard := some (2, true) }) (v := ?_) rfl (by kernel_rfl) (by kernel_rfl) (by kernel_rfl) (hQ _ _) (_root_.Or.inl ⟨by rfl, ?_⟩) (by assumption) ?_
  rotate_left
  · intro w0 hSw; (try dsimp only at hSw); go_simp; try with_reducible rfl
  (try simp only [Act.put, List.setIfInBounds_toArray, List.set_cons_zero, List.set_cons_succ])
  refine wpAnyH_take (i := 4) (oi := { dst := some 61, op := Op.binOp BinOp.eql 32 (Operand.tmp 60) (Operand.const (Value.int IntKind.i64 0)) 32, type := 4, pos := "law.go:24", after := #[{ on := 3, ground := Ground.data }, { on := 2, ground := Ground.guard }], guard := some (2, true) }) (v := ?_) rfl (by kernel_rfl) (by kernel_rfl) (by kernel_rfl) (hQ _ _) (_root_.Or.inl ⟨by rfl, ?_⟩) (by assumption) ?_
  rotate_left
  · intro w0 hSw; (try dsimp only at hSw); go_simp; try with_reducible rfl
  (try simp only [Act.put, List.setIfInBounds_toArray, List.set_cons_zero, List.set_cons_succ])
  refine wpAnyH_take (i := 5) (oi := { dst := some 62, op := Op.pick (Operand.tmp 59) (Operand.tmp 61) (Operand.const (Value.bool false)), type := 4, pos := "law.go:24", after := #[{ on := 2, ground := Ground.data }, { on := 4, ground := Ground.data }], guard := none }) (v := ?_) rfl (by kernel_rfl) (by kernel_rfl) (by kernel_rfl) (hQ _ _) (_root_.Or.inl ⟨by rfl, ?_⟩) (by assumption) ?_
  rotate_left
  · intro w0 hSw; (try dsimp only at hSw); go_simp; try with_reducible rfl
  (try simp only [Act.put, List.setIfInBounds_toArray, List.set_cons_zero, List.set_cons_succ])
  refine wpAnyH_take (i := 6) (oi := { dst := some 63, op := Op.move (Operand.tmp 62), type := 4, pos := "law.go:24", after := #[{ on := 5, ground := Ground.data }, { on := 2, ground := Ground.chain }], guard := none }) (v := ?_) rfl (by kernel_rfl) (by kernel_rfl) (by kernel_rfl) (hQ _ _) (_root_.Or.inl ⟨by rfl, ?_⟩) (by assumption) ?_
  rotate_left
  · intro w0 hSw; (try dsimp only at hSw); go_simp; try with_reducible rfl
  (try simp only [Act.put, List.setIfInBounds_toArray, List.set_cons_zero, List.set_cons_succ])
  refine wpAnyH_take (i := 7) (oi := { dst := some 64, op := Op.move (Operand.tmp 9), type := 32, pos := "law.go:24", after := #[{ on := 6, ground := Ground.guard }], guard := some (6, true) }) (v := ?_) rfl (by kernel_rfl) (by kernel_rfl) (by kernel_rfl) (hQ _ _) (_root_.Or.inl ⟨by rfl, ?_⟩) (by assumption) ?_
  rotate_left
  · intro w0 hSw; (try dsimp only at hSw); go_simp; try with_reducible rfl
  (try simp only [Act.put, List.setIfInBounds_toArray, List.set_cons_zero, List.set_cons_succ])
  refine wpAnyH_take (i := 8) (oi := { dst := some 65, op := Op.binOp BinOp.eql 32 (Operand.tmp 64) (Operand.const (Value.int IntKind.i64 0)) 32, type := 4, pos := "law.go:24", after := #[{ on := 7, ground := Ground.data }, { on := 6, ground := Ground.guard }], guard := some (6, true) }) (v := ?_) rfl (by kernel_rfl) (by kernel_rfl) (by kernel_rfl) (hQ _ _) (_root_.Or.inl ⟨by rfl, ?_⟩) (by assumption) ?_
  rotate_left
  · intro w0 hSw; (try dsimp only at hSw); go_simp; try with_reducible rfl
  (try simp only [Act.put, List.setIfInBounds_toArray, List.set_cons_zero, List.set_cons_succ])
  refine wpAnyH_take (i := 9) (oi := { dst := some 66, op := Op.pick (Operand.tmp 63) (Operand.tmp 65) (Operand.const (Value.bool false)), type := 4, pos := "law.go:24", after := #[{ on := 6, ground := Ground.data }, { on := 8, ground := Ground.data }], guard := none }) (v := ?_) rfl (by kernel_rfl) (by kernel_rfl) (by kernel_rfl) (hQ _ _) (_root_.Or.inl ⟨by rfl, ?_⟩) (by assumption) ?_
  rotate_left
  · intro w0 hSw; (try dsimp only at hSw); go_simp; try with_reducible rfl
  (try simp only [Act.put, List.setIfInBounds_toArray, List.set_cons_zero, List.set_cons_succ])
  refine wpAnyH_take (i := 10) (oi := { dst := some 67, op := Op.move (Operand.tmp 66), type := 4, pos := "law.go:24", after := #[{ on := 9, ground := Ground.data }, { on := 6, ground := Ground.chain }], guard := none }) (v := ?_) rfl (by kernel_rfl) (by kernel_rfl) (by kernel_rfl) (hQ _ _) (_root_.Or.inl ⟨by rfl, ?_⟩) (by assumption) ?_
  rotate_left
  · intro w0 hSw; (try dsimp only at hSw); go_simp; try with_reducible rfl
  (try simp only [Act.put, List.setIfInBounds_toArray, List.set_cons_zero, List.set_cons_succ])
  refine wpAnyH_take (i := 11) (oi := { dst := some 68, op := Op.move (Operand.tmp 11), type := 32, pos := "law.go:24", after := #[{ on := 10, ground := Ground.guard }], guard := some (10, true) }) (v := ?_) rfl (by kernel_rfl) (by kernel_rfl) (by kernel_rfl) (hQ _ _) (_root_.Or.inl ⟨by rfl, ?_⟩) (by assumption) ?_
  rotate_left
  · intro w0 hSw; (try dsimp only at hSw); go_simp; try with_reducible rfl
  (try simp only [Act.put, List.setIfInBounds_toArray, List.set_cons_zero, List.set_cons_succ])
  refine wpAnyH_take (i := 12) (oi := { dst := some 69, op := Op.binOp BinOp.eql 32 (Operand.tmp 68) (Operand.const (Value.int IntKind.i64 0)) 32, type := 4, pos := "law.go:24", after := #[{ on := 11, ground := Ground.data }, { on := 10, ground := Ground.guard }], guard := some (10, true) }) (v := ?_) rfl (by kernel_rfl) (by kernel_rfl) (by kernel_rfl) (hQ _ _) (_root_.Or.inl ⟨by rfl, ?_⟩) (by assumption) ?_
  rotate_left
  · intro w0 hSw; (try dsimp only at hSw); go_simp; try with_reducible rfl
  (try simp only [Act.put, List.setIfInBounds_toArray, List.set_cons_zero, List.set_cons_succ])
  refine wpAnyH_take (i := 13) (oi := { dst := some 70, op := Op.pick (Operand.tmp 67) (Operand.tmp 69) (Operand.const (Value.bool false)), type := 4, pos := "law.go:24", after := #[{ on := 10, ground := Ground.data }, { on := 12, ground := Ground.data }], guard := none }) (v := ?_) rfl (by kernel_rfl) (by kernel_rfl) (by kernel_rfl) (hQ _ _) (_root_.Or.inl ⟨by rfl, ?_⟩) (by assumption) ?_
  rotate_left
  · intro w0 hSw; (try dsimp only at hSw); go_simp; try with_reducible rfl
  (try simp only [Act.put, List.setIfInBounds_toArray, List.set_cons_zero, List.set_cons_succ])
  refine wpAnyH_take (i := 14) (oi := { dst := some 71, op := Op.move (Operand.tmp 70), type := 4, pos := "law.go:24", after := #[{ on := 13, ground := Ground.data }, { on := 10, ground := Ground.chain }], guard := none }) (v := ?_) rfl (by kernel_rfl) (by kernel_rfl) (by kernel_rfl) (hQ _ _) (_root_.Or.inl ⟨by rfl, ?_⟩) (by assumption) ?_
  rotate_left
  · intro w0 hSw; (try dsimp only at hSw); go_simp; try with_reducible rfl
  (try simp only [Act.put, List.setIfInBounds_toArray, List.set_cons_zero, List.set_cons_succ])
  refine wpAnyH_take (i := 15) (oi := { dst := some 72, op := Op.move (Operand.tmp 1), type := 28, pos := "law.go:24", after := #[{ on := 14, ground := Ground.guard }], guard := some (14, true) }) (v := ?_) rfl (by kernel_rfl) (by kernel_rfl) (by kernel_rfl) (hQ _ _) (_root_.Or.inl ⟨by rfl, ?_⟩) (by assumption) ?_
  rotate_left
  · intro w0 hSw; (try dsimp only at hSw); go_simp; try with_reducible rfl
  (try simp only [Act.put, List.setIfInBounds_toArray, List.set_cons_zero, List.set_cons_succ])
  refine wpAnyH_ready (rs := [16]) (by kernel_rfl) (by simp) ?_
  refine AllReadyH.cons (o := { dst := some 73, op := Op.call { callee := Callee.value (Operand.func 22), args := #[Operand.tmp 72], argTypes := #[28] }, type := 24, pos := "law.go:24", after := #[{ on := 15, ground := Ground.data }, { on := 14, ground := Ground.chain }, { on := 14, ground := Ground.guard }], guard := some (14, true) }) rfl (fun K hK => ?_) AllReadyH.nil
  go_simp
  go_at_call 22
  refine (product_any S [3, 5, 7] _ (HS.out.later HG0.out) sys357).mono ?_
  rintro e w1 ⟨rfl, g⟩
  rw [prod105]
  go_wp2_with fail
  have HG1 := Lib.hid (HG0.out.trans g)
  have x0 := g.keeps x0
  have x1 := g.keeps x1
  clear g
  refine hK.out _ _ ⟨x0, x1, HG1.out⟩ (fun hHeld => ?_)
  clear hK K
  (try simp only [Act.put, List.setIfInBounds_toArray, List.set_cons_zero, List.set_cons_succ])
  refine wpAnyH_ready (rs := [17]) (by kernel_rfl) (by simp) ?_
  refine AllReadyH.cons (o := { dst := some 74, op := Op.call { callee := Callee.value (Operand.func 21), args := #[Operand.const (Value.int IntKind.i64 105)], argTypes := #[2] }, type := 24, pos := "law.go:24", after := #[{ on := 16, ground := Ground.chain }, { on := 14, ground := Ground.guard }], guard := some (14, true) }) rfl (fun K hK => ?_) AllReadyH.nil
  go_simp
  go_at_call 21
  refine (wof_any 105 _ ⟨by omega, by omega⟩).mono ?_
  rintro e w2 ⟨rfl, g⟩
  go_wp2_with fail
  have HG2 := Lib.hid (HG1.out.trans g)
  have x0 := g.keeps x0
  have x1 := g.keeps x1
  clear g
  refine hK.out _ _ ⟨x0, x1, HG2.out⟩ (fun hHeld => ?_)
  clear hK K
  (try simp only [Act.put, List.setIfInBounds_toArray, List.set_cons_zero, List.set_cons_succ])
  refine wpAnyH_take (i := 18) (oi := { dst := some 75, op := Op.binOp BinOp.eql 24 (Operand.tmp 73) (Operand.tmp 74) 24, type := 4, pos := "law.go:24", after := #[{ on := 16, ground := Ground.data }, { on := 17, ground := Ground.data }, { on := 14, ground := Ground.guard }], guard := some (14, true) }) (v := ?_) rfl (by kernel_rfl) (by kernel_rfl) (by kernel_rfl) (hQ _ _) (_root_.Or.inl ⟨by rfl, ?_⟩) (by assumption) ?_
  rotate_left
  · intro w0 hSw; obtain ⟨x0, x1, -⟩ := hSw; unfold wv; go_simp; try with_reducible rfl
  (try simp only [Act.put, List.setIfInBounds_toArray, List.set_cons_zero, List.set_cons_succ])
  refine wpAnyH_take (i := 19) (oi := { dst := some 76, op := Op.pick (Operand.tmp 71) (Operand.tmp 75) (Operand.const (Value.bool false)), type := 4, pos := "law.go:24", after := #[{ on := 14, ground := Ground.data }, { on := 18, ground := Ground.data }], guard := none }) (v := ?_) rfl (by kernel_rfl) (by kernel_rfl) (by kernel_rfl) (hQ _ _) (_root_.Or.inl ⟨by rfl, ?_⟩) (by assumption) ?_
  rotate_left
  · intro w0 hSw; (try dsimp only at hSw); go_simp; try with_reducible rfl
  (try simp only [Act.put, List.setIfInBounds_toArray, List.set_cons_zero, List.set_cons_succ])
  refine wpAnyH_take (i := 20) (oi := { dst := some 77, op := Op.move (Operand.tmp 76), type := 4, pos := "law.go:24", after := #[{ on := 19, ground := Ground.data }, { on := 17, ground := Ground.chain }], guard := none }) (v := ?_) rfl (by kernel_rfl) (by kernel_rfl) (by kernel_rfl) (hQ _ _) (_root_.Or.inl ⟨by rfl, ?_⟩) (by assumption) ?_
  rotate_left
  · intro w0 hSw; (try dsimp only at hSw); go_simp; try with_reducible rfl
  (try simp only [Act.put, List.setIfInBounds_toArray, List.set_cons_zero, List.set_cons_succ])
  refine wpAnyH_take (i := 21) (oi := { dst := some 78, op := Op.move (Operand.tmp 5), type := 22, pos := "law.go:24", after := #[{ on := 20, ground := Ground.guard }], guard := some (20, true) }) (v := ?_) rfl (by kernel_rfl) (by kernel_rfl) (by kernel_rfl) (hQ _ _) (_root_.Or.inl ⟨by rfl, ?_⟩) (by assumption) ?_
  rotate_left
  · intro w0 hSw; (try dsimp only at hSw); go_simp; try with_reducible rfl
  (try simp only [Act.put, List.setIfInBounds_toArray, List.set_cons_zero, List.set_cons_succ])
  refine wpAnyH_ready (rs := [22]) (by kernel_rfl) (by simp) ?_
  refine AllReadyH.cons (o := { dst := some 79, op := Op.buildSlice 22 3 #[(0, Operand.const (Value.int IntKind.u32 1)), (1, Operand.const (Value.int IntKind.u32 2)), (2, Operand.const (Value.int IntKind.u32 3))], type := 22, pos := "law.go:24", after := #[{ on := 20, ground := Ground.guard }], guard := some (20, true) }) rfl (fun K hK => ?_) AllReadyH.nil
  go_simp
  have g := Gr.new w2 (.cells #[.int .u32 1, .int .u32 2, .int .u32 3] 42)
  have HN22 := Lib.hid (three_hasP' w2 1 2 3 w2.heap.size rfl (u32_dec (by decide)))
  have HG3 := Lib.hid (HG2.out.trans g)
  have x0 := g.keeps x0
  have x1 := g.keeps x1
  clear g
  generalize w2.alloc (.cells #[.int .u32 1, .int .u32 2, .int .u32 3] 42) = w3 at *
  refine hK.out _ _ ⟨x0, x1, HG3.out⟩ (fun hHeld => ?_)
  clear hK K
  (try simp only [Act.put, List.setIfInBounds_toArray, List.set_cons_zero, List.set_cons_succ])
  refine wpAnyH_ready (rs := [23]) (by kernel_rfl) (by simp) ?_
  refine AllReadyH.cons (o := { dst := some 80, op := Op.call { callee := Callee.value (Operand.func 9), args := #[Operand.tmp 78, Operand.tmp 79], argTypes := #[22, 22] }, type := 4, pos := "law.go:24", after := #[{ on := 21, ground := Ground.data }, { on := 22, ground := Ground.data }, { on := 20, ground := Ground.chain }, { on := 20, ground := Ground.guard }], guard := some (20, true) }) rfl (fun K hK => ?_) AllReadyH.nil
  go_simp
  go_at_call 9
  refine (same_any [1, 2, 3] [1, 2, 3] _ _ _ (HR.out.later HG3.out) HN22.out (by decide) (by decide)).mono ?_
  rintro e w4 ⟨rfl, g⟩
  go_wp2_with fail
  have HG4 := Lib.hid (HG3.out.trans g)
  have x0 := g.keeps x0
  have x1 := g.keeps x1
  clear g
  try rw [show decide (([1, 2, 3] : List Int) = [1, 2, 3]) = true from by simp]
  refine hK.out _ _ ⟨x0, x1, HG4.out⟩ (fun hHeld => ?_)
  clear hK K
  (try simp only [Act.put, List.setIfInBounds_toArray, List.set_cons_zero, List.set_cons_succ])
  refine wpAnyH_take (i := 24) (oi := { dst := some 81, op := Op.pick (Operand.tmp 77) (Operand.tmp 80) (Operand.const (Value.bool false)), type := 4, pos := "law.go:24", after := #[{ on := 20, ground := Ground.data }, { on := 23, ground := Ground.data }], guard := none }) (v := ?_) rfl (by kernel_rfl) (by kernel_rfl) (by kernel_rfl) (hQ _ _) (_root_.Or.inl ⟨by rfl, ?_⟩) (by assumption) ?_
  rotate_left
  · intro w0 hSw; (try dsimp only at hSw); go_simp; try with_reducible rfl
  (try simp only [Act.put, List.setIfInBounds_toArray, List.set_cons_zero, List.set_cons_succ])
  refine wpAnyH_take (i := 25) (oi := { dst := some 82, op := Op.move (Operand.tmp 81), type := 4, pos := "law.go:24", after := #[{ on := 24, ground := Ground.data }, { on := 23, ground := Ground.chain }], guard := none }) (v := ?_) rfl (by kernel_rfl) (by kernel_rfl) (by kernel_rfl) (hQ _ _) (_root_.Or.inl ⟨by rfl, ?_⟩) (by assumption) ?_
  rotate_left
  · intro w0 hSw; (try dsimp only at hSw); go_simp; try with_reducible rfl
  (try simp only [Act.put, List.setIfInBounds_toArray, List.set_cons_zero, List.set_cons_succ])
  refine wpAnyH_take (i := 26) (oi := { dst := some 83, op := Op.load 24 (Operand.tmp 6), type := 24, pos := "law.go:24", after := #[{ on := 25, ground := Ground.guard }], guard := some (25, true) }) (v := ?_) rfl (by kernel_rfl) (by kernel_rfl) (by kernel_rfl) (hQ _ _) (_root_.Or.inl ⟨by rfl, ?_⟩) (by assumption) ?_
  rotate_left
  · intro w0 hSw; obtain ⟨x0, x1, -⟩ := hSw; unfold wv; go_simp; try with_reducible rfl
  (try simp only [Act.put, List.setIfInBounds_toArray, List.set_cons_zero, List.set_cons_succ])
  refine wpAnyH_ready (rs := [27]) (by kernel_rfl) (by simp) ?_
  refine AllReadyH.cons (o := { dst := some 84, op := Op.call { callee := Callee.value (Operand.func 21), args := #[Operand.const (Value.int IntKind.i64 (-50))], argTypes := #[2] }, type := 24, pos := "law.go:24", after := #[{ on := 25, ground := Ground.chain }, { on := 25, ground := Ground.guard }], guard := some (25, true) }) rfl (fun K hK => ?_) AllReadyH.nil
  go_simp
  go_at_call 21
  refine (wof_any (-50) _ ⟨by omega, by omega⟩).mono ?_
  rintro e w5 ⟨rfl, g⟩
  go_wp2_with fail
  have HG5 := Lib.hid (HG4.out.trans g)
  have x0 := g.keeps x0
  have x1 := g.keeps x1
  clear g
  refine hK.out _ _ ⟨x0, x1, HG5.out⟩ (fun hHeld => ?_)
  clear hK K
  (try simp only [Act.put, List.setIfInBounds_toArray, List.set_cons_zero, List.set_cons_succ])
  refine wpAnyH_take (i := 28) (oi := { dst := some 85, op := Op.binOp BinOp.eql 24 (Operand.tmp 83) (Operand.tmp 84) 24, type := 4, pos := "law.go:24", after := #[{ on := 26, ground := Ground.data }, { on := 27, ground := Ground.data }, { on := 25, ground := Ground.guard }], guard := some (25, true) }) (v := ?_) rfl (by kernel_rfl) (by kernel_rfl) (by kernel_rfl) (hQ _ _) (_root_.Or.inl ⟨by rfl, ?_⟩) (by assumption) ?_
  rotate_left
  · intro w0 hSw; obtain ⟨x0, x1, -⟩ := hSw; unfold wv; go_simp; try with_reducible rfl
  (try simp only [Act.put, List.setIfInBounds_toArray, List.set_cons_zero, List.set_cons_succ])
  refine wpAnyH_take (i := 29) (oi := { dst := some 86, op := Op.pick (Operand.tmp 82) (Operand.tmp 85) (Operand.const (Value.bool false)), type := 4, pos := "law.go:24", after := #[{ on := 25, ground := Ground.data }, { on := 28, ground := Ground.data }], guard := none }) (v := ?_) rfl (by kernel_rfl) (by kernel_rfl) (by kernel_rfl) (hQ _ _) (_root_.Or.inl ⟨by rfl, ?_⟩) (by assumption) ?_
  rotate_left
  · intro w0 hSw; (try dsimp only at hSw); go_simp; try with_reducible rfl
  (try simp only [Act.put, List.setIfInBounds_toArray, List.set_cons_zero, List.set_cons_succ])
  refine wpAnyH_take (i := 30) (oi := { dst := some 87, op := Op.move (Operand.tmp 86), type := 4, pos := "law.go:24", after := #[{ on := 29, ground := Ground.data }, { on := 27, ground := Ground.chain }], guard := none }) (v := ?_) rfl (by kernel_rfl) (by kernel_rfl) (by kernel_rfl) (hQ _ _) (_root_.Or.inl ⟨by rfl, ?_⟩) (by assumption) ?_
  rotate_left
  · intro w0 hSw; (try dsimp only at hSw); go_simp; try with_reducible rfl
  (try simp only [Act.put, List.setIfInBounds_toArray, List.set_cons_zero, List.set_cons_succ])
  refine wpAnyH_take (i := 31) (oi := { dst := some 88, op := Op.move (Operand.tmp 7), type := 22, pos := "law.go:24", after := #[{ on := 30, ground := Ground.guard }], guard := some (30, true) }) (v := ?_) rfl (by kernel_rfl) (by kernel_rfl) (by kernel_rfl) (hQ _ _) (_root_.Or.inl ⟨by rfl, ?_⟩) (by assumption) ?_
  rotate_left
  · intro w0 hSw; (try dsimp only at hSw); go_simp; try with_reducible rfl
  (try simp only [Act.put, List.setIfInBounds_toArray, List.set_cons_zero, List.set_cons_succ])
  refine wpAnyH_ready (rs := [32]) (by kernel_rfl) (by simp) ?_
  refine AllReadyH.cons (o := { dst := some 89, op := Op.buildSlice 22 2 #[(0, Operand.const (Value.int IntKind.u32 1)), (1, Operand.const (Value.int IntKind.u32 2))], type := 22, pos := "law.go:24", after := #[{ on := 30, ground := Ground.guard }], guard := some (30, true) }) rfl (fun K hK => ?_) AllReadyH.nil
  go_simp
  have g := Gr.new w5 (.cells #[.int .u32 1, .int .u32 2] 42)
  have HN32 := Lib.hid (two_hasP' w5 1 2 w5.heap.size rfl (by omega) (by omega))
  have HG6 := Lib.hid (HG5.out.trans g)
  have x0 := g.keeps x0
  have x1 := g.keeps x1
  clear g
  generalize w5.alloc (.cells #[.int .u32 1, .int .u32 2] 42) = w6 at *
  refine hK.out _ _ ⟨x0, x1, HG6.out⟩ (fun hHeld => ?_)
  clear hK K
  (try simp only [Act.put, List.setIfInBounds_toArray, List.set_cons_zero, List.set_cons_succ])
  refine wpAnyH_ready (rs := [33]) (by kernel_rfl) (by simp) ?_
  refine AllReadyH.cons (o := { dst := some 90, op := Op.call { callee := Callee.value (Operand.func 9), args := #[Operand.tmp 88, Operand.tmp 89], argTypes := #[22, 22] }, type := 4, pos := "law.go:24", after := #[{ on := 31, ground := Ground.data }, { on := 32, ground := Ground.data }, { on := 30, ground := Ground.chain }, { on := 30, ground := Ground.guard }], guard := some (30, true) }) rfl (fun K hK => ?_) AllReadyH.nil
  go_simp
  go_at_call 9
  refine (same_any [1, 2] [1, 2] _ _ _ (HL.out.later HG6.out) HN32.out (by decide) (by decide)).mono ?_
  rintro e w7 ⟨rfl, g⟩
  go_wp2_with fail
  have HG7 := Lib.hid (HG6.out.trans g)
  have x0 := g.keeps x0
  have x1 := g.keeps x1
  clear g
  try rw [show decide (([1, 2] : List Int) = [1, 2]) = true from by simp]
  refine hK.out _ _ ⟨x0, x1, HG7.out⟩ (fun hHeld => ?_)
  clear hK K
  (try simp only [Act.put, List.setIfInBounds_toArray, List.set_cons_zero, List.set_cons_succ])
  refine wpAnyH_take (i := 34) (oi := { dst := some 91, op := Op.pick (Operand.tmp 87) (Operand.tmp 90) (Operand.const (Value.bool false)), type := 4, pos := "law.go:24", after := #[{ on := 30, ground := Ground.data }, { on := 33, ground := Ground.data }], guard := none }) (v := ?_) rfl (by kernel_rfl) (by kernel_rfl) (by kernel_rfl) (hQ _ _) (_root_.Or.inl ⟨by rfl, ?_⟩) (by assumption) ?_
  rotate_left
  · intro w0 hSw; (try dsimp only at hSw); go_simp; try with_reducible rfl
  (try simp only [Act.put, List.setIfInBounds_toArray, List.set_cons_zero, List.set_cons_succ])
  refine wpAnyH_take (i := 35) (oi := { dst := some 92, op := Op.move (Operand.tmp 91), type := 4, pos := "law.go:24", after := #[{ on := 34, ground := Ground.data }, { on := 33, ground := Ground.chain }], guard := none }) (v := ?_) rfl (by kernel_rfl) (by kernel_rfl) (by kernel_rfl) (hQ _ _) (_root_.Or.inl ⟨by rfl, ?_⟩) (by assumption) ?_
  rotate_left
  · intro w0 hSw; (try dsimp only at hSw); go_simp; try with_reducible rfl
  (try simp only [Act.put, List.setIfInBounds_toArray, List.set_cons_zero, List.set_cons_succ])
  refine wpAnyH_take (i := 36) (oi := { dst := some 93, op := Op.move (Operand.tmp 8), type := 2, pos := "law.go:24", after := #[{ on := 35, ground := Ground.guard }], guard := some (35, true) }) (v := ?_) rfl (by kernel_rfl) (by kernel_rfl) (by kernel_rfl) (hQ _ _) (_root_.Or.inl ⟨by rfl, ?_⟩) (by assumption) ?_
  rotate_left
  · intro w0 hSw; (try dsimp only at hSw); go_simp; try with_reducible rfl
  (try simp only [Act.put, List.setIfInBounds_toArray, List.set_cons_zero, List.set_cons_succ])
  refine wpAnyH_take (i := 37) (oi := { dst := some 94, op := Op.binOp BinOp.eql 2 (Operand.tmp 93) (Operand.const (Value.int IntKind.i64 3)) 2, type := 4, pos := "law.go:24", after := #[{ on := 36, ground := Ground.data }, { on := 35, ground := Ground.guard }], guard := some (35, true) }) (v := ?_) rfl (by kernel_rfl) (by kernel_rfl) (by kernel_rfl) (hQ _ _) (_root_.Or.inl ⟨by rfl, ?_⟩) (by assumption) ?_
  rotate_left
  · intro w0 hSw; (try dsimp only at hSw); go_simp; try with_reducible rfl
  (try simp only [Act.put, List.setIfInBounds_toArray, List.set_cons_zero, List.set_cons_succ])
  refine wpAnyH_take (i := 38) (oi := { dst := some 95, op := Op.pick (Operand.tmp 92) (Operand.tmp 94) (Operand.const (Value.bool false)), type := 4, pos := "law.go:24", after := #[{ on := 35, ground := Ground.data }, { on := 37, ground := Ground.data }], guard := none }) (v := ?_) rfl (by kernel_rfl) (by kernel_rfl) (by kernel_rfl) (hQ _ _) (_root_.Or.inl ⟨by rfl, ?_⟩) (by assumption) ?_
  rotate_left
  · intro w0 hSw; (try dsimp only at hSw); go_simp; try with_reducible rfl
  (try simp only [Act.put, List.setIfInBounds_toArray, List.set_cons_zero, List.set_cons_succ])
  refine wpAnyH_take (i := 39) (oi := { dst := some 96, op := Op.move (Operand.tmp 95), type := 4, pos := "law.go:24", after := #[{ on := 38, ground := Ground.data }, { on := 35, ground := Ground.chain }], guard := none }) (v := ?_) rfl (by kernel_rfl) (by kernel_rfl) (by kernel_rfl) (hQ _ _) (_root_.Or.inl ⟨by rfl, ?_⟩) (by assumption) ?_
  rotate_left
  · intro w0 hSw; (try dsimp only at hSw); go_simp; try with_reducible rfl
  (try simp only [Act.put, List.setIfInBounds_toArray, List.set_cons_zero, List.set_cons_succ])
  refine wpAnyH_take (i := 40) (oi := { dst := some 97, op := Op.move (Operand.tmp 10), type := 22, pos := "law.go:24", after := #[{ on := 39, ground := Ground.guard }], guard := some (39, true) }) (v := ?_) rfl (by kernel_rfl) (by kernel_rfl) (by kernel_rfl) (hQ _ _) (_root_.Or.inl ⟨by rfl, ?_⟩) (by assumption) ?_
  rotate_left
  · intro w0 hSw; (try dsimp only at hSw); go_simp; try with_reducible rfl
  (try simp only [Act.put, List.setIfInBounds_toArray, List.set_cons_zero, List.set_cons_succ])
  refine wpAnyH_ready (rs := [41]) (by kernel_rfl) (by simp) ?_
  refine AllReadyH.cons (o := { dst := some 98, op := Op.buildSlice 22 2 #[(0, Operand.const (Value.int IntKind.u32 2)), (1, Operand.const (Value.int IntKind.u32 3))], type := 22, pos := "law.go:24", after := #[{ on := 39, ground := Ground.guard }], guard := some (39, true) }) rfl (fun K hK => ?_) AllReadyH.nil
  go_simp
  have g := Gr.new w7 (.cells #[.int .u32 2, .int .u32 3] 42)
  have HN41 := Lib.hid (two_hasP' w7 2 3 w7.heap.size rfl (by omega) (by omega))
  have HG8 := Lib.hid (HG7.out.trans g)
  have x0 := g.keeps x0
  have x1 := g.keeps x1
  clear g
  generalize w7.alloc (.cells #[.int .u32 2, .int .u32 3] 42) = w8 at *
  refine hK.out _ _ ⟨x0, x1, HG8.out⟩ (fun hHeld => ?_)
  clear hK K
  (try simp only [Act.put, List.setIfInBounds_toArray, List.set_cons_zero, List.set_cons_succ])
  refine wpAnyH_ready (rs := [42]) (by kernel_rfl) (by simp) ?_
  refine AllReadyH.cons (o := { dst := some 99, op := Op.call { callee := Callee.value (Operand.func 9), args := #[Operand.tmp 97, Operand.tmp 98], argTypes := #[22, 22] }, type := 4, pos := "law.go:24", after := #[{ on := 40, ground := Ground.data }, { on := 41, ground := Ground.data }, { on := 39, ground := Ground.chain }, { on := 39, ground := Ground.guard }], guard := some (39, true) }) rfl (fun K hK => ?_) AllReadyH.nil
  go_simp
  go_at_call 9
  refine (same_any [2, 3] [2, 3] _ _ _ (HK.out.later HG8.out) HN41.out (by decide) (by decide)).mono ?_
  rintro e w9 ⟨rfl, g⟩
  go_wp2_with fail
  have HG9 := Lib.hid (HG8.out.trans g)
  have x0 := g.keeps x0
  have x1 := g.keeps x1
  clear g
  try rw [show decide (([2, 3] : List Int) = [2, 3]) = true from by simp]
  refine hK.out _ _ ⟨x0, x1, HG9.out⟩ (fun hHeld => ?_)
  clear hK K
  (try simp only [Act.put, List.setIfInBounds_toArray, List.set_cons_zero, List.set_cons_succ])
  refine wpAnyH_take (i := 43) (oi := { dst := some 100, op := Op.pick (Operand.tmp 96) (Operand.tmp 99) (Operand.const (Value.bool false)), type := 4, pos := "law.go:24", after := #[{ on := 39, ground := Ground.data }, { on := 42, ground := Ground.data }], guard := none }) (v := ?_) rfl (by kernel_rfl) (by kernel_rfl) (by kernel_rfl) (hQ _ _) (_root_.Or.inl ⟨by rfl, ?_⟩) (by assumption) ?_
  rotate_left
  · intro w0 hSw; (try dsimp only at hSw); go_simp; try with_reducible rfl
  (try simp only [Act.put, List.setIfInBounds_toArray, List.set_cons_zero, List.set_cons_succ])
  refine wpAnyH_take (i := 44) (oi := { dst := some 0, op := Op.assign (Operand.tmp 100), type := 4, pos := "law.go:24", after := #[{ on := 43, ground := Ground.data }, { on := 42, ground := Ground.chain }, { on := 0, ground := Ground.phase }, { on := 1, ground := Ground.phase }, { on := 2, ground := Ground.phase }, { on := 3, ground := Ground.phase }, { on := 4, ground := Ground.phase }, { on := 5, ground := Ground.phase }, { on := 6, ground := Ground.phase }, { on := 7, ground := Ground.phase }, { on := 8, ground := Ground.phase }, { on := 9, ground := Ground.phase }, { on := 10, ground := Ground.phase }, { on := 11, ground := Ground.phase }, { on := 12, ground := Ground.phase }, { on := 13, ground := Ground.phase }, { on := 14, ground := Ground.phase }, { on := 15, ground := Ground.phase }, { on := 16, ground := Ground.phase }, { on := 17, ground := Ground.phase }, { on := 18, ground := Ground.phase }, { on := 19, ground := Ground.phase }, { on := 20, ground := Ground.phase }, { on := 21, ground := Ground.phase }, { on := 22, ground := Ground.phase }, { on := 23, ground := Ground.phase }, { on := 24, ground := Ground.phase }, { on := 25, ground := Ground.phase }, { on := 26, ground := Ground.phase }, { on := 27, ground := Ground.phase }, { on := 28, ground := Ground.phase }, { on := 29, ground := Ground.phase }, { on := 30, ground := Ground.phase }, { on := 31, ground := Ground.phase }, { on := 32, ground := Ground.phase }, { on := 33, ground := Ground.phase }, { on := 34, ground := Ground.phase }, { on := 35, ground := Ground.phase }, { on := 36, ground := Ground.phase }, { on := 37, ground := Ground.phase }, { on := 38, ground := Ground.phase }, { on := 39, ground := Ground.phase }, { on := 40, ground := Ground.phase }, { on := 41, ground := Ground.phase }, { on := 42, ground := Ground.phase }, { on := 43, ground := Ground.phase }], guard := none }) (v := ?_) rfl (by kernel_rfl) (by kernel_rfl) (by kernel_rfl) (hQ _ _) (_root_.Or.inl ⟨by rfl, ?_⟩) (by assumption) ?_
  rotate_left
  · intro w0 hSw; (try dsimp only at hSw); go_simp; try with_reducible rfl
  (try simp only [Act.put, List.setIfInBounds_toArray, List.set_cons_zero, List.set_cons_succ])
  refine wpAnyH_done (by kernel_rfl) ?_ _
  exact hpost _ _ _ _ _ _ _ _ _ _ _ _ _ _ _ _ _ _ _ _ _ _ _ _ _ _ _ _ _ _ _ _ _ _ _ _ _ _ _ _ _ _ _ _ _ HG9.out
end Go.Proofs.YtfpdemmdkiohhaaGreat.Mo
/- shown: what it calls comes out as the document says. -/
namespace Go.Proofs.YtfpdemmdkiohhaaGreat.Mo
open Go.RowKit
set_option linter.unusedVariables false
def Tru (w : World) (e : Ending) (w' : World) : Prop := e = .returned (.bool true) ∧ Gr w w'

set_option maxRecDepth 100000 in
set_option maxHeartbeats 8000000 in
theorem shown_any (w : World) : Calls Tryz.prog 5 #[] w (Tru w) := by
  go_enter Tryz.func5, Tryz.ntmps5
  go_wp2_with fail
  have g := Gr.new w (.cells #[.int .u32 3, .int .u32 5, .int .u32 7] 42)
  refine (new_any [3, 5, 7] _ _ (three_hasP' w 3 5 7 w.heap.size rfl (u32_dec (by decide)))).mono ?_
  rintro e w1 ⟨hg, (⟨-, S, rfl, hs, -⟩ | ⟨h, -⟩)⟩
  rotate_left
  · exact absurd dis357 h
  have HG1 := Lib.hid (g.trans hg)
  have HS1 := Lib.hid hs
  clear g hg hs
  go_wp2_with fail
  have g := Gr.new w1 (.cells #[.int .u32 3, .int .u32 5, .int .u32 3] 42)
  refine (new_any [3, 5, 3] _ _ (three_hasP' w1 3 5 3 w1.heap.size rfl (u32_dec (by decide)))).mono ?_
  rintro e w2 ⟨hg, (⟨h, -⟩ | ⟨-, rfl⟩)⟩
  · exact absurd h dis353
  have HG2 := Lib.hid (HG1.out.trans (g.trans hg))
  have HS2 := Lib.hid (HS1.out.later (g.trans hg))
  clear g hg

  go_wp2_with fail
  refine (wof_any 52 _ ⟨by omega, by omega⟩).mono ?_
  rintro e w3 ⟨rfl, hg⟩
  have HG3 := Lib.hid (HG2.out.trans hg)
  have HS3 := Lib.hid (HS2.out.later hg)
  clear hg
  obtain ⟨n1, hn⟩ : ∃ n, n = decide ((52 : Int) < 0) := ⟨_, rfl⟩
  obtain ⟨s1, hs⟩ : ∃ s, s = bstr (52 : Int).natAbs := ⟨_, rfl⟩
  have hsz : s1.size ≤ 9223372036854775807 := by rw [hs, bstr_size]; have := (Ow.byt_len (n := 52) (k := 1)).1 (by omega); exact Nat.le_trans this (by omega)
  unfold wv
  rw [← hn, ← hs]
  have HN := Lib.hid hn
  have HSS := Lib.hid hs
  clear hn hs
  go_wp2_with fail
  refine (split_any S [3, 5, 7] n1 s1 _ HS3.out sys357 hsz).mono ?_
  rintro e w4 ⟨ar, nr, cr, row, E, rfl, hr, hsr, hg⟩
  obtain ⟨rfl, rfl⟩ := split52 HN.out HSS.out hsr
  have HG4 := Lib.hid (HG3.out.trans hg)
  have HS4 := Lib.hid (HS3.out.later hg)
  have HR4 := Lib.hid hr
  clear hg hr hsr hsz HN HSS
  go_wp2_with fail
  have g := Gr.new w4 (.cells #[.int .u32 1, .int .u32 0, .int .u32 6] 42)
  refine (join_any S [3, 5, 7] [1, 0, 6] _ _ (HS4.out.later g) sys357 (three_hasP' w4 1 0 6 w4.heap.size rfl (u32_dec (by decide)))).mono ?_
  rintro e w5 ⟨X, c, rfl, hj, hg⟩
  obtain ⟨rfl, rfl⟩ := join106 hj
  have HG5 := Lib.hid (HG4.out.trans (g.trans hg))
  have HS5 := Lib.hid (HS4.out.later (g.trans hg))
  have HR5 := Lib.hid (HR4.out.later (g.trans hg))
  clear hg hj g
  unfold wv
  obtain ⟨b, hb⟩ : ∃ b, b = decide ((-50 : Int) < 0) := ⟨_, rfl⟩
  obtain ⟨s, hs⟩ : ∃ s, s = bstr (-50 : Int).natAbs := ⟨_, rfl⟩
  rw [← hb, ← hs]
  have HB := Lib.hid hb
  have HSS := Lib.hid hs
  clear hb hs
  go_wp2_with fail
  have g := Gr.new w5 (.cells #[.bool b, .string s] 24)
  have x0 : (w5.alloc (.cells #[.bool b, .string s] 24)).cell? ⟨w5.heap.size, 0, none⟩ = some (.bool b) := by simp [go_sem]
  have x1 : (w5.alloc (.cells #[.bool b, .string s] 24)).cell? ⟨w5.heap.size, 1, none⟩ = some (.string s) := by simp [go_sem]
  have hsz : (w5.alloc (.cells #[.bool b, .string s] 24)).heap.size = w5.heap.size + 1 := by simp [go_sem]
  generalize w5.alloc (.cells #[.bool b, .string s] 24) = W6 at *
  generalize w5.heap.size = X at *
  have HG6 := Lib.hid (HG5.out.trans g)
  have HS6 := Lib.hid (HS5.out.later g)
  have HR6 := Lib.hid (HR5.out.later g)
  clear g
  have g := Gr.new W6 (.cells #[.int .u32 1, .int .u32 2, .int .u32 3] 42)
  refine (drop_any S [3, 5, 7] [1, 2, 3] _ _ (HS6.out.later g) sys357 (three_hasP' W6 1 2 3 (X + 1) hsz.symm (u32_dec (by decide)))).mono ?_
  rintro e w7 ⟨al, nl, cl, row, d, E, rfl, hl, hd, hg⟩
  obtain ⟨rfl, rfl, rfl⟩ := drop123 hd
  have x0 := (g.trans hg).keeps x0
  have x1 := (g.trans hg).keeps x1
  have HG7 := Lib.hid (HG6.out.trans (g.trans hg))
  have HS7 := Lib.hid (HS6.out.later (g.trans hg))
  have HR7 := Lib.hid (HR6.out.later (g.trans hg))
  have HL7 := Lib.hid hl
  clear hg hd hl g hsz
  go_wp2_with fail
  have g := Gr.new w7 (.cells #[.int .u32 1, .int .u32 2, .int .u32 3] 42)
  refine (scale_any S [3, 5, 7] [1, 2, 3] 2 _ _ (HS7.out.later g) sys357 primeL357 (three_hasP' w7 1 2 3 w7.heap.size rfl (u32_dec (by decide))) ⟨by omega, by omega⟩).mono ?_
  rintro e w8 ⟨ak, nk, ck, row, E, rfl, hk, hd, hg⟩
  obtain ⟨rfl, rfl⟩ := scale123 hd
  have x0 := (g.trans hg).keeps x0
  have x1 := (g.trans hg).keeps x1
  have HG8 := Lib.hid (HG7.out.trans (g.trans hg))
  have HS8 := Lib.hid (HS7.out.later (g.trans hg))
  have HR8 := Lib.hid (HR7.out.later (g.trans hg))
  have HL8 := Lib.hid (HL7.out.later (g.trans hg))
  have HK8 := Lib.hid hk
  clear hg hd hk g
  go_wp2_with fail
  rw [HB.out] at x0
  rw [HSS.out] at x1
  refine wp_region_noPanic ?_
  refine shown_region S X (.slice ar nr cr) (.slice al nl cl) (.slice ak nk ck) _ HS8.out HR8.out HL8.out HK8.out x0 x1 _ _ _ _ _ _ _ _ _ _ _ _ _ _ _ _ _ _ _ _ _ _ _ _ _ _ _ _ _ _ _ _ _ _ _ _ _ _ _ _ _ _ _ _ _ _ _ _ _ _ _ _ _ _ _ _ _ _ _ _ _ _ _ _ _ _ _ _ _ _ _ _ _ _ _ _ _ _ _ _ _ _ _ _ _ _ _ _ _ _ _ _ (fun _ _ _ _ _ h => h) ?_
  intro u0 u1 u2 u3 u4 u5 u6 u7 u8 u9 u10 u11 u12 u13 u14 u15 u16 u17 u18 u19 u20 u21 u22 u23 u24 u25 u26 u27 u28 u29 u30 u31 u32 u33 u34 u35 u36 u37 u38 u39 u40 u41 u42 u43 wx hgx
  refine NoPanic.normal ?_
  have HGX := Lib.hid (HG8.out.trans hgx)
  clear hgx x0 x1
  go_wp2_with fail
  go_ret
  exact ⟨rfl, HGX.out⟩
end Go.Proofs.YtfpdemmdkiohhaaGreat.Mo
