/- Check, Add, Sub, Mul. -/
import Derived.Test.YtaenjbemkeghgaaPchk
namespace Go.Proofs.Ytaenjbemkeghgaa
open Go.RowKit
set_option linter.unusedVariables false

/-- A polynomial and an error number are returned. -/
def PolE (L : List Int) (E : Int) (w : World) (e : Ending) (w' : World) : Prop :=
  ∃ x n c, e = .returned (.tuple #[.slice x n c, .int .i64 E]) ∧ HasP w' (.slice x n c) L ∧ (∀ p, x = some p → w.heap.size ≤ p.block) ∧ Gr w w'
theorem ll_one {w : World} {xa : Option Addr} {na ca : Nat} {a : List Int} (ha : HasP w (.slice xa na ca) a) (g : Nat) (hg : g = w.heap.size) : HasLL (w.alloc (.cells #[.slice xa na ca] 23)) g 1 [.slice xa na ca] [a] := by
  subst hg
  refine ⟨rfl, rfl, fun i hi => ?_⟩
  obtain rfl : i = 0 := by simpa using hi
  exact ⟨xa, na, ca, by simp [go_sem], ha.later (Gr.new w _)⟩
theorem ll_two {w : World} {xa xb : Option Addr} {na ca nb cb : Nat} {a b : List Int} (ha : HasP w (.slice xa na ca) a) (hb : HasP w (.slice xb nb cb) b) (g : Nat) (hg : g = w.heap.size) : HasLL (w.alloc (.cells #[.slice xa na ca, .slice xb nb cb] 23)) g 2 [.slice xa na ca, .slice xb nb cb] [a, b] := by
  subst hg
  refine ⟨rfl, rfl, fun i hi => ?_⟩
  have : i = 0 ∨ i = 1 := by simp at hi; omega
  rcases this with rfl | rfl
  · exact ⟨xa, na, ca, by simp [go_sem], ha.later (Gr.new w _)⟩
  · exact ⟨xb, nb, cb, by simp [go_sem], hb.later (Gr.new w _)⟩

set_option maxHeartbeats 1000000 in
theorem pCheck_any (m : Int) (a : List Int) (u : Value) (w : World) (hu : HasP w u a) (hla : a.length ≤ 9223372036854775807) :
    Calls Try.prog 18 #[.int .u32 m, u] w (fun e w' => e = .returned (.int .i64 (checkE m [a])) ∧ Gr w w') := by
  obtain ⟨-, xa, ca, rfl, -, -, -⟩ := id hu
  obtain ⟨na, hna⟩ : ∃ na, na = a.length := ⟨_, rfl⟩
  rw [← hna] at hu ⊢
  have HU := Lib.hid hu
  have HLL := Lib.hid (show ∀ l ∈ [a], l.length ≤ 9223372036854775807 from fun l hl => by simp at hl; subst hl; exact hla)
  clear hu hna
  go_enter Try.func18, Try.ntmps18
  go_wp2_with fail
  refine (check_any m w.heap.size 1 _ [a] _ (ll_one HU.out _ rfl) (by omega) HLL.out).mono ?_
  rintro e w1 ⟨rfl, rfl⟩
  go_wp2_with fail
  go_ret
  exact ⟨rfl, Gr.new w _⟩

def addL (m : Int) (a b : List Int) : List Int := if checkE m [a, b] = 0 then Op.nf m (Op.add a b) else []
set_option maxRecDepth 100000 in
set_option maxHeartbeats 1000000 in
theorem pAdd_any (m : Int) (a b : List Int) (u v : Value) (w : World) (hu : HasP w u a) (hv : HasP w v b) (hla : a.length ≤ 1000) (hlb : b.length ≤ 1000) :
    Calls Try.prog 20 #[.int .u32 m, u, v] w (PolE (addL m a b) (checkE m [a, b]) w) := by
  obtain ⟨-, xa, ca, rfl, -, -, -⟩ := id hu
  obtain ⟨-, xb, cb, rfl, -, -, -⟩ := id hv
  obtain ⟨na, hna⟩ : ∃ na, na = a.length := ⟨_, rfl⟩
  obtain ⟨nb, hnb⟩ : ∃ nb, nb = b.length := ⟨_, rfl⟩
  rw [← hna] at hu ⊢
  rw [← hnb] at hv ⊢
  have HU := Lib.hid hu
  have HV := Lib.hid hv
  have HLA := Lib.hid hla
  have HLB := Lib.hid hlb
  have HLL := Lib.hid (show ∀ l ∈ [a, b], l.length ≤ 9223372036854775807 from fun l hl => by simp at hl; rcases hl with rfl | rfl <;> omega)
  have HIFF := Lib.hid (checkE_two (m := m) hu.1 hv.1)
  obtain ⟨E, hE⟩ : ∃ E, E = checkE m [a, b] := ⟨_, rfl⟩
  try rw [← hE]
  have HE := Lib.hid hE
  clear hu hv hla hlb hna hnb hE
  by_cases h0 : E = 0
  · subst h0
    have HOK := Lib.hid (HIFF.out.1 HE.out.symm)
    have H0 := Lib.hid (show (0 : Int) = 0 from rfl)
    have HMB := Lib.hid (show 1 ≤ m ∧ m ≤ 4294967295 from by have := HOK.out.1; unfold okM at this; omega)
    go_enter Try.func20, Try.ntmps20
    go_wp2_with fail
    refine (check_any m w.heap.size 2 _ [a, b] _ (ll_two HU.out HV.out _ rfl) (by omega) HLL.out).mono ?_
    rintro e w1 ⟨rfl, rfl⟩
    rw [← HE.out]
    go_wp2_with fail
    refine (sum_any m 1 a b _ _ _ HMB.out (by omega) HOK.out.2.1.2.1 (HU.out.later (Gr.new w _)) (HV.out.later (Gr.new w _)) (by have := HLA.out; omega) (by have := HLB.out; omega)).mono ?_
    rintro e w2 ⟨x, n, c, rfl, hx, hfr, hg⟩
    have HX := Lib.hid hx
    have HFR := Lib.hid hfr
    have HG := Lib.hid ((Gr.new w _).trans hg)
    clear hx hfr hg
    go_wp2_with fail
    go_ret2
    exact ⟨_, _, _, rfl, by have h : addL m a b = Op.nf m (Op.add a (Op.sc 1 b)) := (if_pos HE.out.symm).trans (Op.nf_iff (by have := HMB.out; omega) (Op.Cg.of (fun i => by rw [Op.cf_add, Op.cf_add, Op.cf_sc, Int.one_mul]))); rw [h]; exact HX.out, (fun p hp => by have := HFR.out p hp; rw [World.size_alloc] at this; omega), HG.out⟩
  · have hf : (E != 0) = true := by simp [h0]
    have HN := Lib.hid (show addL m a b = [] from if_neg (by rw [← HE.out]; exact h0))
    go_enter Try.func20, Try.ntmps20
    go_wp2_with fail
    refine (check_any m w.heap.size 2 _ [a, b] _ (ll_two HU.out HV.out _ rfl) (by omega) HLL.out).mono ?_
    rintro e w1 ⟨rfl, rfl⟩
    rw [← HE.out]
    go_wp2_with fail
    go_ret2
    exact ⟨_, _, _, rfl, by rw [HN.out]; exact HasP.nil _, (fun p hp => by cases hp), Gr.new w _⟩

def subL (m : Int) (a b : List Int) : List Int := if checkE m [a, b] = 0 then Op.nf m (Op.add a (Op.sc (-1) b)) else []
set_option maxRecDepth 100000 in
set_option maxHeartbeats 1000000 in
theorem pSub_any (m : Int) (a b : List Int) (u v : Value) (w : World) (hu : HasP w u a) (hv : HasP w v b) (hla : a.length ≤ 1000) (hlb : b.length ≤ 1000) :
    Calls Try.prog 21 #[.int .u32 m, u, v] w (PolE (subL m a b) (checkE m [a, b]) w) := by
  obtain ⟨-, xa, ca, rfl, -, -, -⟩ := id hu
  obtain ⟨-, xb, cb, rfl, -, -, -⟩ := id hv
  obtain ⟨na, hna⟩ : ∃ na, na = a.length := ⟨_, rfl⟩
  obtain ⟨nb, hnb⟩ : ∃ nb, nb = b.length := ⟨_, rfl⟩
  rw [← hna] at hu ⊢
  rw [← hnb] at hv ⊢
  have HU := Lib.hid hu
  have HV := Lib.hid hv
  have HLA := Lib.hid hla
  have HLB := Lib.hid hlb
  have HLL := Lib.hid (show ∀ l ∈ [a, b], l.length ≤ 9223372036854775807 from fun l hl => by simp at hl; rcases hl with rfl | rfl <;> omega)
  have HIFF := Lib.hid (checkE_two (m := m) hu.1 hv.1)
  obtain ⟨E, hE⟩ : ∃ E, E = checkE m [a, b] := ⟨_, rfl⟩
  try rw [← hE]
  have HE := Lib.hid hE
  clear hu hv hla hlb hna hnb hE
  by_cases h0 : E = 0
  · subst h0
    have HOK := Lib.hid (HIFF.out.1 HE.out.symm)
    have H0 := Lib.hid (show (0 : Int) = 0 from rfl)
    have HMB := Lib.hid (show 1 ≤ m ∧ m ≤ 4294967295 from by have := HOK.out.1; unfold okM at this; omega)
    have hm0 : 2 ≤ m := by have := HOK.out.1; unfold okM at this; omega
    have hm1 : m ≤ 2147483647 := by have := HOK.out.1; unfold okM at this; omega
    go_enter Try.func21, Try.ntmps21
    go_wp2_with fail
    refine (check_any m w.heap.size 2 _ [a, b] _ (ll_two HU.out HV.out _ rfl) (by omega) HLL.out).mono ?_
    rintro e w1 ⟨rfl, rfl⟩
    rw [← HE.out]
    go_wp2_with fail
    refine (sum_any m (m - 1) a b _ _ _ HMB.out (by have := HMB.out; omega) HOK.out.2.1.2.1 (HU.out.later (Gr.new w _)) (HV.out.later (Gr.new w _)) (by have := HLA.out; omega) (by have := HLB.out; omega)).mono ?_
    rintro e w2 ⟨x, n, c, rfl, hx, hfr, hg⟩
    have HX := Lib.hid hx
    have HFR := Lib.hid hfr
    have HG := Lib.hid ((Gr.new w _).trans hg)
    clear hx hfr hg
    go_wp2_with fail
    go_ret2
    exact ⟨_, _, _, rfl, by have h : subL m a b = Op.nf m (Op.add a (Op.sc (m - 1) b)) := (if_pos HE.out.symm).trans (Op.nf_iff (by have := HMB.out; omega) ((Op.Cg.refl m a).add (Op.Cg.scm b ⟨-1, by omega⟩))); rw [h]; exact HX.out, (fun p hp => by have := HFR.out p hp; rw [World.size_alloc] at this; omega), HG.out⟩
  · have hf : (E != 0) = true := by simp [h0]
    have HN := Lib.hid (show subL m a b = [] from if_neg (by rw [← HE.out]; exact h0))
    go_enter Try.func21, Try.ntmps21
    go_wp2_with fail
    refine (check_any m w.heap.size 2 _ [a, b] _ (ll_two HU.out HV.out _ rfl) (by omega) HLL.out).mono ?_
    rintro e w1 ⟨rfl, rfl⟩
    rw [← HE.out]
    go_wp2_with fail
    go_ret2
    exact ⟨_, _, _, rfl, by rw [HN.out]; exact HasP.nil _, (fun p hp => by cases hp), Gr.new w _⟩

def mulE (m : Int) (a b : List Int) : Int := if checkE m [a, b] = 0 then (if 257 < a.length + b.length then 3 else 0) else checkE m [a, b]
def mulL (m : Int) (a b : List Int) : List Int := if mulE m a b = 0 then Op.nf m (Op.mul a b) else []
set_option maxRecDepth 100000 in
set_option maxHeartbeats 1000000 in
theorem pMul_any (m : Int) (a b : List Int) (u v : Value) (w : World) (hu : HasP w u a) (hv : HasP w v b) (hla : a.length ≤ 1000) (hlb : b.length ≤ 1000) :
    Calls Try.prog 22 #[.int .u32 m, u, v] w (PolE (mulL m a b) (mulE m a b) w) := by
  obtain ⟨-, xa, ca, rfl, -, -, -⟩ := id hu
  obtain ⟨-, xb, cb, rfl, -, -, -⟩ := id hv
  obtain ⟨na, hna⟩ : ∃ na, na = a.length := ⟨_, rfl⟩
  obtain ⟨nb, hnb⟩ : ∃ nb, nb = b.length := ⟨_, rfl⟩
  rw [← hna] at hu ⊢
  rw [← hnb] at hv ⊢
  have HU := Lib.hid hu
  have HV := Lib.hid hv
  have HNA := Lib.hid hna
  have HNB := Lib.hid hnb
  have HLA := Lib.hid hla
  have HLB := Lib.hid hlb
  have HLL := Lib.hid (show ∀ l ∈ [a, b], l.length ≤ 9223372036854775807 from fun l hl => by simp at hl; rcases hl with rfl | rfl <;> omega)
  have HIFF := Lib.hid (checkE_two (m := m) hu.1 hv.1)
  obtain ⟨E, hE⟩ : ∃ E, E = checkE m [a, b] := ⟨_, rfl⟩
  try rw [← hE]
  have HE := Lib.hid hE
  clear hu hv hla hlb hna hnb hE
  by_cases h0 : E = 0
  · subst h0
    have HOK := Lib.hid (HIFF.out.1 HE.out.symm)
    have H0 := Lib.hid (show (0 : Int) = 0 from rfl)
    have HMB := Lib.hid (show 1 ≤ m ∧ m ≤ 4294967295 from by have := HOK.out.1; unfold okM at this; omega)
    by_cases hlong : (257 : Int) < (na : Int) + (nb : Int)
    case' neg =>
      have HME := Lib.hid (show mulE m a b = 0 from by unfold mulE; rw [← HE.out, if_pos H0.out]; exact if_neg (by have := HNA.out; have := HNB.out; omega))
      have HN := Lib.hid (show mulL m a b = Op.nf m (Op.mul a b) from if_pos HME.out)
    case' pos =>
      have HME := Lib.hid (show mulE m a b = 3 from by unfold mulE; rw [← HE.out, if_pos H0.out]; exact if_pos (by have := HNA.out; have := HNB.out; omega))
      have HN := Lib.hid (show mulL m a b = [] from if_neg (by rw [HME.out]; decide))
    all_goals
     rw [HME.out]
     have hba : na ≤ 1000 := by have := HLA.out; have := HNA.out; omega
     have hbb : nb ≤ 1000 := by have := HLB.out; have := HNB.out; omega
     go_enter Try.func22, Try.ntmps22
     go_wp2_with fail
     refine (check_any m w.heap.size 2 _ [a, b] _ (ll_two HU.out HV.out _ rfl) (by omega) HLL.out).mono ?_
     rintro e w1 ⟨rfl, rfl⟩
     rw [← HE.out]
    · go_wp2_with fail
      go_ret2
      exact ⟨_, _, _, rfl, by rw [HN.out]; exact HasP.nil _, (fun p hp => by cases hp), Gr.new w _⟩
    · go_wp2_with fail
      refine (product_any m a b _ _ _ HMB.out (HU.out.later (Gr.new w _)) (HV.out.later (Gr.new w _)) (by have := HLA.out; omega) (by have := HLB.out; omega)).mono ?_
      rintro e w2 ⟨x, n, c, rfl, hx, hfr, hg⟩
      have HX := Lib.hid hx
      have HFR := Lib.hid hfr
      have HG := Lib.hid ((Gr.new w _).trans hg)
      clear hx hfr hg
      go_wp2_with fail
      go_ret2
      exact ⟨_, _, _, rfl, by rw [HN.out]; exact HX.out, (fun p hp => by have := HFR.out p hp; rw [World.size_alloc] at this; omega), HG.out⟩
  · have hf : (E != 0) = true := by simp [h0]
    have HME := Lib.hid (show mulE m a b = E from by unfold mulE; rw [← HE.out]; exact if_neg h0)
    have HN := Lib.hid (show mulL m a b = [] from if_neg (by rw [HME.out]; exact h0))
    rw [HME.out]
    go_enter Try.func22, Try.ntmps22
    go_wp2_with fail
    refine (check_any m w.heap.size 2 _ [a, b] _ (ll_two HU.out HV.out _ rfl) (by omega) HLL.out).mono ?_
    rintro e w1 ⟨rfl, rfl⟩
    rw [← HE.out]
    go_wp2_with fail
    go_ret2
    exact ⟨_, _, _, rfl, by rw [HN.out]; exact HasP.nil _, (fun p hp => by cases hp), Gr.new w _⟩

end Go.Proofs.Ytaenjbemkeghgaa
