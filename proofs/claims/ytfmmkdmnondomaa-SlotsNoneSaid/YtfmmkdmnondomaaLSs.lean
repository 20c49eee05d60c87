import Derived.Test.YtfmmkdmnondomaaLSD
/- The law SlotsNone. -/
namespace Go.Proofs.Ytfmmkdmnondomaa
open Go.RowKit
set_option linter.unusedVariables false

set_option maxRecDepth 100000 in
set_option maxHeartbeats 4000000 in
theorem none8_all (l : List Int) (u : Value) (k : Int) (w : World) (hk : -9223372036854775808 ≤ k ∧ k ≤ 9223372036854775807) (hu : Lo.HasQ w u l) :
    Calls Try.prog 5 #[u, .int .i64 k] w (Truth w) := by
  have HU := Lib.hid hu
  obtain ⟨-, xa, ca, rfl, -, -, -⟩ := hu
  obtain ⟨la, hla⟩ : ∃ la, la = l.length := ⟨_, rfl⟩
  rw [← hla] at HU ⊢
  have hz := zero_slots
  obtain ⟨Z, hZ⟩ : ∃ Z, Z = slcells 0 0 0 0 (List.replicate 64 0) 0 (List.replicate 32 0) (.pointer none) := ⟨_, rfl⟩
  have hsz : Z.size = 102 := by rw [hZ, slcells_size]; rfl
  have HZC := Lib.hid (show Z[101]? = some (.pointer none) by rw [hZ, slcells_v _ _ _ _ _ _ _ _ (by simp) (by simp)])
  rw [← hZ] at hz
  have hne : ¬ Z = #[] := fun e => by rw [e] at hsz; simp at hsz
  have hsz2 : ¬ Z.size < 2 := by omega
  clear hZ hla
  go_enter Try.func5, Try.ntmps5
  go_wp2_with fail
  obtain ⟨W2, hW2⟩ : ∃ W2 : World, W2 = (w.alloc (.cells Z 49)).alloc (.cells #[.pointer none, .pointer (some ⟨w.heap.size, 0, none⟩)] 27) := ⟨_, rfl⟩
  have HZB := Lib.hid (show Blk 49 W2 w.heap.size Z from by rw [hW2]; exact (Blk.new _ w Z).later (Gr.new _ _))
  have HAB := Lib.hid (show Blk 27 W2 (w.heap.size + 1) #[.pointer none, .pointer (some ⟨w.heap.size, 0, none⟩)] from by
    have h := Blk.new 27 (w.alloc (.cells Z 49)) #[.pointer none, .pointer (some ⟨w.heap.size, 0, none⟩)]
    rw [hW2]; simpa using h)
  have HG2 := Lib.hid (show Gr w W2 from by rw [hW2]; exact (Gr.new w _).alloc _)
  rw [← hW2]
  obtain ⟨B, hB⟩ : ∃ B, B = w.heap.size + 1 := ⟨_, rfl⟩
  rw [← hB] at HAB ⊢
  clear hW2 hB hz hne hsz2 hsz
  go_loopw [6] (fun t wr => ∃ i : Nat, t = .int .i64 i ∧ i ≤ 2 ∧ Gr W2 wr) (fun t _ => 2 - (intOf t).toNat)
  case atStart => exact ⟨0, rfl, by omega, Gr.refl _⟩
  case round =>
    obtain ⟨i, rfl, hi, hg⟩ := hrel
    have HG := Lib.hid hg
    clear hg
    by_cases hlt : i < 2
    · have i1 : (i : Int) < 2 := by omega
      obtain ⟨p, hp, hno⟩ : ∃ p, wr.cell? ⟨B, i, none⟩ = some (.pointer p) ∧ NoSl wr (.pointer p) := by
        have h1 := (HAB.out.later HG.out).cell i
        have h2 : i = 0 ∨ i = 1 := by omega
        rcases h2 with rfl | rfl
        · exact ⟨none, h1, .inl rfl⟩
        · exact ⟨some ⟨w.heap.size, 0, none⟩, h1, .inr ⟨w.heap.size, rfl, by rw [(HZB.out.later HG.out).cell]; exact HZC.out⟩⟩
      have HNO := Lib.hid hno
      have HUW := Lib.hid (HU.out.later (HG2.out.trans HG.out))
      clear hno
      go_wp2_with fail
      refine (sEncode_none _ _ k l _ HNO.out HUW.out).mono ?_
      rintro e w3 ⟨g3, m3, c3, l3, rfl, hq, rfl, -, hg⟩
      obtain rfl := nil_len hq
      have HG := Lib.hid (HG.out.trans hg)
      have HNO := Lib.hid (HNO.out.later hg)
      have HUW := Lib.hid (HUW.out.later hg)
      clear hq hg
      go_wp2_with fail
      refine (sDecode_none _ _ k l _ HNO.out HUW.out).mono ?_
      rintro e w4 ⟨g4, m4, c4, l4, rfl, hq, rfl, -, hg⟩
      obtain rfl := nil_len hq
      have HG := Lib.hid (HG.out.trans hg)
      have HNO := Lib.hid (HNO.out.later hg)
      clear hq hg
      go_wp2_with fail
      refine (sPower_none _ k true _ HNO.out).mono ?_
      rintro e w5 ⟨rfl, hg⟩
      have HG := Lib.hid (HG.out.trans hg)
      have HNO := Lib.hid (HNO.out.later hg)
      clear hg
      go_wp2_with fail
      refine (sMoves_none _ k _ HNO.out).mono ?_
      rintro e w6 ⟨g6, m6, c6, l6, rfl, hq, rfl, -, hg⟩
      obtain rfl := nil_len hq
      have HG := Lib.hid (HG.out.trans hg)
      clear hq hg
      go_wp2_with fail
      go_roundw
      case rel => exact ⟨i + 1, by go_num, by omega, HG.out⟩
      case measure => simp [intOf]; omega
    · obtain rfl : i = 2 := by omega
      go_wp2_with fail
      refine (awake8_any _).mono ?_
      rintro e w7 ⟨rfl, hg⟩
      have HG := Lib.hid ((HG2.out.trans HG.out).trans hg)
      clear hg
      go_wp2_with fail
      go_ret
      exact ⟨rfl, HG.out⟩
end Go.Proofs.Ytfmmkdmnondomaa
